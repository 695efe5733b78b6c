/-
  TEXTS JOINED: Drawn, Two, BitR, Bit, Tmask, DiskCr, DiskGood. Each one's own words stand at its head.
-/
import Derived.Test.YtoempaagpgoilaaDoorJ0
import Derived.Deep.QuietTactic
import Derived.BigQuiet
import Derived.Below
import Derived.Test.YtoempaagpgoilaaDoorJ3
import Derived.Lib.Hide
import Derived.Deep.RegionHeld3
import Derived.Sort.Walk0
/-
  DRAWS ALONE: calls that change nothing but what was drawn. Nothing here speaks of the program's functions. No condition.
-/
namespace Go.Proofs.YtoempaagpgoilaaDoor
open Go.RowKit
/-- draws alone -/
def Drawn (w w' : World) : Prop := ∃ n, w' = w.drewN n
theorem Drawn.cell {w w' : World} (h : Drawn w w') (a : Addr) : w'.cell? a = w.cell? a := by obtain ⟨n, rfl⟩ := h; simp
theorem Drawn.refl (w : World) : Drawn w w := ⟨0, rfl⟩
theorem Drawn.then {w w' : World} (h : Drawn w w') (n : Nat) : Drawn w (w'.drewN n) := by obtain ⟨m, rfl⟩ := h; exact ⟨_, World.drewN_drewN _ _ _⟩
theorem Drawn.grown {w w' : World} (h : Drawn w w') : Below w.heap.size w w' := by
  obtain ⟨n, rfl⟩ := h
  exact ⟨rfl, rfl, rfl, Nat.le_refl _, fun _ _ => rfl⟩
end Go.Proofs.YtoempaagpgoilaaDoor
/-
  LAYER 1 (word), what later layers take of it: what the reference's Two answers.
-/
namespace Go.Proofs.YtoempaagpgoilaaDoor
open Go.RowKit
end Go.Proofs.YtoempaagpgoilaaDoor
/-
  LAYER 1 (word), what later layers take of it: what the reference's Bit answers. Bytes must lie where the slice says.
-/
namespace Go.Proofs.YtoempaagpgoilaaDoor
open Go.RowKit
def bitB (zs : List Int) (k : Nat) : Bool := decide (zs.getD (k / 8) 0 / 2 ^ (k % 8) % 2 = 1)
/-- the bit of a slice of bytes, whatever the place -/
def bitI (zs : List Int) (i : Int) : Bool := decide (0 ≤ i) && decide (i / 8 < (zs.length : Int)) && bitB zs i.toNat
end Go.Proofs.YtoempaagpgoilaaDoor
/-
  LAYER 1 (word), what later layers take of it: what word.Bit answers. Bytes must lie where the slice says.
-/
namespace Go.Proofs.YtoempaagpgoilaaDoor
open Go.RowKit
end Go.Proofs.YtoempaagpgoilaaDoor
/-
  A VIEW OF A WORLD without some blocks and without the rows of one type that a call makes: what is told of the rest stays while such a row grows. Nothing here speaks of the program. No condition.
-/
namespace Go.Proofs.YtoempaagpgoilaaDoor
open Go.RowKit
/-! a view without F's blocks and without rows of type T from B on -/
end Go.Proofs.YtoempaagpgoilaaDoor
/-
  LAYER 8 (disk): what a crash leaves (plain mathematics), and a view of a world without the rows of files that a call makes. Nothing here speaks of the program's functions. No condition.
-/
namespace Go.Proofs.YtoempaagpgoilaaDoor
open Go.RowKit
/-- one sector behind a crash; i: how many waited ahead of it -/
def secC (kb : List Int) (torn cut : Int) (las seen : List Int) (wt : Bool) (i : Nat) : List Int :=
  if wt = true then (if (i : Int) = torn then mixN las seen (cutN cut) else if bitI kb (i : Int) = true then seen else las) else las
def chunk (l : List Int) (j : Nat) : List Int := (l.drop (j * 64)).take 64
theorem chunk_length (l : List Int) (n j : Nat) (h : l.length = n * 64) (hj : j < n) : (chunk l j).length = 64 := by simp [chunk]; omega
theorem secC_length (kb : List Int) (torn cut : Int) (las seen : List Int) (wt : Bool) (i : Nat) (h : las.length = 64) (h2 : seen.length = 64) : (secC kb torn cut las seen wt i).length = 64 := by
  unfold secC
  split
  · split
    · exact mixN_length _ _ _ h h2 (by unfold cutN; omega)
    · split <;> assumption
  · exact h
/-- the first j sectors of a file behind a crash, and how many waited then -/
def crS (kb : List Int) (torn cut : Int) (f : AF) (i0 : Nat) : Nat → List Int × Nat
  | 0 => ([], i0)
  | j + 1 => ((crS kb torn cut f i0 j).1 ++ secC kb torn cut (chunk f.las j) (chunk f.seen j) (f.ws.getD j false) (crS kb torn cut f i0 j).2, if f.ws.getD j false = true then (crS kb torn cut f i0 j).2 + 1 else (crS kb torn cut f i0 j).2)
theorem crS_length (kb : List Int) (torn cut : Int) (f : AF) (i0 : Nat) (hl : f.las.length = f.n * 64) (hs : f.seen.length = f.n * 64) : ∀ j, j ≤ f.n → (crS kb torn cut f i0 j).1.length = j * 64
  | 0, _ => by simp [crS]
  | j + 1, h => by
    simp only [crS, List.length_append]
    rw [crS_length kb torn cut f i0 hl hs j (by omega), secC_length _ _ _ _ _ _ _ (chunk_length _ f.n j hl (by omega)) (chunk_length _ f.n j hs (by omega))]
    omega
def crFile (kb : List Int) (torn cut : Int) (f : AF) (i0 : Nat) : AF := ⟨f.name, f.n, (crS kb torn cut f i0 f.n).1, (crS kb torn cut f i0 f.n).1, List.replicate f.n false⟩
/-- the first files behind a crash, and how many waited then -/
def crL (kb : List Int) (torn cut : Int) (L : List AF) : Nat → List AF × Nat
  | 0 => ([], 0)
  | k + 1 => match L[k]? with
    | some f => ((crL kb torn cut L k).1 ++ [crFile kb torn cut f (crL kb torn cut L k).2], (crS kb torn cut f (crL kb torn cut L k).2 f.n).2)
    | none => crL kb torn cut L k
theorem crL_step (kb : List Int) (torn cut : Int) (L : List AF) (k : Nat) (f : AF) (h : L[k]? = some f) :
    crL kb torn cut L (k + 1) = ((crL kb torn cut L k).1 ++ [crFile kb torn cut f (crL kb torn cut L k).2], (crS kb torn cut f (crL kb torn cut L k).2 f.n).2) := by simp only [crL, h]
theorem crL_length (kb : List Int) (torn cut : Int) (L : List AF) : ∀ k, k ≤ L.length → (crL kb torn cut L k).1.length = k
  | 0, _ => rfl
  | k + 1, h => by
    obtain ⟨f, hf⟩ := row_some (L := L) (i := k) (by omega)
    rw [crL_step kb torn cut L k f hf]
    simp [crL_length kb torn cut L k (by omega)]
def AD.crashR (d : AD) (kb : List Int) (torn cut : Int) : AD := { L := (crL kb torn cut d.L d.L.length).1, cap := d.cap, ops := d.ops, down := false, told := false, after := 0 }
end Go.Proofs.YtoempaagpgoilaaDoor
/-
  LAYER 8 (disk): what holds of every disk that calls come to (plain mathematics): names rise, each is a name, a file has 1 to 64 sectors, no more than the capacity. Nothing here speaks of the program's functions. No condition.
-/
namespace Go.Proofs.YtoempaagpgoilaaDoor
open Go.RowKit
/-- names rise -/
def Asc (L : List AF) : Prop := L.Pairwise fun f g => gtN g.name f.name = true
/-- a file as it may be -/
structure GF (f : AF) : Prop where
  name : rightB f.name = true
  n1 : 1 ≤ f.n
  n64 : f.n ≤ 64
  las : f.las.length = f.n * 64
  seen : f.seen.length = f.n * 64
  ws : f.ws.length = f.n
  blas : Bytes f.las
  bseen : Bytes f.seen
structure Good (d : AD) : Prop where
  asc : Asc d.L
  file : ∀ f ∈ d.L, GF f
  few : d.L.length ≤ 64
  cap0 : 0 ≤ d.cap
  cap1 : d.cap ≤ 1048576
  used : (usedN d.L : Int) ≤ d.cap
  ops : I63 d.ops
  after : I63 d.after
theorem Asc.without {L : List AF} (h : Asc L) (s : ByteArray) : Asc (withoutF L s) := h.sublist List.filter_sublist
theorem mem_without {L : List AF} {s : ByteArray} {f : AF} : f ∈ withoutF L s ↔ f ∈ L ∧ f.name ≠ s := by
  unfold withoutF; simp [List.mem_filter]
theorem Asc.ins {L : List AF} (h : Asc L) (f : AF) (hn : ∀ g ∈ L, g.name ≠ f.name) : Asc (insF L f) := by
  have hd := List.take_append_drop (insK L f) L
  have h1 : ∀ g ∈ L.take (insK L f), gtN f.name g.name = true := by
    intro g hg
    obtain ⟨j, hj, rfl⟩ := List.getElem_of_mem hg
    rw [List.length_take] at hj
    rw [List.getElem_take]
    exact gtN_total (insK_not L f j (by omega)) (hn _ (List.getElem_mem _))
  have h2 : ∀ g ∈ L.drop (insK L f), gtN g.name f.name = true := by
    intro g hg
    by_cases hk : insK L f < L.length
    · have h3 := insK_at L f hk
      rw [List.drop_eq_getElem_cons hk] at hg
      rcases List.mem_cons.1 hg with rfl | hg
      · exact h3
      · have h4 : Asc (L.drop (insK L f)) := h.sublist (List.drop_sublist _ _)
        rw [List.drop_eq_getElem_cons hk] at h4
        exact gtN_trans ((List.pairwise_cons.1 h4).1 g hg) h3
    · rw [List.drop_eq_nil_of_le (by omega)] at hg; simp at hg
  unfold insF Asc
  rw [List.pairwise_append]
  refine ⟨h.sublist (List.take_sublist _ _), List.pairwise_cons.2 ⟨h2, h.sublist (List.drop_sublist _ _)⟩, ?_⟩
  intro a ha b hb
  rcases List.mem_cons.1 hb with rfl | hb
  · exact h1 a ha
  · exact gtN_trans (h2 b hb) (h1 a ha)
theorem mem_ins {L : List AF} {f g : AF} : g ∈ insF L f ↔ g = f ∨ g ∈ L := by
  unfold insF
  rw [List.mem_append, List.mem_cons]
  have hd : g ∈ L ↔ g ∈ L.take (insK L f) ∨ g ∈ L.drop (insK L f) := by rw [← List.mem_append, List.take_append_drop]
  rw [hd]
  constructor
  · rintro (h | h | h)
    · exact .inr (.inl h)
    · exact .inl h
    · exact .inr (.inr h)
  · rintro (h | h | h)
    · exact .inr (.inl h)
    · exact .inl h
    · exact .inr (.inr h)
theorem ins_len (L : List AF) (f : AF) : (insF L f).length = L.length + 1 := by unfold insF; have := insK_le L f; simp; omega
/-- a file set aside leaves its room -/
theorem without_room : ∀ (L : List AF) (f : AF), f ∈ L → usedN (withoutF L f.name) + f.n ≤ usedN L ∧ (withoutF L f.name).length + 1 ≤ L.length
  | [], _, h => by simp at h
  | x :: t, f, h => by
    have h3 := usedN_without t f.name
    have h4 : (withoutF t f.name).length ≤ t.length := List.length_filter_le ..
    unfold withoutF usedN at h3
    unfold withoutF at h4
    unfold withoutF usedN
    rcases List.mem_cons.1 h with rfl | h
    · simp only [List.filter_cons, decide_true, Bool.not_true, Bool.false_eq_true, if_false, List.map_cons, List.sum_cons, List.length_cons]
      omega
    · obtain ⟨h1, h2⟩ := without_room t f h
      unfold withoutF usedN at h1
      unfold withoutF at h2
      simp only [List.filter_cons]
      split <;> simp only [List.map_cons, List.sum_cons, List.length_cons] <;> omega
theorem Good.without {d : AD} (h : Good d) (s : ByteArray) : Good (d.without s) :=
  ⟨h.asc.without s, fun f hf => h.file f (mem_without.1 hf).1, Nat.le_trans (List.length_filter_le ..) h.few, h.cap0, h.cap1, by
    have := usedN_without d.L s; have h2 := h.used; show ((usedN (withoutF d.L s) : Nat) : Int) ≤ d.cap; omega, h.ops, h.after⟩
theorem Good.put {d : AD} (h : Good d) {f : AF} (hf : GF f) (hu : ((usedN (withoutF d.L f.name) + f.n : Nat) : Int) ≤ d.cap) (hl : (withoutF d.L f.name).length + 1 ≤ 64) : Good (d.withF f) :=
  ⟨(h.asc.without f.name).ins f fun g hg => (mem_without.1 hg).2, fun g hg => by
    rcases mem_ins.1 hg with rfl | hg
    · exact hf
    · exact h.file g (mem_without.1 hg).1, by show (insF (withoutF d.L f.name) f).length ≤ 64; rw [ins_len]; exact hl, h.cap0, h.cap1, by
    show ((usedN (insF (withoutF d.L f.name) f) : Nat) : Int) ≤ d.cap; rw [usedN_insF]; exact hu, h.ops, h.after⟩
theorem wrap64_I63 (x : Int) : I63 (wrap64 x) := by unfold wrap64 I63; omega
theorem Good.op {d : AD} (h : Good d) : Good d.opd := by
  unfold AD.opd
  split
  · exact ⟨h.asc, h.file, h.few, h.cap0, h.cap1, h.used, h.ops, h.after⟩
  · refine ⟨h.asc, h.file, h.few, h.cap0, h.cap1, h.used, wrap64_I63 _, ?_⟩
    show I63 (if d.told = true then wrap64 (d.after - 1) else d.after)
    split
    · exact wrap64_I63 _
    · exact h.after
theorem Good.new (c : Int) (_h : I63 c) : Good (AD.newD c) :=
  ⟨List.Pairwise.nil, fun f hf => by simp [AD.newD] at hf, by simp [AD.newD], by simp only [AD.newD]; omega, by simp only [AD.newD]; omega, by simp only [AD.newD, usedN]; simp; omega, by simp [AD.newD, I63], by simp [AD.newD, I63]⟩
theorem opR_good {d : AD} (h : Good d) (g : AD → AD) (hg : ∀ x : AD, x = d.opd → Good x → Good (g x)) : Good (d.opR g).1 := by
  unfold AD.opR
  split
  · exact h.op
  · exact hg _ rfl h.op
theorem opd_cap (d : AD) : d.opd.cap = d.cap := by unfold AD.opd; split <;> rfl
theorem get_mem {d : AD} {s : ByteArray} (h : d.has s) : d.get s ∈ d.L := List.mem_of_getElem? (d.get_at s h)
theorem has_mem {d : AD} {s : ByteArray} (h : ¬ d.has s) : ∀ f ∈ d.L, f.name ≠ s := by
  intro f hf e
  apply h
  unfold AD.has idxN
  exact List.findIdx_lt_length.2 ⟨f, hf, by simpa using e⟩
theorem without_not {L : List AF} {s : ByteArray} (h : ∀ f ∈ L, f.name ≠ s) : withoutF L s = L := by
  unfold withoutF; rw [List.filter_eq_self]; intro f hf; simp [h f hf]
theorem bytes_iff (l : List Int) : Bytes l ↔ ∀ x ∈ l, 0 ≤ x ∧ x ≤ 255 := by
  constructor
  · intro h x hx
    obtain ⟨i, hi, rfl⟩ := List.getElem_of_mem hx
    have := h i
    simpa [List.getD, hi] using this
  · intro h i
    by_cases hi : i < l.length
    · have := h _ (List.getElem_mem hi)
      simpa [List.getD, hi] using this
    · simp [List.getD, List.getElem?_eq_none (Nat.not_lt.1 hi)]
theorem Bytes.zeros (n : Nat) : Bytes (List.replicate n 0) := by
  rw [bytes_iff]; intro x hx; rw [List.mem_replicate] at hx; obtain ⟨_, rfl⟩ := hx; omega
theorem newF_good (s : ByteArray) (n : Int) (hs : rightB s = true) (h : ¬ (n < 1 ∨ 64 < n)) : GF (newF s n.toNat) :=
  ⟨hs, by show 1 ≤ n.toNat; omega, by show n.toNat ≤ 64; omega, by simp [newF], by simp [newF], by simp [newF], Bytes.zeros _, Bytes.zeros _⟩
theorem Good.make {d : AD} (h : Good d) (s : ByteArray) (n : Int) : Good (d.makeR s n).1 := by
  unfold AD.makeR
  split
  · exact h
  split
  · exact h
  rename_i hr
  split
  · exact h
  rename_i hh
  split
  · exact h
  rename_i hn
  split
  · exact h
  rename_i hc
  refine opR_good h _ fun x hx hg => ?_
  subst hx
  have hL : withoutF d.L (newF s n.toNat).name = d.L := without_not (has_mem hh)
  refine hg.put (newF_good s n (by simpa using hr) hn) ?_ ?_
  · rw [AD.opd_L, hL, opd_cap]; show ((usedN d.L + n.toNat : Nat) : Int) ≤ d.cap; omega
  · rw [AD.opd_L, hL]; omega
/-- a file takes the place of one that is there -/
theorem Good.re {d : AD} (h : Good d) {f g : AF} (hf : f ∈ d.L) (hn : g.name = f.name) (hg : GF g) (hk : g.n = f.n) : Good (d.withF g) := by
  obtain ⟨h1, h2⟩ := without_room d.L f hf
  refine h.put hg ?_ ?_
  · rw [hn, hk]; have := h.used; omega
  · rw [hn]; have := h.few; omega
theorem Good.fail {d : AD} (h : Good d) (n : Int) (hn : I63 n) : Good (d.failR n).1 := by
  unfold AD.failR
  split
  · exact h
  split
  · exact h
  · exact ⟨h.asc, h.file, h.few, h.cap0, h.cap1, h.used, h.ops, hn⟩
theorem Good.remove {d : AD} (h : Good d) (s : ByteArray) : Good (d.removeR s).1 := by
  unfold AD.removeR
  split
  · exact h
  split
  · exact h
  · exact opR_good h _ fun x _ hg => hg.without s
theorem has_opd {d : AD} {s : ByteArray} (h : d.has s) : d.get s ∈ d.opd.L := by rw [AD.opd_L]; exact get_mem h
theorem Good.rename {d : AD} (h : Good d) (s t : ByteArray) : Good (d.renameR s t).1 := by
  unfold AD.renameR
  split
  · exact h
  split
  · exact h
  rename_i hh
  split
  · exact h
  rename_i hr
  split
  · exact h
  refine opR_good h _ fun x hx hg => ?_
  subst hx
  have hf := h.file _ (get_mem (Decidable.not_not.1 hh))
  have hm := has_opd (Decidable.not_not.1 hh)
  have hnm := d.get_name s (Decidable.not_not.1 hh)
  obtain ⟨h1, h2⟩ := without_room d.opd.L _ hm
  rw [hnm] at h1 h2
  have h3 := usedN_without (withoutF d.opd.L s) t
  have h4 : (withoutF (withoutF d.opd.L s) t).length ≤ (withoutF d.opd.L s).length := List.length_filter_le ..
  have h5 := hg.used
  have h6 := hg.few
  refine (hg.without s).put (f := { d.get s with name := t }) ⟨by simpa using hr, hf.n1, hf.n64, hf.las, hf.seen, hf.ws, hf.blas, hf.bseen⟩ ?_ ?_
  · show ((usedN (withoutF (withoutF d.opd.L s) t) + (d.get s).n : Nat) : Int) ≤ d.opd.cap; omega
  · show (withoutF (withoutF d.opd.L s) t).length + 1 ≤ 64; omega
theorem Bytes.take {l : List Int} (h : Bytes l) (n : Nat) : Bytes (l.take n) := (bytes_iff _).2 fun x hx => (bytes_iff _).1 h x (List.mem_of_mem_take hx)
theorem Bytes.drop {l : List Int} (h : Bytes l) (n : Nat) : Bytes (l.drop n) := (bytes_iff _).2 fun x hx => (bytes_iff _).1 h x (List.mem_of_mem_drop hx)
end Go.Proofs.YtoempaagpgoilaaDoor
