/-
  TEXTS JOINED: DiskCr, DiskGood, DiskSays, DkRow, DkSettle, DkAbs, DkLook. Each one's own words stand at its head.
-/
import Derived.Test.YtnmplnemnfonfaaGreatDoorJ4
import Derived.Test.YtnmplnemnfonfaaGreatDoorJ5
import Derived.Sort.Walk0
import Derived.Test.YtnmplnemnfonfaaGreatDoorJ2
import Derived.Deep.MidRow
import Derived.Test.YtnmplnemnfonfaaGreatDoorJ3
import Derived.Lib.MinMax
namespace Go.Proofs.YtnmplnemnfonfaaGreatDoor
open Go.RowKit
def secC (kb : List Int) (torn cut : Int) (las seen : List Int) (wt : Bool) (i : Nat) : List Int :=
  if wt = true then (if (i : Int) = torn then mixN las seen (cutN cut) else if bitI kb (i : Int) = true then seen else las) else las
def chunk (l : List Int) (j : Nat) : List Int := (l.drop (j * 64)).take 64
theorem chunk_length (l : List Int) (n j : Nat) (h : l.length = n * 64) (hj : j < n) : (chunk l j).length = 64 := by simp [chunk]; omega
theorem secC_length (kb : List Int) (torn cut : Int) (las seen : List Int) (wt : Bool) (i : Nat) (h : las.length = 64) (h2 : seen.length = 64) : (secC kb torn cut las seen wt i).length = 64 := by
  unfold secC
  split
  · split
    · exact mixN_length _ _ _ h h2 (by unfold cutN; omega)
    · split <;> assumption
  · exact h
def crS (kb : List Int) (torn cut : Int) (f : AF) (i0 : Nat) : Nat → List Int × Nat
  | 0 => ([], i0)
  | j + 1 => ((crS kb torn cut f i0 j).1 ++ secC kb torn cut (chunk f.las j) (chunk f.seen j) (f.ws.getD j false) (crS kb torn cut f i0 j).2, if f.ws.getD j false = true then (crS kb torn cut f i0 j).2 + 1 else (crS kb torn cut f i0 j).2)
theorem crS_length (kb : List Int) (torn cut : Int) (f : AF) (i0 : Nat) (hl : f.las.length = f.n * 64) (hs : f.seen.length = f.n * 64) : ∀ j, j ≤ f.n → (crS kb torn cut f i0 j).1.length = j * 64
  | 0, _ => by simp [crS]
  | j + 1, h => by
    simp only [crS, List.length_append]
    rw [crS_length kb torn cut f i0 hl hs j (by omega), secC_length _ _ _ _ _ _ _ (chunk_length _ f.n j hl (by omega)) (chunk_length _ f.n j hs (by omega))]
    omega
def crFile (kb : List Int) (torn cut : Int) (f : AF) (i0 : Nat) : AF := ⟨f.name, f.n, (crS kb torn cut f i0 f.n).1, (crS kb torn cut f i0 f.n).1, List.replicate f.n false⟩
def crL (kb : List Int) (torn cut : Int) (L : List AF) : Nat → List AF × Nat
  | 0 => ([], 0)
  | k + 1 => match L[k]? with
    | some f => ((crL kb torn cut L k).1 ++ [crFile kb torn cut f (crL kb torn cut L k).2], (crS kb torn cut f (crL kb torn cut L k).2 f.n).2)
    | none => crL kb torn cut L k
theorem crL_step (kb : List Int) (torn cut : Int) (L : List AF) (k : Nat) (f : AF) (h : L[k]? = some f) :
    crL kb torn cut L (k + 1) = ((crL kb torn cut L k).1 ++ [crFile kb torn cut f (crL kb torn cut L k).2], (crS kb torn cut f (crL kb torn cut L k).2 f.n).2) := by simp only [crL, h]
theorem crL_length (kb : List Int) (torn cut : Int) (L : List AF) : ∀ k, k ≤ L.length → (crL kb torn cut L k).1.length = k
  | 0, _ => rfl
  | k + 1, h => by
    obtain ⟨f, hf⟩ := row_some (L := L) (i := k) (by omega)
    rw [crL_step kb torn cut L k f hf]
    simp [crL_length kb torn cut L k (by omega)]
def AD.crashR (d : AD) (kb : List Int) (torn cut : Int) : AD := { L := (crL kb torn cut d.L d.L.length).1, cap := d.cap, ops := d.ops, down := false, told := false, after := 0 }
end Go.Proofs.YtnmplnemnfonfaaGreatDoor
namespace Go.Proofs.YtnmplnemnfonfaaGreatDoor
open Go.RowKit
def Asc (L : List AF) : Prop := L.Pairwise fun f g => gtN g.name f.name = true
structure GF (f : AF) : Prop where
  name : rightB f.name = true
  n1 : 1 ≤ f.n
  n64 : f.n ≤ 64
  las : f.las.length = f.n * 64
  seen : f.seen.length = f.n * 64
  ws : f.ws.length = f.n
  blas : Bytes f.las
  bseen : Bytes f.seen
structure Good (d : AD) : Prop where
  asc : Asc d.L
  file : ∀ f ∈ d.L, GF f
  few : d.L.length ≤ 64
  cap0 : 0 ≤ d.cap
  cap1 : d.cap ≤ 1048576
  used : (usedN d.L : Int) ≤ d.cap
  ops : I63 d.ops
  after : I63 d.after
theorem Asc.without {L : List AF} (h : Asc L) (s : ByteArray) : Asc (withoutF L s) := h.sublist List.filter_sublist
theorem mem_without {L : List AF} {s : ByteArray} {f : AF} : f ∈ withoutF L s ↔ f ∈ L ∧ f.name ≠ s := by
  unfold withoutF; simp [List.mem_filter]
theorem Asc.ins {L : List AF} (h : Asc L) (f : AF) (hn : ∀ g ∈ L, g.name ≠ f.name) : Asc (insF L f) := by
  have hd := List.take_append_drop (insK L f) L
  have h1 : ∀ g ∈ L.take (insK L f), gtN f.name g.name = true := by
    intro g hg
    obtain ⟨j, hj, rfl⟩ := List.getElem_of_mem hg
    rw [List.length_take] at hj
    rw [List.getElem_take]
    exact gtN_total (insK_not L f j (by omega)) (hn _ (List.getElem_mem _))
  have h2 : ∀ g ∈ L.drop (insK L f), gtN g.name f.name = true := by
    intro g hg
    by_cases hk : insK L f < L.length
    · have h3 := insK_at L f hk
      rw [List.drop_eq_getElem_cons hk] at hg
      rcases List.mem_cons.1 hg with rfl | hg
      · exact h3
      · have h4 : Asc (L.drop (insK L f)) := h.sublist (List.drop_sublist _ _)
        rw [List.drop_eq_getElem_cons hk] at h4
        exact gtN_trans ((List.pairwise_cons.1 h4).1 g hg) h3
    · rw [List.drop_eq_nil_of_le (by omega)] at hg; simp at hg
  unfold insF Asc
  rw [List.pairwise_append]
  refine ⟨h.sublist (List.take_sublist _ _), List.pairwise_cons.2 ⟨h2, h.sublist (List.drop_sublist _ _)⟩, ?_⟩
  intro a ha b hb
  rcases List.mem_cons.1 hb with rfl | hb
  · exact h1 a ha
  · exact gtN_trans (h2 b hb) (h1 a ha)
theorem mem_ins {L : List AF} {f g : AF} : g ∈ insF L f ↔ g = f ∨ g ∈ L := by
  unfold insF
  rw [List.mem_append, List.mem_cons]
  have hd : g ∈ L ↔ g ∈ L.take (insK L f) ∨ g ∈ L.drop (insK L f) := by rw [← List.mem_append, List.take_append_drop]
  rw [hd]
  constructor
  · rintro (h | h | h)
    · exact .inr (.inl h)
    · exact .inl h
    · exact .inr (.inr h)
  · rintro (h | h | h)
    · exact .inr (.inl h)
    · exact .inl h
    · exact .inr (.inr h)
theorem ins_len (L : List AF) (f : AF) : (insF L f).length = L.length + 1 := by unfold insF; have := insK_le L f; simp; omega
theorem without_room : ∀ (L : List AF) (f : AF), f ∈ L → usedN (withoutF L f.name) + f.n ≤ usedN L ∧ (withoutF L f.name).length + 1 ≤ L.length
  | [], _, h => by simp at h
  | x :: t, f, h => by
    have h3 := usedN_without t f.name
    have h4 : (withoutF t f.name).length ≤ t.length := List.length_filter_le ..
    unfold withoutF usedN at h3
    unfold withoutF at h4
    unfold withoutF usedN
    rcases List.mem_cons.1 h with rfl | h
    · simp only [List.filter_cons, decide_true, Bool.not_true, Bool.false_eq_true, if_false, List.map_cons, List.sum_cons, List.length_cons]
      omega
    · obtain ⟨h1, h2⟩ := without_room t f h
      unfold withoutF usedN at h1
      unfold withoutF at h2
      simp only [List.filter_cons]
      split <;> simp only [List.map_cons, List.sum_cons, List.length_cons] <;> omega
theorem Good.without {d : AD} (h : Good d) (s : ByteArray) : Good (d.without s) :=
  ⟨h.asc.without s, fun f hf => h.file f (mem_without.1 hf).1, Nat.le_trans (List.length_filter_le ..) h.few, h.cap0, h.cap1, by
    have := usedN_without d.L s; have h2 := h.used; show ((usedN (withoutF d.L s) : Nat) : Int) ≤ d.cap; omega, h.ops, h.after⟩
theorem Good.put {d : AD} (h : Good d) {f : AF} (hf : GF f) (hu : ((usedN (withoutF d.L f.name) + f.n : Nat) : Int) ≤ d.cap) (hl : (withoutF d.L f.name).length + 1 ≤ 64) : Good (d.withF f) :=
  ⟨(h.asc.without f.name).ins f fun g hg => (mem_without.1 hg).2, fun g hg => by
    rcases mem_ins.1 hg with rfl | hg
    · exact hf
    · exact h.file g (mem_without.1 hg).1, by show (insF (withoutF d.L f.name) f).length ≤ 64; rw [ins_len]; exact hl, h.cap0, h.cap1, by
    show ((usedN (insF (withoutF d.L f.name) f) : Nat) : Int) ≤ d.cap; rw [usedN_insF]; exact hu, h.ops, h.after⟩
theorem wrap64_I63 (x : Int) : I63 (wrap64 x) := by unfold wrap64 I63; omega
theorem Good.op {d : AD} (h : Good d) : Good d.opd := by
  unfold AD.opd
  split
  · exact ⟨h.asc, h.file, h.few, h.cap0, h.cap1, h.used, h.ops, h.after⟩
  · refine ⟨h.asc, h.file, h.few, h.cap0, h.cap1, h.used, wrap64_I63 _, ?_⟩
    show I63 (if d.told = true then wrap64 (d.after - 1) else d.after)
    split
    · exact wrap64_I63 _
    · exact h.after
theorem Good.new (c : Int) (_h : I63 c) : Good (AD.newD c) :=
  ⟨List.Pairwise.nil, fun f hf => by simp [AD.newD] at hf, by simp [AD.newD], by simp only [AD.newD]; omega, by simp only [AD.newD]; omega, by simp only [AD.newD, usedN]; simp; omega, by simp [AD.newD, I63], by simp [AD.newD, I63]⟩
theorem opR_good {d : AD} (h : Good d) (g : AD → AD) (hg : ∀ x : AD, x = d.opd → Good x → Good (g x)) : Good (d.opR g).1 := by
  unfold AD.opR
  split
  · exact h.op
  · exact hg _ rfl h.op
theorem opd_cap (d : AD) : d.opd.cap = d.cap := by unfold AD.opd; split <;> rfl
theorem get_mem {d : AD} {s : ByteArray} (h : d.has s) : d.get s ∈ d.L := List.mem_of_getElem? (d.get_at s h)
theorem has_mem {d : AD} {s : ByteArray} (h : ¬ d.has s) : ∀ f ∈ d.L, f.name ≠ s := by
  intro f hf e
  apply h
  unfold AD.has idxN
  exact List.findIdx_lt_length.2 ⟨f, hf, by simpa using e⟩
theorem without_not {L : List AF} {s : ByteArray} (h : ∀ f ∈ L, f.name ≠ s) : withoutF L s = L := by
  unfold withoutF; rw [List.filter_eq_self]; intro f hf; simp [h f hf]
theorem bytes_iff (l : List Int) : Bytes l ↔ ∀ x ∈ l, 0 ≤ x ∧ x ≤ 255 := by
  constructor
  · intro h x hx
    obtain ⟨i, hi, rfl⟩ := List.getElem_of_mem hx
    have := h i
    simpa [List.getD, hi] using this
  · intro h i
    by_cases hi : i < l.length
    · have := h _ (List.getElem_mem hi)
      simpa [List.getD, hi] using this
    · simp [List.getD, List.getElem?_eq_none (Nat.not_lt.1 hi)]
theorem Bytes.zeros (n : Nat) : Bytes (List.replicate n 0) := by
  rw [bytes_iff]; intro x hx; rw [List.mem_replicate] at hx; obtain ⟨_, rfl⟩ := hx; omega
theorem newF_good (s : ByteArray) (n : Int) (hs : rightB s = true) (h : ¬ (n < 1 ∨ 64 < n)) : GF (newF s n.toNat) :=
  ⟨hs, by show 1 ≤ n.toNat; omega, by show n.toNat ≤ 64; omega, by simp [newF], by simp [newF], by simp [newF], Bytes.zeros _, Bytes.zeros _⟩
theorem Good.make {d : AD} (h : Good d) (s : ByteArray) (n : Int) : Good (d.makeR s n).1 := by
  unfold AD.makeR
  split
  · exact h
  split
  · exact h
  rename_i hr
  split
  · exact h
  rename_i hh
  split
  · exact h
  rename_i hn
  split
  · exact h
  rename_i hc
  refine opR_good h _ fun x hx hg => ?_
  subst hx
  have hL : withoutF d.L (newF s n.toNat).name = d.L := without_not (has_mem hh)
  refine hg.put (newF_good s n (by simpa using hr) hn) ?_ ?_
  · rw [AD.opd_L, hL, opd_cap]; show ((usedN d.L + n.toNat : Nat) : Int) ≤ d.cap; omega
  · rw [AD.opd_L, hL]; omega
theorem Good.re {d : AD} (h : Good d) {f g : AF} (hf : f ∈ d.L) (hn : g.name = f.name) (hg : GF g) (hk : g.n = f.n) : Good (d.withF g) := by
  obtain ⟨h1, h2⟩ := without_room d.L f hf
  refine h.put hg ?_ ?_
  · rw [hn, hk]; have := h.used; omega
  · rw [hn]; have := h.few; omega
theorem Good.fail {d : AD} (h : Good d) (n : Int) (hn : I63 n) : Good (d.failR n).1 := by
  unfold AD.failR
  split
  · exact h
  split
  · exact h
  · exact ⟨h.asc, h.file, h.few, h.cap0, h.cap1, h.used, h.ops, hn⟩
theorem has_opd {d : AD} {s : ByteArray} (h : d.has s) : d.get s ∈ d.opd.L := by rw [AD.opd_L]; exact get_mem h
theorem Good.sync {d : AD} (h : Good d) (s : ByteArray) : Good (d.syncR s).1 := by
  unfold AD.syncR
  split
  · exact h
  split
  · exact h
  rename_i hh
  refine opR_good h _ fun x hx hg => ?_
  subst hx
  have hf := h.file _ (get_mem (Decidable.not_not.1 hh))
  exact hg.re (has_opd (Decidable.not_not.1 hh)) rfl ⟨hf.name, hf.n1, hf.n64, hf.seen, hf.seen, by simp, hf.bseen, hf.bseen⟩ rfl
theorem Good.rename {d : AD} (h : Good d) (s t : ByteArray) : Good (d.renameR s t).1 := by
  unfold AD.renameR
  split
  · exact h
  split
  · exact h
  rename_i hh
  split
  · exact h
  rename_i hr
  split
  · exact h
  refine opR_good h _ fun x hx hg => ?_
  subst hx
  have hf := h.file _ (get_mem (Decidable.not_not.1 hh))
  have hm := has_opd (Decidable.not_not.1 hh)
  have hnm := d.get_name s (Decidable.not_not.1 hh)
  obtain ⟨h1, h2⟩ := without_room d.opd.L _ hm
  rw [hnm] at h1 h2
  have h3 := usedN_without (withoutF d.opd.L s) t
  have h4 : (withoutF (withoutF d.opd.L s) t).length ≤ (withoutF d.opd.L s).length := List.length_filter_le ..
  have h5 := hg.used
  have h6 := hg.few
  refine (hg.without s).put (f := { d.get s with name := t }) ⟨by simpa using hr, hf.n1, hf.n64, hf.las, hf.seen, hf.ws, hf.blas, hf.bseen⟩ ?_ ?_
  · show ((usedN (withoutF (withoutF d.opd.L s) t) + (d.get s).n : Nat) : Int) ≤ d.opd.cap; omega
  · show (withoutF (withoutF d.opd.L s) t).length + 1 ≤ 64; omega
theorem Bytes.take {l : List Int} (h : Bytes l) (n : Nat) : Bytes (l.take n) := (bytes_iff _).2 fun x hx => (bytes_iff _).1 h x (List.mem_of_mem_take hx)
theorem Bytes.drop {l : List Int} (h : Bytes l) (n : Nat) : Bytes (l.drop n) := (bytes_iff _).2 fun x hx => (bytes_iff _).1 h x (List.mem_of_mem_drop hx)
theorem Bytes.app {l m : List Int} (h : Bytes l) (k : Bytes m) : Bytes (l ++ m) := (bytes_iff _).2 fun x hx => by
  rcases List.mem_append.1 hx with hx | hx
  · exact (bytes_iff _).1 h x hx
  · exact (bytes_iff _).1 k x hx
theorem Good.write {d : AD} (h : Good d) (s : ByteArray) (at_ : Int) (m : Nat) (fs : List Int) (hl : fs.length = m * 64) (hb : Bytes fs) : Good (d.writeR s at_ m fs).1 := by
  unfold AD.writeR
  split
  · exact h
  split
  · exact h
  rename_i hh
  split
  · exact h
  rename_i ha
  refine opR_good h _ fun x hx hg => ?_
  subst hx
  have hf := h.file _ (get_mem (Decidable.not_not.1 hh))
  have h1 := hf.seen
  have h2 := hf.ws
  refine hg.re (f := d.get s) (has_opd (Decidable.not_not.1 hh)) rfl ⟨hf.name, hf.n1, hf.n64, hf.las, ?_, ?_, hf.blas, ((hf.bseen.take _).app hb).app (hf.bseen.drop _)⟩ rfl
  · simp only [List.length_append, List.length_take, List.length_drop]; omega
  · simp only [List.length_append, List.length_take, List.length_drop, List.length_replicate]; omega
end Go.Proofs.YtnmplnemnfonfaaGreatDoor
namespace Go.Proofs.YtnmplnemnfonfaaGreatDoor
open Go.RowKit
def AD.files (d : AD) : List LFile := d.L.map fun f => (f.name, f.n, f.las)
def AD.names (d : AD) : List ByteArray := d.L.map AF.name
abbrev noF : Nat → Bool := fun _ => false
abbrev ptr (p : Addr) : Value := .pointer (some p)
structure DiskSays (DK : World → Addr → (Nat → Bool) → AD → Prop) : Prop where
  keep : ∀ {w w' : World} {p : Addr} {F : Nat → Bool} {d : AD}, DK w p F d → w.heap.size ≤ w'.heap.size → (∀ k, F k = true → w'.heap[k]? = w.heap[k]?) → DK w' p F d
  foot : ∀ {w : World} {p : Addr} {F : Nat → Bool} {d : AD}, DK w p F d → Foot F w.heap.size
  new : ∀ (c : Int) (w : World), I63 c → Calls Tryz.prog 7 #[.int .i64 c] w fun e w' => ∃ p F, e = .returned (ptr p) ∧ DK w' p F (AD.newD c) ∧ Ext noF w w' F
  make : ∀ (w : World) (p : Addr) (F : Nat → Bool) (d : AD) (s : ByteArray) (n : Int), DK w p F d → Good d → s.size ≤ 281474976710656 → I63 n →
    Calls Tryz.prog 8 #[ptr p, .string s, .int .i64 n] w fun e w' => ∃ F', e = .returned (.int .i64 (d.makeR s n).2) ∧ DK w' p F' (d.makeR s n).1 ∧ Ext F w w' F'
  write : ∀ (w : World) (p : Addr) (F : Nat → Bool) (d : AD) (s : ByteArray) (at_ : Int) (v : Value) (m : Nat) (fs : List Int), DK w p F d → Good d → s.size ≤ 281474976710656 → I63 at_ → FS (mask F w) v m fs → Bytes fs → m ≤ 1000000 →
    Calls Tryz.prog 27 #[ptr p, .string s, .int .i64 at_, v] w fun e w' => ∃ F', e = .returned (.int .i64 (d.writeR s at_ m fs).2) ∧ DK w' p F' (d.writeR s at_ m fs).1 ∧ Ext F w w' F'
  sync : ∀ (w : World) (p : Addr) (F : Nat → Bool) (d : AD) (s : ByteArray), DK w p F d → Good d → s.size ≤ 281474976710656 →
    Calls Tryz.prog 26 #[ptr p, .string s] w fun e w' => ∃ F', e = .returned (.int .i64 (d.syncR s).2) ∧ DK w' p F' (d.syncR s).1 ∧ Ext F w w' F'
  read : ∀ (w : World) (p : Addr) (F : Nat → Bool) (d : AD) (s : ByteArray) (at_ n : Int), DK w p F d → Good d → s.size ≤ 281474976710656 → I63 at_ → I63 n →
    Calls Tryz.prog 44 #[ptr p, .string s, .int .i64 at_, .int .i64 n] w fun e w' => ∃ v, e = .returned (.tuple #[v, .int .i64 (d.readR s at_ n).2.2]) ∧ FS w' v (d.readR s at_ n).2.1 (d.readR s at_ n).1 ∧ Below w.heap.size w w'
  size : ∀ (w : World) (p : Addr) (F : Nat → Bool) (d : AD) (s : ByteArray), DK w p F d → Good d → s.size ≤ 281474976710656 →
    Calls Tryz.prog 24 #[ptr p, .string s] w fun e w' => e = .returned (.int .i64 (if d.has s then ((d.get s).n : Int) else 0)) ∧ Below w.heap.size w w'
  used : ∀ (w : World) (p : Addr) (F : Nat → Bool) (d : AD), DK w p F d → Good d →
    Calls Tryz.prog 42 #[ptr p] w fun e w' => e = .returned (.int .i64 (usedN d.L : Int)) ∧ Below w.heap.size w w'
structure NilSays : Prop where
  make : ∀ (w : World) (s : ByteArray) (n : Int), Calls Tryz.prog 8 #[.pointer none, .string s, .int .i64 n] w fun e w' => e = .returned (.int .i64 11) ∧ Below w.heap.size w w'
  write : ∀ (w : World) (s : ByteArray) (n : Int), Calls Tryz.prog 27 #[.pointer none, .string s, .int .i64 n, .slice none 0 0] w fun e w' => e = .returned (.int .i64 11) ∧ Below w.heap.size w w'
  read : ∀ (w : World) (s : ByteArray) (n m : Int), Calls Tryz.prog 44 #[.pointer none, .string s, .int .i64 n, .int .i64 m] w fun e w' => ∃ v, e = .returned (.tuple #[v, .int .i64 11]) ∧ Below w.heap.size w w'
  sync : ∀ (w : World) (s : ByteArray), Calls Tryz.prog 26 #[.pointer none, .string s] w fun e w' => e = .returned (.int .i64 11) ∧ Below w.heap.size w w'
  size : ∀ (w : World) (s : ByteArray), Calls Tryz.prog 24 #[.pointer none, .string s] w fun e w' => e = .returned (.int .i64 0) ∧ Below w.heap.size w w'
  used : ∀ (w : World), Calls Tryz.prog 42 #[.pointer none] w fun e w' => e = .returned (.int .i64 0) ∧ Below w.heap.size w w'
theorem DiskSays.below {DK : World → Addr → (Nat → Bool) → AD → Prop} (H : DiskSays DK) {w w' : World} {p : Addr} {F : Nat → Bool} {d : AD} (h : DK w p F d) (hb : Below w.heap.size w w') : DK w' p F d :=
  H.keep h hb.size fun k hk => hb.block k (H.foot h k hk)
theorem DiskSays.apart {DK : World → Addr → (Nat → Bool) → AD → Prop} (H : DiskSays DK) {w w' : World} {p : Addr} {F G G' : Nat → Bool} {d : AD} (h : DK w p F d) (hx : Ext G w w' G') (ha : ∀ k, F k = true → G k = false) : DK w' p F d :=
  H.keep h hx.size fun k hk => hx.block k (H.foot h k hk) (ha k hk)
end Go.Proofs.YtnmplnemnfonfaaGreatDoor
namespace Go.Proofs.YtnmplnemnfonfaaGreatDoor
open Go.RowKit
structure Sc where
  la : List Int
  se : List Int
  wt : Bool
structure Sc.ok (s : Sc) : Prop where
  la : s.la.length = 64
  se : s.se.length = 64
def Sc.cells (s : Sc) : List Value := il .u8 s.la ++ (il .u8 s.se ++ [.bool s.wt])
theorem Sc.ok.len {s : Sc} (h : s.ok) : s.cells.length = 129 := by simp [Sc.cells, il_length, h.la, h.se]
def Fits (S : List Sc) (cur : List Value) : Prop := ∀ (i : Nat) (s : Sc), S[i]? = some s → s.ok ∧ ∀ (j : Nat) (v : Value), s.cells[j]? = some v → cur[i * 129 + j]? = some v
def SrK (w : World) (g c : Nat) (S : List Sc) : Prop := ∃ cur : List Value, w.heap[g]? = some (.cells cur.toArray 142 (0, 0)) ∧ cur.length = c * 129 ∧ S.length ≤ c ∧ c ≤ maxLen ∧ Fits S cur
theorem SrK.keep {w w' : World} {g c : Nat} {S : List Sc} (h : SrK w g c S) (hb : w'.heap[g]? = w.heap[g]?) : SrK w' g c S := by
  obtain ⟨cur, h1, h2⟩ := h; exact ⟨cur, hb.trans h1, h2⟩
theorem SrK.lt {w : World} {g c : Nat} {S : List Sc} (h : SrK w g c S) : g < w.heap.size := by
  obtain ⟨cur, h1, _⟩ := h; exact (Array.getElem?_eq_some_iff.1 h1).1
theorem SrK.cell {w : World} {g c : Nat} {S : List Sc} (h : SrK w g c S) {i : Nat} {s : Sc} (hs : S[i]? = some s) {j : Nat} {v : Value} (hv : s.cells[j]? = some v) : w.cell? ⟨g, i * 129 + j, none⟩ = some v := by
  obtain ⟨cur, h1, _, _, _, h2⟩ := h
  rw [Joins.cell_of_block h1, List.getElem?_toArray]
  exact (h2 i s hs).2 j v hv
theorem SrK.frozen {w : World} {g c : Nat} {S : List Sc} (h : SrK w g c S) (j : Nat) : w.frozen? ⟨g, j, none⟩ = false := by
  obtain ⟨cur, h1, _⟩ := h; exact Joins.unfrozen_of_block h1 j
theorem SrK.ok {w : World} {g c : Nat} {S : List Sc} (h : SrK w g c S) {i : Nat} {s : Sc} (hs : S[i]? = some s) : s.ok := by
  obtain ⟨cur, _, _, _, _, h2⟩ := h; exact (h2 i s hs).1
theorem SrK.la {w : World} {g c : Nat} {S : List Sc} (h : SrK w g c S) {i : Nat} {s : Sc} (hs : S[i]? = some s) : At w g (i * 129) s.la := by
  refine ⟨(h.ok hs).la, fun k hk => h.cell hs ?_⟩
  have h1 := (h.ok hs).la
  unfold Sc.cells
  rw [List.getElem?_append_left (by rw [il_length]; omega), il_get _ _ _ (by omega)]
theorem SrK.se {w : World} {g c : Nat} {S : List Sc} (h : SrK w g c S) {i : Nat} {s : Sc} (hs : S[i]? = some s) : At w g (i * 129 + 64) s.se := by
  refine ⟨(h.ok hs).se, fun k hk => ?_⟩
  have h1 := (h.ok hs).la
  have h2 := (h.ok hs).se
  rw [Nat.add_assoc]
  refine h.cell hs ?_
  unfold Sc.cells
  rw [List.getElem?_append_right (by rw [il_length]; omega), il_length, h1, show 64 + k - 64 = k from by omega, List.getElem?_append_left (by rw [il_length]; omega), il_get _ _ _ (by omega)]
theorem SrK.wt {w : World} {g c : Nat} {S : List Sc} (h : SrK w g c S) {i : Nat} {s : Sc} (hs : S[i]? = some s) : w.cell? ⟨g, i * 129 + 128, none⟩ = some (.bool s.wt) := by
  have h1 := (h.ok hs).la
  have h2 := (h.ok hs).se
  refine h.cell hs ?_
  unfold Sc.cells
  rw [List.getElem?_append_right (by rw [il_length]; omega), il_length, h1, List.getElem?_append_right (by rw [il_length]; omega), il_length, h2]; rfl
theorem Fits.splice {S : List Sc} {cur : List Value} {i : Nat} {s s' : Sc} {j : Nat} {vs : List Value} (h : Fits S cur) (hs : S[i]? = some s) (hk : s'.ok) (hc : s'.cells = splice s.cells j vs) (hj : j + vs.length ≤ 129) (hl : (i + 1) * 129 ≤ cur.length) :
    Fits (S.set i s') (Go.splice cur (i * 129 + j) vs) := by
  have hlen := (h i s hs).1.len
  intro q t ht
  by_cases hq : q = i
  · subst hq
    have hi := (List.getElem?_eq_some_iff.1 hs).1
    rw [List.getElem?_set_self hi] at ht
    obtain rfl := Option.some.inj ht
    refine ⟨hk, fun m v hv => ?_⟩
    rw [hc, splice_get _ _ _ (by omega)] at hv
    rw [splice_get _ _ _ (by omega)]
    by_cases h1 : m < j
    · rw [if_pos h1] at hv; rw [if_pos (by omega)]; exact (h q s hs).2 m v hv
    · rw [if_neg h1] at hv; rw [if_neg (by omega)]
      by_cases h2 : m < j + vs.length
      · rw [if_pos h2] at hv; rw [if_pos (by omega), ← hv]; congr 1; omega
      · rw [if_neg h2] at hv; rw [if_neg (by omega)]; exact (h q s hs).2 m v hv
  · rw [List.getElem?_set_ne (Ne.symm hq)] at ht
    obtain ⟨ho, h2⟩ := h q t ht
    refine ⟨ho, fun m v hv => ?_⟩
    have hm : m < 129 := by have := (List.getElem?_eq_some_iff.1 hv).1; rw [ho.len] at this; exact this
    rw [splice_get _ _ _ (by omega), ← h2 m v hv]
    by_cases h1 : q < i
    · rw [if_pos (by omega)]
    · rw [if_neg (by omega), if_neg (by omega)]
theorem SrK.turn {w' : World} {g c : Nat} {S : List Sc} {i : Nat} {s s' : Sc} {cur : List Value} {j : Nat} {vs : List Value} (hl : cur.length = c * 129) (hc : S.length ≤ c) (hm : c ≤ maxLen) (hf : Fits S cur) (hs : S[i]? = some s) (hk : s'.ok)
    (he : s'.cells = splice s.cells j vs) (hj : j + vs.length ≤ 129) (hw : w'.heap[g]? = some (.cells (splice cur (i * 129 + j) vs).toArray 142 (0, 0))) : SrK w' g c (S.set i s') := by
  have hi := (List.getElem?_eq_some_iff.1 hs).1
  have h1 : (i + 1) * 129 ≤ cur.length := by rw [hl]; exact Nat.mul_le_mul_right _ (by omega)
  exact ⟨_, hw, by rw [length_splice _ _ _ (by omega), hl], by simpa using hc, hm, hf.splice hs hk he hj h1⟩
theorem splice_in {α : Type} (a b d vs : List α) (j : Nat) (hj : j + vs.length ≤ b.length) : splice (a ++ (b ++ d)) (a.length + j) vs = a ++ (splice b j vs ++ d) := by
  have hs := length_splice b j vs hj
  refine List.ext_getElem? fun q => ?_
  rw [splice_get _ _ _ (by simp; omega)]
  by_cases h1 : q < a.length
  · have e1 : (a ++ (b ++ d))[q]? = a[q]? := List.getElem?_append_left h1
    have e2 : (a ++ (splice b j vs ++ d))[q]? = a[q]? := List.getElem?_append_left h1
    rw [if_pos (by omega), e1, e2]
  · have e1 : (a ++ (b ++ d))[q]? = (b ++ d)[q - a.length]? := List.getElem?_append_right (by omega)
    have e2 : (a ++ (splice b j vs ++ d))[q]? = (splice b j vs ++ d)[q - a.length]? := List.getElem?_append_right (by omega)
    rw [e1, e2]
    by_cases h2 : q - a.length < b.length
    · have e3 : (b ++ d)[q - a.length]? = b[q - a.length]? := List.getElem?_append_left h2
      have e4 : (splice b j vs ++ d)[q - a.length]? = (splice b j vs)[q - a.length]? := List.getElem?_append_left (by rw [hs]; exact h2)
      rw [e3, e4, splice_get _ _ _ hj]
      by_cases h3 : q - a.length < j
      · rw [if_pos (by omega), if_pos h3]
      · rw [if_neg (by omega), if_neg h3]
        by_cases h4 : q - a.length < j + vs.length
        · rw [if_pos (by omega), if_pos h4]; congr 1; omega
        · rw [if_neg (by omega), if_neg h4]
    · have e3 : (b ++ d)[q - a.length]? = d[q - a.length - b.length]? := List.getElem?_append_right (by omega)
      have e4 : (splice b j vs ++ d)[q - a.length]? = d[q - a.length - (splice b j vs).length]? := List.getElem?_append_right (by rw [hs]; omega)
      rw [e3, e4, hs, if_neg (by omega), if_neg (by omega)]
theorem splice_at {α : Type} (b d vs : List α) (j : Nat) (hj : j + vs.length ≤ b.length) : splice (b ++ d) j vs = splice b j vs ++ d := by
  have := splice_in [] b d vs j hj
  simpa using this
theorem splice_all {α : Type} (b vs : List α) (h : vs.length = b.length) : splice b 0 vs = vs := by simp [splice, h]
theorem Sc.ok.turn_la {s : Sc} (h : s.ok) (j : Nat) (zs : List Int) (hj : j + zs.length ≤ 64) : (Sc.mk (splice s.la j zs) s.se s.wt).ok ∧ (Sc.mk (splice s.la j zs) s.se s.wt).cells = splice s.cells j (il .u8 zs) := by
  refine ⟨⟨by show (splice s.la j zs).length = 64; rw [length_splice _ _ _ (by rw [h.la]; exact hj)]; exact h.la, h.se⟩, ?_⟩
  unfold Sc.cells
  rw [splice_at _ _ _ _ (by rw [il_length, il_length, h.la]; exact hj), il_splice]
theorem Sc.ok.turn_se {s : Sc} (h : s.ok) (zs : List Int) (hz : zs.length = 64) : (Sc.mk s.la zs s.wt).ok ∧ (Sc.mk s.la zs s.wt).cells = splice s.cells 64 (il .u8 zs) := by
  refine ⟨⟨h.la, hz⟩, ?_⟩
  unfold Sc.cells
  have := splice_in (il .u8 s.la) (il .u8 s.se) [.bool s.wt] (il .u8 zs) 0 (by rw [il_length, il_length, h.se]; omega)
  rw [il_length, h.la] at this
  rw [this, splice_all _ _ (by rw [il_length, il_length, h.se, hz])]
theorem Sc.ok.turn_wt {s : Sc} (h : s.ok) (b : Bool) : (Sc.mk s.la s.se b).ok ∧ (Sc.mk s.la s.se b).cells = splice s.cells 128 [.bool b] := by
  refine ⟨⟨h.la, h.se⟩, ?_⟩
  unfold Sc.cells
  have := splice_in (il .u8 s.la ++ il .u8 s.se) [.bool s.wt] [] [.bool b] 0 (by simp)
  rw [List.length_append, il_length, il_length, h.la, h.se] at this
  simp only [List.append_nil, List.append_assoc] at this
  rw [splice_all [Value.bool s.wt] [Value.bool b] rfl] at this
  rw [this]
theorem At.range {w : World} {b o : Nat} {zs : List Int} (h : At w b o zs) : w.rangeAt b o (il .u8 zs) := by
  intro j v hv
  have hj : j < zs.length := by have := (List.getElem?_eq_some_iff.1 hv).1; rwa [il_length] at this
  rw [il_get _ _ _ hj] at hv
  rw [h.2 j (by rw [← h.1]; exact hj)]; exact hv
theorem SrK.there {w : World} {g c : Nat} {S : List Sc} (h : SrK w g c S) {i : Nat} {s : Sc} (hs : S[i]? = some s) (o n : Nat) (hn : o + n ≤ 129) : w.there g (i * 129 + o) n := by
  intro j hj
  refine ⟨?_, h.frozen _⟩
  rw [Nat.add_assoc]
  have h1 : (s.cells)[o + j]? = some (s.cells[o + j]'(by rw [(h.ok hs).len]; omega)) := List.getElem?_eq_getElem _
  rw [h.cell hs h1]; rfl
theorem SrK.put_se {w : World} {g c : Nat} {S : List Sc} (h : SrK w g c S) {i : Nat} {s : Sc} (hs : S[i]? = some s) (zs : List Int) (hz : zs.length = 64) : SrK (w.setCells g (i * 129 + 64) (il .u8 zs)) g c (S.set i ⟨s.la, zs, s.wt⟩) := by
  have hx := h.ok hs
  have ht := hx.turn_se zs hz
  have hi := (List.getElem?_eq_some_iff.1 hs).1
  obtain ⟨cur, hc1, hc2, hc3, hc4, hc5⟩ := h
  have h1 : (i + 1) * 129 ≤ c * 129 := Nat.mul_le_mul_right _ (by omega)
  exact SrK.turn hc2 hc3 hc4 hc5 hs ht.1 ht.2 (by rw [il_length]; omega) (heap_setCells g _ _ _ _ _ _ (by rw [il_length]; omega) hc1)
theorem SrK.put_wt {w : World} {g c : Nat} {S : List Sc} (h : SrK w g c S) {i : Nat} {s : Sc} (hs : S[i]? = some s) (b : Bool) : SrK (w.setCells g (i * 129 + 128) [.bool b]) g c (S.set i ⟨s.la, s.se, b⟩) := by
  have hx := h.ok hs
  have ht := hx.turn_wt b
  have hi := (List.getElem?_eq_some_iff.1 hs).1
  obtain ⟨cur, hc1, hc2, hc3, hc4, hc5⟩ := h
  have h1 : (i + 1) * 129 ≤ c * 129 := Nat.mul_le_mul_right _ (by omega)
  exact SrK.turn hc2 hc3 hc4 hc5 hs ht.1 ht.2 (by simp) (heap_setCells g _ _ _ _ _ _ (by simp; omega) hc1)
theorem run_storeVar_cell {P : Program} (w : World) (b o : Nat) (ty : TypeId) (v : Value) (ht : w.there b o 1) (hi : (P.info? ty).map (·.size) = some 1) (hv : v.cells = #[v]) (h1 : v.oneCell' = true) :
    (storeVar ty ⟨b, o, none⟩ v).run P w = .ok () (w.setCells b o [v]) := by
  have := run_storeCells_cells (P := P) b o [v] 0 w (fun j hj => by simpa using (ht j (by simpa using hj)).1) (fun j hj => by simpa using (ht j (by simpa using hj)).2) (fun u hu => by simp at hu; subst hu; exact h1)
  cases hq : P.info? ty with
  | none => simp [hq] at hi
  | some i =>
    have hs : 1 = i.size := by simp [hq] at hi; omega
    simp only [Nat.add_zero] at this
    simp [storeVar, sizeOf, typeInfo, hq, hv, ← hs, this]
section
variable {ops : Array Oper} {rest : List Oper} {op : Oper} {a : Act} {w : World} {K : Act → World → Prop} {Q : Exit → Act → World → Prop}
theorem wp_put_se (x y : Operand) (ho : op.op = .store 92 x y) (g c : Nat) (S : List Sc) (h : SrK w g c S) (i : Nat) (s : Sc) (hs : S[i]? = some s) (zs : List Int) (hz : zs.length = 64) (o : Nat) (hoff : i * 129 + 64 = o)
    (hx : a.eval x = .pointer (some ⟨g, o, none⟩)) (hy : a.eval y = .agg (sv zs)) (hK : ∀ w', Hid (SrK w' g c (S.set i ⟨s.la, zs, s.wt⟩)) → Hid (w.grownBy w' (some g)) → K (a.put op.dst undef) w') : op.wp Tryz.prog a w K Q := by
  subst hoff
  refine wp_store_mid 92 x y ho g _ (sv zs) hx hy (h.there hs 64 _ (by rw [sv_size]; omega)) (sv_info _ hz) (sv_one _) ?_
  have e : (sv zs).toList = il .u8 zs := by simp [sv]
  rw [e]
  exact hK _ (h.put_se hs zs hz) (grown_setCells _ _ _ _)
theorem wpl_put_se (hgd : op.guard = none) (x y : Operand) (ho : op.op = .store 92 x y) (g c : Nat) (S : List Sc) (h : SrK w g c S) (i : Nat) (s : Sc) (hs : S[i]? = some s) (zs : List Int) (hz : zs.length = 64) (o : Nat) (hoff : i * 129 + 64 = o)
    (hx : a.eval x = .pointer (some ⟨g, o, none⟩)) (hy : a.eval y = .agg (sv zs)) (hK : ∀ w', Hid (SrK w' g c (S.set i ⟨s.la, zs, s.wt⟩)) → Hid (w.grownBy w' (some g)) → wpList Tryz.prog ops Q rest (a.put op.dst undef) w') : wpList Tryz.prog ops Q (op :: rest) a w :=
  wpList_plain hgd fun _ hk => wp_put_se x y ho g c S h i s hs zs hz o hoff hx hy fun w' h1 h2 => hk _ _ (hK w' h1 h2)
theorem bool_size : (Tryz.prog.info? 4).map (·.size) = some 1 := by kernel_rfl
theorem wp_put_wt (x y : Operand) (ho : op.op = .store 4 x y) (g c : Nat) (S : List Sc) (h : SrK w g c S) (i : Nat) (s : Sc) (hs : S[i]? = some s) (b : Bool) (o : Nat) (hoff : i * 129 + 128 = o)
    (hx : a.eval x = .pointer (some ⟨g, o, none⟩)) (hy : a.eval y = .bool b) (hK : ∀ w', Hid (SrK w' g c (S.set i ⟨s.la, s.se, b⟩)) → Hid (w.grownBy w' (some g)) → K (a.put op.dst undef) w') : op.wp Tryz.prog a w K Q := by
  subst hoff
  have hrun := run_storeVar_cell (P := Tryz.prog) w g (i * 129 + 128) 4 (.bool b) (h.there hs 128 1 (by omega)) bool_size rfl rfl
  unfold Oper.wp execOp
  simp only [ho, hx, hy, Instr.storeAt, Instr.sureAddr, Sem.run_bind, Sem.run_pure, Result.andThen_ok, hrun]
  exact hK _ (h.put_wt hs b) (grown_setCells _ _ _ _)
theorem wpl_put_wt (hgd : op.guard = none) (x y : Operand) (ho : op.op = .store 4 x y) (g c : Nat) (S : List Sc) (h : SrK w g c S) (i : Nat) (s : Sc) (hs : S[i]? = some s) (b : Bool) (o : Nat) (hoff : i * 129 + 128 = o)
    (hx : a.eval x = .pointer (some ⟨g, o, none⟩)) (hy : a.eval y = .bool b) (hK : ∀ w', Hid (SrK w' g c (S.set i ⟨s.la, s.se, b⟩)) → Hid (w.grownBy w' (some g)) → wpList Tryz.prog ops Q rest (a.put op.dst undef) w') : wpList Tryz.prog ops Q (op :: rest) a w :=
  wpList_plain hgd fun _ hk => wp_put_wt x y ho g c S h i s hs b o hoff hx hy fun w' h1 h2 => hk _ _ (hK w' h1 h2)
end
end Go.Proofs.YtnmplnemnfonfaaGreatDoor
namespace Go.Proofs.YtnmplnemnfonfaaGreatDoor
open Go.RowKit
theorem mixN_splice (a b : List Int) (k : Nat) (hb : k ≤ b.length) : splice a 0 (b.take k) = mixN a b k := by
  simp [splice, mixN, Nat.min_eq_left hb]
theorem grown_setRow (w : World) (g : Nat) (cs : Array Value) : w.grownBy (w.setRow g cs) (some g) :=
  ⟨rfl, rfl, rfl, by simp, fun i _ hne => setRow_other w g i cs (fun e => hne (by rw [e]))⟩
theorem step_copy_row {ops : Array Oper} {o : Oper} {a : Act} {w : World} {K : Act → World → Prop} {Q : Exit → Act → World → Prop} {E : Prop} (hgd : o.guard = none) (d s : Operand)
    (ho : o.op = .call { callee := .builtin .copy, args := #[d, s], argTypes := #[49, 49] }) (g c i k : Nat) (S : List Sc) (x : Sc) (h : SrK w g c S) (hs : S[i]? = some x) (hk : k ≤ 64) (o1 o2 : Nat) (h1 : i * 129 = o1) (h2 : i * 129 + 64 = o2)
    (hd : a.eval d = .slice (some ⟨g, o1, none⟩) k 64) (hv : a.eval s = .slice (some ⟨g, o2, none⟩) k 64)
    (hK : ∀ w', Hid (SrK w' g c (S.set i ⟨mixN x.la x.se k, x.se, x.wt⟩)) → Hid (w.grownBy w' (some g)) → K (a.put o.dst (goInt (k : Int))) w') :
    if Region.wanted o (yielded ops a.tmps) = true then Oper.wp Tryz.prog o a w K Q else E := by
  subst h1; subst h2
  have hx := h.ok hs
  have hse := h.se hs
  have ht := hx.turn_la 0 (x.se.take k) (by simp [hx.se]; omega)
  rw [mixN_splice _ _ _ (by rw [hx.se]; exact hk)] at ht
  have hi := (List.getElem?_eq_some_iff.1 hs).1
  obtain ⟨cur, hc1, hc2, hc3, hc4, hc5⟩ := h
  have hlen : (x.se.take k).length = k := by simp [hx.se]; omega
  have hcl : (il .u8 (x.se.take k)).length = k := by rw [il_length, hlen]
  have hfit : i * 129 + k ≤ cur.length := by
    rw [hc2]
    have : (i + 1) * 129 ≤ c * 129 := Nat.mul_le_mul_right _ (by omega)
    omega
  have hw : Region.wanted o (yielded ops a.tmps) = true := by simp [Region.wanted, hgd]
  rw [if_pos hw]
  have hcells : ∀ j v, (il .u8 (x.se.take k))[j]? = some v → w.cell? ((⟨g, i * 129 + 64, none⟩ : Addr).add j) = some v := fun j v hv => by
    have hj : j < k := by have := (List.getElem?_eq_some_iff.1 hv).1; rwa [hcl] at this
    rw [il_get _ _ _ (by rw [hlen]; exact hj)] at hv
    rw [Addr.add_mid, hse.2 j (by omega), ← hv]
    congr 2
    simp [List.getD, hj]
  have hturn : ∀ w', w'.heap[g]? = some (.cells (splice cur (i * 129 + 0) (il .u8 (x.se.take k))).toArray 142 (0, 0)) → SrK w' g c (S.set i ⟨mixN x.la x.se k, x.se, x.wt⟩) := fun w' hg1 =>
    SrK.turn hc2 hc3 hc4 hc5 hs ht.1 ht.2 (by rw [hcl]; omega) hg1
  by_cases h0 : k = 0
  · subst h0
    have hrun := run_copy_none (P := Tryz.prog) w 49 49 o.type 5 (some ⟨g, i * 129, none⟩) (some ⟨g, i * 129 + 64, none⟩) 0 64 0 64 Tryz.underlying49 u8_size1 rfl
    unfold Oper.wp
    simp [execOp, ho, resolve, invoke, builtin, hd, hv, hrun, Result.andThen]
    exact hK w (hturn w (by rw [hc1]; simp [il, splice])) (grown_refl _ _)
  · have hrun := run_copy_row (P := Tryz.prog) w 49 49 o.type 5 g (i * 129) k 64 ⟨g, i * 129 + 64, none⟩ k 64 cur.toArray 142 (il .u8 (x.se.take k)) Tryz.underlying49 u8_size1 hc1 (by rw [hcl]; exact (Nat.min_self k).symm) hcells (by rw [hcl]; simpa using hfit) (il_one _ _)
    unfold Oper.wp
    simp [execOp, ho, resolve, invoke, builtin, hd, hv, hrun, Result.andThen, hcl]
    exact hK _ (hturn _ (by rw [setRow_heap w g _ _ _ _ hc1]; simp [splice, hcl])) (grown_setRow _ _ _)
set_option maxRecDepth 8000 in
set_option maxHeartbeats 1000000 in
theorem settle_any (w : World) (g c i k : Nat) (S : List Sc) (x : Sc) (h : SrK w g c S) (hs : S[i]? = some x) (hk : k ≤ 64) :
    Calls Tryz.prog 73 #[.pointer (some ⟨g, i * 129, none⟩), .int .i64 k] w fun e w' => e = .returned (.tuple #[]) ∧ SrK w' g c (S.set i ⟨mixN x.la x.se k, mixN x.la x.se k, false⟩) ∧ w.grownBy w' (some g) := by
  obtain ⟨o, ho⟩ : ∃ o, i * 129 = o := ⟨_, rfl⟩
  have HO := Lib.hid ho
  have HS := Lib.hid hs
  have H := Lib.hid h
  have hk' : (k : Int) ≤ 64 := by omega
  have HK := Lib.hid hk
  obtain ⟨m, hm⟩ : ∃ m, mixN x.la x.se k = m := ⟨_, rfl⟩
  have HX := Lib.hid hm
  rw [ho, hm]
  clear h hs ho hk hm
  go_enter Tryz.func73, Tryz.ntmps73
  go_wp2
  refine wp_region_held_drew (S := (fun w' => w.grownBy w' (some g))) (by kernel_rfl) (grown_drew (grown_refl _ _)) (fun hS => ?_)
  refine rgw 0 ⟨some 4, .move (.tmp 0), 163, _, _, none⟩ hS ?_
  refine rgw 1 ⟨some 5, .nilCheck (.tmp 4), 0, _, _, none⟩ hS ?_
  refine rgw 2 ⟨some 6, .fieldAddr 142 (.tmp 5) 0, 0, _, _, none⟩ hS ?_
  refine rgw 3 ⟨some 7, .move (.tmp 1), 3, _, _, none⟩ hS ?_
  refine rgw 4 ⟨some 8, .slice 92 (.tmp 6) none (some (.tmp 7)) none, 49, _, _, none⟩ hS ?_
  refine rgw 5 ⟨some 9, .move (.tmp 0), 163, _, _, none⟩ hS ?_
  refine rgw 6 ⟨some 10, .nilCheck (.tmp 9), 0, _, _, none⟩ hS ?_
  refine rgw 7 ⟨some 11, .fieldAddr 142 (.tmp 10) 1, 0, _, _, none⟩ hS ?_
  refine rgw 8 ⟨some 12, .move (.tmp 1), 3, _, _, none⟩ hS ?_
  refine rgw 9 ⟨some 13, .slice 92 (.tmp 11) none (some (.tmp 12)) none, 49, _, _, none⟩ hS ?_
  refine rg_one 10 ⟨some 14, .call { callee := .builtin Builtin.copy, args := #[.tmp 8, .tmp 13], argTypes := #[49, 49] }, 3, _, _, none⟩ (by kernel_rfl) rfl (fun K hK => ?_)
  refine step_copy_row rfl (.tmp 8) (.tmp 13) rfl g c i k S x (SrK.keep H.out rfl) HS.out HK.out o (o + 64) HO.out (by rw [HO.out]) rfl rfl ?_; intro w1 H1 hG1; have hN := grown_trans (grown_drew (grown_refl w (some g))) hG1.out; have HG1 := Lib.hid hN
  refine hK.out _ _ ?_ (fun hS1 => ?_)
  · (exact hN)
  clear hK K hS; have hS := hS1; clear hS1
  (try simp only [rgp])
  refine wpAnyH_done (by kernel_rfl) ?_ _
  clear hS hG1 hN
  have hi : i < S.length := (List.getElem?_eq_some_iff.1 HS.out).1
  have hx := H.out.ok HS.out
  have HM : Hid (m.length = 64) := Lib.hid (by rw [← HX.out]; exact mixN_length _ _ _ hx.la hx.se HK.out)
  rw [HX.out] at H1
  have HA1 : Hid ((S.set i ⟨m, x.se, x.wt⟩)[i]? = some ⟨m, x.se, x.wt⟩) := Lib.hid (List.getElem?_set_self hi)
  have HAT : Hid (At w1 g o m) := Lib.hid (by have := H1.out.la HA1.out; rwa [HO.out] at this)
  have HA2 : Hid ((S.set i ⟨m, m, x.wt⟩)[i]? = some ⟨m, m, x.wt⟩) := Lib.hid (List.getElem?_set_self hi)
  clear hi hx
  go_wp2_with (first
    | (refine wpl_load_at rfl _ rfl g o rfl m HAT.out ?_)
    | (refine wpl_put_se rfl _ _ rfl g c _ H1.out i _ HA1.out m HM.out (o + 64) (by rw [HO.out]) rfl rfl ?_; intro w2 H2 hG2; rw [List.set_set] at H2; have HG2 := Lib.hid (grown_trans HG1.out hG2.out); clear hG2)
    | (refine wpl_put_wt rfl _ _ rfl g c _ H2.out i _ HA2.out false (o + 128) (by rw [HO.out]) rfl rfl ?_; intro w3 H3 hG3; rw [List.set_set] at H3; have HG3 := Lib.hid (grown_trans HG2.out hG3.out); clear hG3))
  go_end0
  exact ⟨rfl, H3.out, HG3.out⟩
end Go.Proofs.YtnmplnemnfonfaaGreatDoor
namespace Go.Proofs.YtnmplnemnfonfaaGreatDoor
open Go.RowKit
structure MF where
  f : AF
  g : Nat
  c : Nat
def MF.nm (x : MF) : ByteArray := x.f.name
abbrev zS : Value := .slice none 0 0
def MF.v (x : MF) : Value := .slice (some ⟨x.g, 0, none⟩) x.f.n x.c
def MF.dat (x : MF) : DataW Unit := .agg [.lit (.int .i64 (x.g : Int)), .lit (.int .i64 (x.f.n : Int)), .lit (.int .i64 (x.c : Int))]
def secR (v : Value) : Option (DataW Unit × List MemPlace) :=
  match v with
  | .slice none 0 0 => some (.nil, [])
  | .slice (some ⟨b, 0, none⟩) n c => some (.agg [.lit (.int .i64 (b : Int)), .lit (.int .i64 (n : Int)), .lit (.int .i64 (c : Int))], [])
  | _ => none
theorem secE : ElemR MF.v zS secR MF.dat where
  lit x := rfl
  nil := rfl
  inv := by
    intro v x ps h
    unfold secR at h
    split at h
    · simp [MF.dat] at h
    · rename_i b n c
      simp only [MF.dat, Option.some.injEq, Prod.mk.injEq, DataW.agg.injEq, List.cons.injEq, DataW.lit.injEq, Lit.int.injEq, true_and, and_true] at h
      obtain ⟨⟨h1, h2, h3⟩, _⟩ := h
      obtain rfl : b = x.g := by omega
      obtain rfl : n = x.f.n := by omega
      obtain rfl : c = x.c := by omega
      rfl
    · simp at h
  inv_nil := by
    intro v ps h
    unfold secR at h
    split at h
    · rfl
    · simp at h
    · simp at h
def secsOf (f : AF) : List Sc := (List.range f.n).map fun i => ⟨chunk f.las i, chunk f.seen i, f.ws.getD i false⟩
theorem secsOf_length (f : AF) : (secsOf f).length = f.n := by simp [secsOf]
theorem secsOf_get (f : AF) (i : Nat) (h : i < f.n) : (secsOf f)[i]? = some ⟨chunk f.las i, chunk f.seen i, f.ws.getD i false⟩ := by simp [secsOf, h]
abbrev MapOf (w : World) (bm : Nat) (l : List MF) : Prop := MO MF.nm MF.dat secR Tryz.prog 9 w bm l
def dCells (bm : Nat) (d : AD) (fl : Bool) (lf : Int) : Array Value := #[.int .i64 d.cap, .map (some bm), .int .i64 d.ops, .bool d.down, .bool fl, .int .i64 lf]
def DBk (w : World) (b bm : Nat) (d : AD) (fl : Bool) (lf : Int) : Prop := w.heap[b]? = some (.cells (dCells bm d fl lf) 61 (0, 0))
structure Dk (w : World) (b bm : Nat) (l : List MF) (d : AD) : Prop where
  blk : ∃ (fl : Bool) (lf : Int), DBk w b bm d fl lf ∧ (d.down = false → fl = d.told ∧ lf = d.after)
  map : MapOf w bm l
  row : ∀ x ∈ l, SrK w x.g x.c (secsOf x.f)
  nodup : (l.map MF.g).Nodup
  files : d.L = l.map MF.f
def own (b bm : Nat) (l : List MF) (k : Nat) : Prop := k = b ∨ k = bm ∨ ∃ x ∈ l, x.g = k
theorem Dk.keep {w w' : World} {b bm : Nat} {l : List MF} {d : AD} (h : Dk w b bm l d) (hb : ∀ k, own b bm l k → w'.heap[k]? = w.heap[k]?) : Dk w' b bm l d := by
  obtain ⟨fl, lf, h1, h2⟩ := h.blk
  exact ⟨⟨fl, lf, (hb b (.inl rfl)).trans h1, h2⟩, h.map.keep (hb bm (.inr (.inl rfl))), fun x hx => (h.row x hx).keep (hb _ (.inr (.inr ⟨x, hx, rfl⟩))), h.nodup, h.files⟩
theorem Dk.lt {w : World} {b bm : Nat} {l : List MF} {d : AD} (h : Dk w b bm l d) : ∀ k, own b bm l k → k < w.heap.size := by
  rintro k (rfl | rfl | ⟨x, hx, rfl⟩)
  · obtain ⟨fl, lf, h1, _⟩ := h.blk
    exact (Array.getElem?_eq_some_iff.1 h1).1
  · exact h.map.lt
  · exact (h.row x hx).lt
theorem Dk.below {w w' : World} {b bm : Nat} {l : List MF} {d : AD} (h : Dk w b bm l d) (hb : Below w.heap.size w w') : Dk w' b bm l d := h.keep fun k hk => hb.block k (h.lt k hk)
theorem Dk.ne {w : World} {b bm : Nat} {l : List MF} {d : AD} (h : Dk w b bm l d) : b ≠ bm ∧ ∀ x ∈ l, x.g ≠ b ∧ x.g ≠ bm := by
  obtain ⟨fl, lf, h1, _⟩ := h.blk
  obtain ⟨es, clock, h2⟩ := h.map.obj
  refine ⟨fun e => ?_, fun x hx => ⟨fun e => ?_, fun e => ?_⟩⟩
  · subst e; unfold DBk at h1; rw [h1] at h2; cases h2
  · obtain ⟨cur, h3, _⟩ := h.row x hx
    rw [e] at h3; unfold DBk at h1; rw [h1] at h3
    simp at h3
  · obtain ⟨cur, h3, _⟩ := h.row x hx
    rw [e, h2] at h3; cases h3
theorem DBk.cells {w : World} {b bm : Nat} {d : AD} {fl : Bool} {lf : Int} (h : DBk w b bm d fl lf) :
    w.cell? ⟨b, 0, none⟩ = some (.int .i64 d.cap) ∧ w.cell? ⟨b, 1, none⟩ = some (.map (some bm)) ∧ w.cell? ⟨b, 2, none⟩ = some (.int .i64 d.ops) ∧ w.cell? ⟨b, 3, none⟩ = some (.bool d.down) ∧ w.cell? ⟨b, 4, none⟩ = some (.bool fl) ∧ w.cell? ⟨b, 5, none⟩ = some (.int .i64 lf) := by
  have hc := fun j => cell_of_row w b j _ _ _ h
  exact ⟨hc 0, hc 1, hc 2, hc 3, hc 4, hc 5⟩
theorem DBk.frozen {w : World} {b bm : Nat} {d : AD} {fl : Bool} {lf : Int} (h : DBk w b bm d fl lf) (j : Nat) : w.frozen? ⟨b, j, none⟩ = false := Joins.unfrozen_of_block h j
theorem DBk.set {w : World} {b bm : Nat} {d : AD} {fl : Bool} {lf : Int} (h : DBk w b bm d fl lf) (j : Nat) (v : Value) : (w.setCell ⟨b, j, none⟩ v).heap[b]? = some (.cells ((dCells bm d fl lf).setIfInBounds j v) 61 (0, 0)) := Joins.block_setCell h _
theorem find_at {α : Type} (p : α → Bool) : ∀ l : List α, l.find? p = l[l.findIdx p]?
  | [] => rfl
  | x :: l => by
    rw [List.find?_cons, List.findIdx_cons]
    cases hx : p x with
    | true => simp
    | false => simp [find_at p l]
theorem findIdx_map {α β : Type} (f : α → β) (p : β → Bool) : ∀ l : List α, (l.map f).findIdx p = l.findIdx (fun x => p (f x))
  | [] => rfl
  | x :: l => by rw [List.map_cons, List.findIdx_cons, List.findIdx_cons, findIdx_map f p l]
theorem Dk.has {w : World} {b bm : Nat} {l : List MF} {d : AD} (h : Dk w b bm l d) (s : ByteArray) (hs : d.has s) : ∃ x, l[idxN d.L s]? = some x ∧ x.f = d.get s ∧ x ∈ l ∧ lookV MF.nm MF.v zS l s = x.v := by
  have h1 := d.get_at s hs
  rw [h.files, List.getElem?_map] at h1
  obtain ⟨x, hx, hf⟩ := Option.map_eq_some_iff.1 h1
  have hx2 : l[idxN d.L s]? = some x := by rw [h.files]; exact hx
  refine ⟨x, hx2, hf, List.mem_of_getElem? hx2, ?_⟩
  unfold lookV atBy
  rw [find_at]
  have e : l.findIdx (fun x => decide (MF.nm x = s)) = idxN d.L s := by
    rw [h.files]; unfold idxN; rw [findIdx_map]; rfl
  rw [e, hx2]
theorem Dk.hasnt {w : World} {b bm : Nat} {l : List MF} {d : AD} (h : Dk w b bm l d) (s : ByteArray) (hs : ¬ d.has s) : lookV MF.nm MF.v zS l s = zS := by
  unfold lookV atBy
  have e : l.find? (fun x => decide (MF.nm x = s)) = none := by
    rw [List.find?_eq_none]
    intro x hx
    have := has_mem hs x.f (by rw [h.files]; exact List.mem_map_of_mem hx)
    simp only [decide_eq_true_eq]; exact this
  rw [e]
theorem map_out (l : List MF) (s : ByteArray) : (outBy MF.nm l s).map MF.f = withoutF (l.map MF.f) s := by
  unfold outBy withoutF
  rw [List.filter_map]; rfl
theorem map_in (l : List MF) (x : MF) : (inBy MF.nm l x).map MF.f = insF (l.map MF.f) x.f := by
  unfold inBy insF insK
  rw [findIdx_map, List.map_append, List.map_cons, List.map_take, List.map_drop]; rfl
theorem mem_out {l : List MF} {s : ByteArray} {x : MF} : x ∈ outBy MF.nm l s ↔ x ∈ l ∧ x.f.name ≠ s := by
  unfold outBy
  rw [List.mem_filter, Bool.not_eq_true', decide_eq_false_iff_not]; exact Iff.rfl
theorem in_perm (l : List MF) (x : MF) : (inBy MF.nm l x).Perm (x :: l) := by
  unfold inBy
  refine List.perm_middle.trans ?_
  rw [List.take_append_drop]
theorem mem_in {l : List MF} {x y : MF} : y ∈ inBy MF.nm l x ↔ y = x ∨ y ∈ l := by rw [(in_perm l x).mem_iff, List.mem_cons]
theorem nodup_out {l : List MF} (h : (l.map MF.g).Nodup) (s : ByteArray) : ((outBy MF.nm l s).map MF.g).Nodup := h.sublist (List.filter_sublist.map _)
theorem nodup_in {l : List MF} (h : (l.map MF.g).Nodup) (x : MF) (hx : ∀ y ∈ l, y.g ≠ x.g) : ((inBy MF.nm l x).map MF.g).Nodup := by
  rw [((in_perm l x).map MF.g).nodup_iff, List.map_cons, List.nodup_cons]
  refine ⟨fun hm => ?_, h⟩
  obtain ⟨y, hy, e⟩ := List.mem_map.1 hm
  exact hx y hy e
def DKp (w : World) (p : Addr) (F : Nat → Bool) (d : AD) : Prop := Foot F w.heap.size ∧ ∃ b bm l, p = ⟨b, 0, none⟩ ∧ Dk w b bm l d ∧ ∀ k, own b bm l k → F k = true
theorem DKp.keep {w w' : World} {p : Addr} {F : Nat → Bool} {d : AD} (h : DKp w p F d) (hs : w.heap.size ≤ w'.heap.size) (hk : ∀ k, F k = true → w'.heap[k]? = w.heap[k]?) : DKp w' p F d := by
  obtain ⟨hF, b, bm, l, rfl, hd, ho⟩ := h
  exact ⟨hF.mono hs, b, bm, l, rfl, hd.keep fun k h => hk k (ho k h), ho⟩
theorem DKp.done {w w' : World} {b bm : Nat} {l : List MF} {F : Nat → Bool} {d : AD} (hF : Foot F w.heap.size) (hx : Ext F w w' F) (hd : Dk w' b bm l d) (ho : ∀ k, own b bm l k → k < w.heap.size → F k = true) :
    ∃ F', DKp w' ⟨b, 0, none⟩ F' d ∧ Ext F w w' F' :=
  ⟨plusF F w.heap.size w'.heap.size, ⟨plusF_foot hF hx.size, b, bm, l, rfl, hd, fun k hk => by
    by_cases hl : k < w.heap.size
    · exact plusF_mono _ _ _ _ (ho k hk hl)
    · exact plusF_in _ _ _ _ (by omega) (hd.lt k hk)⟩, ⟨hx.os, hx.tape, hx.output, hx.size, hx.block, fun k hk => by simp [plusF]; intro h1; omega⟩⟩
theorem Ext.grown {F : Nat → Bool} {w w' w'' : World} (h : Ext F w w' F) {g : Nat} (k : w'.grownBy w'' (some g)) (hg : F g = true ∨ w.heap.size ≤ g) : Ext F w w'' F :=
  ⟨k.os.trans h.os, k.tape.trans h.tape, k.output.trans h.output, Nat.le_trans h.size k.size, fun i hi hf => (k.block i (Nat.lt_of_lt_of_le hi h.size) (fun e => by
    obtain rfl := Option.some.inj e
    rcases hg with hg | hg
    · rw [hg] at hf; simp at hf
    · omega)).trans (h.block i hi hf), fun _ _ => rfl⟩
theorem Ext.then_below {F : Nat → Bool} {w w' w'' : World} (h : Ext F w w' F) (k : Below w'.heap.size w' w'') : Ext F w w'' F := h.trans (Ext.below k)
theorem Ext.drew {F : Nat → Bool} {w w' : World} (h : Ext F w w' F) : Ext F w w'.drew F := ⟨h.os, h.tape, h.output, h.size, h.block, h.foot⟩
end Go.Proofs.YtnmplnemnfonfaaGreatDoor
namespace Go.Proofs.YtnmplnemnfonfaaGreatDoor
open Go.RowKit
theorem zeroS (w : World) : (zeroValue 104).run Tryz.prog w = .ok zS w := by kernel_rfl
theorem size_le {s : ByteArray} (h : s.size ≤ 281474976710656) : s.size ≤ maxLen := by unfold maxLen; omega
set_option maxRecDepth 8000 in
theorem psize_any (w : World) (b bm : Nat) (l : List MF) (d : AD) (s : ByteArray) (h : Dk w b bm l d) (hs : s.size ≤ 281474976710656) :
    Calls Tryz.prog 24 #[ptr ⟨b, 0, none⟩, .string s] w fun e w' => e = .returned (.int .i64 (if d.has s then ((d.get s).n : Int) else 0)) ∧ w = w' := by
  have HM := Lib.hid h.map
  have HZ := Lib.hid (size_le hs)
  obtain ⟨fl, lf, hb, _⟩ := h.blk
  obtain ⟨c0, c1, c2, c3, c4, c5⟩ := hb.cells
  by_cases hh : d.has s
  · obtain ⟨x, _, hf, _, hl⟩ := h.has s hh
    rw [if_pos hh, ← hf]
    have HL := Lib.hid (hl.trans (show x.v = .slice (some ⟨x.g, 0, none⟩) x.f.n x.c from rfl))
    clear hb hs h hl hf hh
    go_enter Tryz.func24, Tryz.ntmps24
    go_wp2_with (first
      | (refine wpl_look secE rfl (.tmp 10) (.tmp 11) 59 rfl 9 104 Tryz.underlying9 Tryz.underlying59 (zeroS _) bm l rfl HM.out s rfl HZ.out ?_; rw [HL.out]))
    go_ret
    exact ⟨rfl, rfl⟩
  · have HL := Lib.hid (h.hasnt s hh)
    rw [if_neg hh]
    clear hb hs h hh
    go_enter Tryz.func24, Tryz.ntmps24
    go_wp2_with (first
      | (refine wpl_look secE rfl (.tmp 10) (.tmp 11) 59 rfl 9 104 Tryz.underlying9 Tryz.underlying59 (zeroS _) bm l rfl HM.out s rfl HZ.out ?_; rw [HL.out]))
    go_ret
    exact ⟨rfl, rfl⟩
theorem nearer_dsk (n m : Int) (_hn : I63 n) (_hm : I63 m) (w : World) :
    Calls Tryz.prog 18 #[.int .i64 n, .int .i64 m] w fun e w' => e = .returned (.int .i64 (min (max n 0) m)) ∧ w = w' := by
  go_enter Tryz.func18, Tryz.ntmps18
  go_wp2
  go_ret
  refine ⟨?_, rfl⟩
  first | rfl | skip
abbrev jobC (p : Addr) (s t : ByteArray) (x n : Int) (v : Value) : Array Value := #[ptr p, .string s, .string t, .int .i64 x, .int .i64 n, v]
abbrev jobV (p : Addr) (s t : ByteArray) (x n : Int) (v : Value) : Value := .agg (jobC p s t x n v)
set_option maxRecDepth 8000 in
theorem mayFind_any (w : World) (b bm : Nat) (l : List MF) (d : AD) (s t : ByteArray) (x n : Int) (a : Option Addr) (m c : Nat) (h : Dk w b bm l d) (hg : Good d) (hs : s.size ≤ 281474976710656) :
    Calls Tryz.prog 45 #[jobV ⟨b, 0, none⟩ s t x n (.slice a m c)] w fun e w' => e = .returned (.int .i64 (if d.has s then 0 else 7)) ∧ Below w.heap.size w w' := by
  have HD := Lib.hid (h.below (below_alloc w (.cells (jobC ⟨b, 0, none⟩ s t x n (.slice a m c)) 63)))
  have HS := Lib.hid hs
  have HB := Lib.hid (below_alloc w (.cells (jobC ⟨b, 0, none⟩ s t x n (.slice a m c)) 63))
  by_cases hh : d.has s
  · have h1 := (hg.file _ (get_mem hh)).n1
    have h2 := (hg.file _ (get_mem hh)).n64
    obtain ⟨k, hk⟩ : ∃ k, (d.get s).n = k := ⟨_, rfl⟩
    rw [hk] at h1 h2
    have HK := Lib.hid (show (if d.has s then ((d.get s).n : Int) else 0) = (k : Int) by rw [if_pos hh, hk])
    rw [if_pos hh]
    clear h hs hg hh hk
    go_enter Tryz.func45, Tryz.ntmps45
    go_wp2_with (first
      | (go_at_call 24; (with_reducible refine (psize_any _ b bm l d s HD.out HS.out).mono ?_); rintro e w1 ⟨rfl, rfl⟩; rw [HK.out]))
    all_goals first | (exfalso; omega) | skip
    all_goals go_ret
    all_goals exact ⟨rfl, HB.out⟩
  · have HK := Lib.hid (show (if d.has s then ((d.get s).n : Int) else 0) = 0 by rw [if_neg hh])
    rw [if_neg hh]
    clear h hs hg hh
    go_enter Tryz.func45, Tryz.ntmps45
    go_wp2_with (first
      | (go_at_call 24; (with_reducible refine (psize_any _ b bm l d s HD.out HS.out).mono ?_); rintro e w1 ⟨rfl, rfl⟩; rw [HK.out]))
    all_goals go_ret
    all_goals exact ⟨rfl, HB.out⟩
def JbK (w : World) (g : Nat) (cs : Array Value) : Prop := w.heap[g]? = some (.cells cs 63 (0, 0))
theorem JbK.below {w w' : World} {g : Nat} {cs : Array Value} (h : JbK w g cs) (hb : Below w.heap.size w w') : JbK w' g cs := by
  unfold JbK at *; rw [hb.block g (Array.getElem?_eq_some_iff.1 h).1]; exact h
theorem JbK.new (w : World) (cs : Array Value) : JbK (w.alloc (.cells cs 63)) w.heap.size cs := heap_alloc_last w _
theorem JbK.cells {w : World} {g : Nat} {v0 v1 v2 v3 v4 v5 : Value} (h : JbK w g #[v0, v1, v2, v3, v4, v5]) :
    w.cell? ⟨g, 0, none⟩ = some v0 ∧ w.cell? ⟨g, 1, none⟩ = some v1 ∧ w.cell? ⟨g, 2, none⟩ = some v2 ∧ w.cell? ⟨g, 3, none⟩ = some v3 ∧ w.cell? ⟨g, 4, none⟩ = some v4 ∧ w.cell? ⟨g, 5, none⟩ = some v5 := by
  have hc := fun j => cell_of_row w g j _ _ _ h
  exact ⟨hc 0, hc 1, hc 2, hc 3, hc 4, hc 5⟩
structure Jd (w : World) (b bm : Nat) (l : List MF) (d : AD) (s t : ByteArray) (x n : Int) (v : Value) (w' : World) : Prop where
  below : Below w.heap.size w w'
  size : w.heap.size < w'.heap.size
  jb : JbK w' w.heap.size (jobC ⟨b, 0, none⟩ s t x n v)
  dk : Dk w' b bm l d
theorem Jd.start {w : World} {b bm : Nat} {l : List MF} {d : AD} (h : Dk w b bm l d) (s t : ByteArray) (x n : Int) (v : Value) : Jd w b bm l d s t x n v (w.alloc (.cells (jobC ⟨b, 0, none⟩ s t x n v) 63)) :=
  ⟨below_alloc w _, by rw [alloc_size]; omega, JbK.new w _, h.below (below_alloc w _)⟩
theorem Jd.next {w w1 w2 : World} {b bm : Nat} {l : List MF} {d : AD} {s t : ByteArray} {x n : Int} {v : Value} (h : Jd w b bm l d s t x n v w1) (hb : Below w1.heap.size w1 w2) : Jd w b bm l d s t x n v w2 :=
  ⟨chain h.below hb, Nat.lt_of_lt_of_le h.size hb.size, h.jb.below hb, h.dk.below hb⟩
theorem Jd.five {w w1 : World} {b bm : Nat} {l : List MF} {d : AD} {s t : ByteArray} {x n : Int} {v : Value} (h : Jd w b bm l d s t x n v w1) :
    w1.cell? ⟨w.heap.size, 0, none⟩ = some (ptr ⟨b, 0, none⟩) ∧ w1.cell? ⟨w.heap.size, 1, none⟩ = some (.string s) ∧ w1.cell? ⟨w.heap.size, 3, none⟩ = some (.int .i64 x) ∧ w1.cell? ⟨w.heap.size, 4, none⟩ = some (.int .i64 n) ∧ Jd w b bm l d s t x n v w1 := by
  obtain ⟨c0, c1, _, c3, c4, _⟩ := h.jb.cells
  exact ⟨c0, c1, c3, c4, h⟩
theorem Jd.drew {w w1 : World} {b bm : Nat} {l : List MF} {d : AD} {s t : ByteArray} {x n : Int} {v : Value} (h : Jd w b bm l d s t x n v w1) : Jd w b bm l d s t x n v w1.drew := h.next (Below.refl _ _).drew
set_option maxRecDepth 8000 in
set_option maxHeartbeats 1000000 in
theorem mayReach_any (w : World) (b bm : Nat) (l : List MF) (d : AD) (s t : ByteArray) (x n : Int) (a : Option Addr) (m c : Nat) (h : Dk w b bm l d) (hg : Good d) (hs : s.size ≤ 281474976710656) (hx : I63 x) (hn : I63 n) (y : Int)
    (hy : (if ¬ d.has s then 7 else if x < 0 ∨ n < 0 ∨ ((d.get s).n : Int) - n < x then 4 else 0) = y) :
    Calls Tryz.prog 47 #[jobV ⟨b, 0, none⟩ s t x n (.slice a m c)] w fun e w' => e = .returned (.int .i64 y) ∧ Below w.heap.size w w' := by
  have HJ := Lib.hid (Jd.start h s t x n (.slice a m c))
  have HS := Lib.hid hs
  have HG := Lib.hid hg
  have hx' : -9223372036854775808 ≤ x ∧ x ≤ 9223372036854775807 := hx
  have hn' : -9223372036854775808 ≤ n ∧ n ≤ 9223372036854775807 := hn
  by_cases hh : d.has s
  · rw [if_neg (by simpa using hh)] at hy
    have h2 := (hg.file _ (get_mem hh)).n64
    have HF := Lib.hid (show (if d.has s then (0 : Int) else 7) = 0 by rw [if_pos hh])
    obtain ⟨k, hk⟩ : ∃ k, (d.get s).n = k := ⟨_, rfl⟩
    have HZ := Lib.hid (show (if d.has s then ((d.get s).n : Int) else 0) = (k : Int) by rw [if_pos hh, hk])
    rw [hk] at hy h2
    clear h hs hg hx hn hh hk
    by_cases h3 : x < 0
    · rw [if_pos (.inl h3)] at hy
      subst hy
      go_enter Tryz.func47, Tryz.ntmps47
      go_wp2_with (first
        | (refine wpList_load_row rfl 63 _ rfl w.heap.size rfl _ (jobC ⟨b, 0, none⟩ s t x n (.slice a m c)) (0, 0) _ HJ.out.jb Tryz.underlying63 rfl (by kernel_rfl) ?_)
        | (go_at_call 45; (with_reducible refine (mayFind_any _ b bm l d s t x n a m c HJ.out.dk HG.out HS.out).mono ?_); rintro e w1 ⟨rfl, hb⟩; rw [HF.out]; have HJ1 := Lib.hid (HJ.out.next hb); clear hb))
      refine wp_region_held_drew (S := (fun w' => w'.cell? ⟨w.heap.size, 0, none⟩ = some (ptr ⟨b, 0, none⟩) ∧ w'.cell? ⟨w.heap.size, 1, none⟩ = some (.string s) ∧ w'.cell? ⟨w.heap.size, 3, none⟩ = some (.int .i64 x) ∧ w'.cell? ⟨w.heap.size, 4, none⟩ = some (.int .i64 n) ∧ Jd w b bm l d s t x n (.slice a m c) w')) (by kernel_rfl) (Jd.five HJ1.out.drew) (fun hS => ?_)
      refine rgw 0 ⟨some 9, .fieldAddr 63 (.tmp 1) 3, 0, _, _, none⟩ hS ?_
      refine rgw 1 ⟨some 10, .load 3 (.tmp 9), 3, _, _, none⟩ hS ?_
      refine rgw 2 ⟨some 11, .binOp .lss 3 (.tmp 10) (.const (.int .i64 0)) 3, 4, _, _, none⟩ hS ?_
      refine rgw 3 ⟨some 12, .move (.tmp 11), 4, _, _, none⟩ hS ?_
      refine rgt 4 (oi := ⟨some 13, .fieldAddr 63 (.tmp 1) 4, 0, _, _, some (3, false)⟩) (v := undef) rfl (.inr ⟨by rfl, rfl⟩) hS ?_
      (try simp only [rgp])
      refine rgt 5 (oi := ⟨some 14, .load 3 (.tmp 13), 3, _, _, some (3, false)⟩) (v := undef) rfl (.inr ⟨by rfl, rfl⟩) hS ?_
      (try simp only [rgp])
      refine rgt 6 (oi := ⟨some 15, .binOp .lss 3 (.tmp 14) (.const (.int .i64 0)) 3, 4, _, _, some (3, false)⟩) (v := undef) rfl (.inr ⟨by rfl, rfl⟩) hS ?_
      (try simp only [rgp])
      refine rgw 7 ⟨some 16, .pick (.tmp 12) (.const (.bool true)) (.tmp 15), 4, _, _, none⟩ hS ?_
      refine rgw 8 ⟨some 17, .move (.tmp 16), 4, _, _, none⟩ hS ?_
      refine rgt 9 (oi := ⟨some 18, .fieldAddr 63 (.tmp 1) 3, 0, _, _, some (8, false)⟩) (v := undef) rfl (.inr ⟨by rfl, rfl⟩) hS ?_
      (try simp only [rgp])
      refine rgt 10 (oi := ⟨some 19, .load 3 (.tmp 18), 3, _, _, some (8, false)⟩) (v := undef) rfl (.inr ⟨by rfl, rfl⟩) hS ?_
      (try simp only [rgp])
      refine rgt 11 (oi := ⟨some 20, .fieldAddr 63 (.tmp 1) 0, 0, _, _, some (8, false)⟩) (v := undef) rfl (.inr ⟨by rfl, rfl⟩) hS ?_
      (try simp only [rgp])
      refine rgt 12 (oi := ⟨some 21, .load 34 (.tmp 20), 34, _, _, some (8, false)⟩) (v := undef) rfl (.inr ⟨by rfl, rfl⟩) hS ?_
      (try simp only [rgp])
      refine rgt 13 (oi := ⟨some 22, .fieldAddr 63 (.tmp 1) 1, 0, _, _, some (8, false)⟩) (v := undef) rfl (.inr ⟨by rfl, rfl⟩) hS ?_
      (try simp only [rgp])
      refine rgt 14 (oi := ⟨some 23, .load 9 (.tmp 22), 9, _, _, some (8, false)⟩) (v := undef) rfl (.inr ⟨by rfl, rfl⟩) hS ?_
      (try simp only [rgp])
      refine rgt 15 (oi := ⟨some 24, .call { callee := .value (.func 24), args := #[.tmp 21, .tmp 23], argTypes := #[34, 9] }, 3, _, _, some (8, false)⟩) (v := undef) rfl (.inr ⟨by rfl, rfl⟩) hS ?_
      (try simp only [rgp])
      refine rgt 16 (oi := ⟨some 25, .fieldAddr 63 (.tmp 1) 4, 0, _, _, some (8, false)⟩) (v := undef) rfl (.inr ⟨by rfl, rfl⟩) hS ?_
      (try simp only [rgp])
      refine rgt 17 (oi := ⟨some 26, .load 3 (.tmp 25), 3, _, _, some (8, false)⟩) (v := undef) rfl (.inr ⟨by rfl, rfl⟩) hS ?_
      (try simp only [rgp])
      refine rgt 18 (oi := ⟨some 27, .binOp .sub 3 (.tmp 24) (.tmp 26) 3, 3, _, _, some (8, false)⟩) (v := undef) rfl (.inr ⟨by rfl, rfl⟩) hS ?_
      (try simp only [rgp])
      refine rgt 19 (oi := ⟨some 28, .binOp .gtr 3 (.tmp 19) (.tmp 27) 3, 4, _, _, some (8, false)⟩) (v := undef) rfl (.inr ⟨by rfl, rfl⟩) hS ?_
      (try simp only [rgp])
      refine rgw 20 ⟨some 29, .pick (.tmp 17) (.const (.bool true)) (.tmp 28), 4, _, _, none⟩ hS ?_
      refine wpAnyH_done (by kernel_rfl) ?_ _
      have HB := Lib.hid hS.2.2.2.2.below
      clear hS
      go_wp2
      go_ret
      exact ⟨rfl, HB.out⟩
    have hd3 : decide (x < 0) = false := decide_eq_false h3
    by_cases h4 : n < 0
    · have hd4 : decide (n < 0) = true := decide_eq_true h4
      rw [if_pos (.inr (.inl h4))] at hy
      subst hy
      go_enter Tryz.func47, Tryz.ntmps47
      go_wp2_with (first
        | (refine wpList_load_row rfl 63 _ rfl w.heap.size rfl _ (jobC ⟨b, 0, none⟩ s t x n (.slice a m c)) (0, 0) _ HJ.out.jb Tryz.underlying63 rfl (by kernel_rfl) ?_)
        | (go_at_call 45; (with_reducible refine (mayFind_any _ b bm l d s t x n a m c HJ.out.dk HG.out HS.out).mono ?_); rintro e w1 ⟨rfl, hb⟩; rw [HF.out]; have HJ1 := Lib.hid (HJ.out.next hb); clear hb))
      refine wp_region_held_drew (S := (fun w' => w'.cell? ⟨w.heap.size, 0, none⟩ = some (ptr ⟨b, 0, none⟩) ∧ w'.cell? ⟨w.heap.size, 1, none⟩ = some (.string s) ∧ w'.cell? ⟨w.heap.size, 3, none⟩ = some (.int .i64 x) ∧ w'.cell? ⟨w.heap.size, 4, none⟩ = some (.int .i64 n) ∧ Jd w b bm l d s t x n (.slice a m c) w')) (by kernel_rfl) (Jd.five HJ1.out.drew) (fun hS => ?_)
      refine rgw 0 ⟨some 9, .fieldAddr 63 (.tmp 1) 3, 0, _, _, none⟩ hS ?_
      refine rgw 1 ⟨some 10, .load 3 (.tmp 9), 3, _, _, none⟩ hS ?_
      refine rgw 2 ⟨some 11, .binOp .lss 3 (.tmp 10) (.const (.int .i64 0)) 3, 4, _, _, none⟩ hS ?_ (v := .bool false) (hy := by intro w hSw; (try dsimp only at hSw); go_simp)
      refine rgw 3 ⟨some 12, .move (.tmp 11), 4, _, _, none⟩ hS ?_
      refine rgw 4 ⟨some 13, .fieldAddr 63 (.tmp 1) 4, 0, _, _, some (3, false)⟩ hS ?_
      refine rgw 5 ⟨some 14, .load 3 (.tmp 13), 3, _, _, some (3, false)⟩ hS ?_
      refine rgw 6 ⟨some 15, .binOp .lss 3 (.tmp 14) (.const (.int .i64 0)) 3, 4, _, _, some (3, false)⟩ hS ?_ (v := .bool true) (hy := by intro w hSw; (try dsimp only at hSw); go_simp)
      refine rgw 7 ⟨some 16, .pick (.tmp 12) (.const (.bool true)) (.tmp 15), 4, _, _, none⟩ hS ?_
      refine rgw 8 ⟨some 17, .move (.tmp 16), 4, _, _, none⟩ hS ?_
      refine rgt 9 (oi := ⟨some 18, .fieldAddr 63 (.tmp 1) 3, 0, _, _, some (8, false)⟩) (v := undef) rfl (.inr ⟨by rfl, rfl⟩) hS ?_
      (try simp only [rgp])
      refine rgt 10 (oi := ⟨some 19, .load 3 (.tmp 18), 3, _, _, some (8, false)⟩) (v := undef) rfl (.inr ⟨by rfl, rfl⟩) hS ?_
      (try simp only [rgp])
      refine rgt 11 (oi := ⟨some 20, .fieldAddr 63 (.tmp 1) 0, 0, _, _, some (8, false)⟩) (v := undef) rfl (.inr ⟨by rfl, rfl⟩) hS ?_
      (try simp only [rgp])
      refine rgt 12 (oi := ⟨some 21, .load 34 (.tmp 20), 34, _, _, some (8, false)⟩) (v := undef) rfl (.inr ⟨by rfl, rfl⟩) hS ?_
      (try simp only [rgp])
      refine rgt 13 (oi := ⟨some 22, .fieldAddr 63 (.tmp 1) 1, 0, _, _, some (8, false)⟩) (v := undef) rfl (.inr ⟨by rfl, rfl⟩) hS ?_
      (try simp only [rgp])
      refine rgt 14 (oi := ⟨some 23, .load 9 (.tmp 22), 9, _, _, some (8, false)⟩) (v := undef) rfl (.inr ⟨by rfl, rfl⟩) hS ?_
      (try simp only [rgp])
      refine rgt 15 (oi := ⟨some 24, .call { callee := .value (.func 24), args := #[.tmp 21, .tmp 23], argTypes := #[34, 9] }, 3, _, _, some (8, false)⟩) (v := undef) rfl (.inr ⟨by rfl, rfl⟩) hS ?_
      (try simp only [rgp])
      refine rgt 16 (oi := ⟨some 25, .fieldAddr 63 (.tmp 1) 4, 0, _, _, some (8, false)⟩) (v := undef) rfl (.inr ⟨by rfl, rfl⟩) hS ?_
      (try simp only [rgp])
      refine rgt 17 (oi := ⟨some 26, .load 3 (.tmp 25), 3, _, _, some (8, false)⟩) (v := undef) rfl (.inr ⟨by rfl, rfl⟩) hS ?_
      (try simp only [rgp])
      refine rgt 18 (oi := ⟨some 27, .binOp .sub 3 (.tmp 24) (.tmp 26) 3, 3, _, _, some (8, false)⟩) (v := undef) rfl (.inr ⟨by rfl, rfl⟩) hS ?_
      (try simp only [rgp])
      refine rgt 19 (oi := ⟨some 28, .binOp .gtr 3 (.tmp 19) (.tmp 27) 3, 4, _, _, some (8, false)⟩) (v := undef) rfl (.inr ⟨by rfl, rfl⟩) hS ?_
      (try simp only [rgp])
      refine rgw 20 ⟨some 29, .pick (.tmp 17) (.const (.bool true)) (.tmp 28), 4, _, _, none⟩ hS ?_
      refine wpAnyH_done (by kernel_rfl) ?_ _
      have HB := Lib.hid hS.2.2.2.2.below
      clear hS
      go_wp2
      go_ret
      exact ⟨rfl, HB.out⟩
    have hd4 : decide (n < 0) = false := decide_eq_false h4
    have hw1 : IntKind.i64.wrap ((k : Int) - n) = (k : Int) - n := IntWalk.i64_in _ (by omega)
    by_cases h5 : (k : Int) - n < x
    · rw [if_pos (.inr (.inr h5))] at hy
      subst hy
      go_enter Tryz.func47, Tryz.ntmps47
      go_wp2_with (first
        | (refine wpList_load_row rfl 63 _ rfl w.heap.size rfl _ (jobC ⟨b, 0, none⟩ s t x n (.slice a m c)) (0, 0) _ HJ.out.jb Tryz.underlying63 rfl (by kernel_rfl) ?_)
        | (go_at_call 45; (with_reducible refine (mayFind_any _ b bm l d s t x n a m c HJ.out.dk HG.out HS.out).mono ?_); rintro e w1 ⟨rfl, hb⟩; rw [HF.out]; have HJ1 := Lib.hid (HJ.out.next hb); clear hb))
      refine wp_region_held_drew (S := (fun w' => w'.cell? ⟨w.heap.size, 0, none⟩ = some (ptr ⟨b, 0, none⟩) ∧ w'.cell? ⟨w.heap.size, 1, none⟩ = some (.string s) ∧ w'.cell? ⟨w.heap.size, 3, none⟩ = some (.int .i64 x) ∧ w'.cell? ⟨w.heap.size, 4, none⟩ = some (.int .i64 n) ∧ Jd w b bm l d s t x n (.slice a m c) w')) (by kernel_rfl) (Jd.five HJ1.out.drew) (fun hS => ?_)
      refine rgw 0 ⟨some 9, .fieldAddr 63 (.tmp 1) 3, 0, _, _, none⟩ hS ?_
      refine rgw 1 ⟨some 10, .load 3 (.tmp 9), 3, _, _, none⟩ hS ?_
      refine rgw 2 ⟨some 11, .binOp .lss 3 (.tmp 10) (.const (.int .i64 0)) 3, 4, _, _, none⟩ hS ?_ (v := .bool false) (hy := by intro w hSw; (try dsimp only at hSw); go_simp)
      refine rgw 3 ⟨some 12, .move (.tmp 11), 4, _, _, none⟩ hS ?_
      refine rgw 4 ⟨some 13, .fieldAddr 63 (.tmp 1) 4, 0, _, _, some (3, false)⟩ hS ?_
      refine rgw 5 ⟨some 14, .load 3 (.tmp 13), 3, _, _, some (3, false)⟩ hS ?_
      refine rgw 6 ⟨some 15, .binOp .lss 3 (.tmp 14) (.const (.int .i64 0)) 3, 4, _, _, some (3, false)⟩ hS ?_ (v := .bool false) (hy := by intro w hSw; (try dsimp only at hSw); go_simp)
      refine rgw 7 ⟨some 16, .pick (.tmp 12) (.const (.bool true)) (.tmp 15), 4, _, _, none⟩ hS ?_
      refine rgw 8 ⟨some 17, .move (.tmp 16), 4, _, _, none⟩ hS ?_
      refine rgw 9 ⟨some 18, .fieldAddr 63 (.tmp 1) 3, 0, _, _, some (8, false)⟩ hS ?_
      refine rgw 10 ⟨some 19, .load 3 (.tmp 18), 3, _, _, some (8, false)⟩ hS ?_
      refine rgw 11 ⟨some 20, .fieldAddr 63 (.tmp 1) 0, 0, _, _, some (8, false)⟩ hS ?_
      refine rgw 12 ⟨some 21, .load 34 (.tmp 20), 34, _, _, some (8, false)⟩ hS ?_
      refine rgw 13 ⟨some 22, .fieldAddr 63 (.tmp 1) 1, 0, _, _, some (8, false)⟩ hS ?_
      refine rgw 14 ⟨some 23, .load 9 (.tmp 22), 9, _, _, some (8, false)⟩ hS ?_
      refine rgw 16 ⟨some 25, .fieldAddr 63 (.tmp 1) 4, 0, _, _, some (8, false)⟩ hS ?_
      refine rgw 17 ⟨some 26, .load 3 (.tmp 25), 3, _, _, some (8, false)⟩ hS ?_
      refine rg_one 15 ⟨some 24, .call { callee := .value (.func 24), args := #[.tmp 21, .tmp 23], argTypes := #[34, 9] }, 3, _, _, some (8, false)⟩ (by kernel_rfl) rfl (fun K hK => ?_)
      go_simp
      (go_at_call 24; (with_reducible refine (psize_any _ b bm l d s hS.2.2.2.2.dk HS.out).mono ?_); rintro e w1 ⟨rfl, rfl⟩; rw [HZ.out])
      refine hK.out _ _ ?_ (fun hS1 => ?_)
      · (exact hS)
      clear hK K hS; have hS := hS1; clear hS1
      (try simp only [rgp])
      refine rgw 18 ⟨some 27, .binOp .sub 3 (.tmp 24) (.tmp 26) 3, 3, _, _, some (8, false)⟩ hS ?_
      refine rgw 19 ⟨some 28, .binOp .gtr 3 (.tmp 19) (.tmp 27) 3, 4, _, _, some (8, false)⟩ hS ?_
      refine rgw 20 ⟨some 29, .pick (.tmp 17) (.const (.bool true)) (.tmp 28), 4, _, _, none⟩ hS ?_
      refine wpAnyH_done (by kernel_rfl) ?_ _
      have HB := Lib.hid hS.2.2.2.2.below
      clear hS
      go_wp2
      go_ret
      exact ⟨rfl, HB.out⟩
    · rw [if_neg (by omega)] at hy
      subst hy
      go_enter Tryz.func47, Tryz.ntmps47
      go_wp2_with (first
        | (refine wpList_load_row rfl 63 _ rfl w.heap.size rfl _ (jobC ⟨b, 0, none⟩ s t x n (.slice a m c)) (0, 0) _ HJ.out.jb Tryz.underlying63 rfl (by kernel_rfl) ?_)
        | (go_at_call 45; (with_reducible refine (mayFind_any _ b bm l d s t x n a m c HJ.out.dk HG.out HS.out).mono ?_); rintro e w1 ⟨rfl, hb⟩; rw [HF.out]; have HJ1 := Lib.hid (HJ.out.next hb); clear hb))
      refine wp_region_held_drew (S := (fun w' => w'.cell? ⟨w.heap.size, 0, none⟩ = some (ptr ⟨b, 0, none⟩) ∧ w'.cell? ⟨w.heap.size, 1, none⟩ = some (.string s) ∧ w'.cell? ⟨w.heap.size, 3, none⟩ = some (.int .i64 x) ∧ w'.cell? ⟨w.heap.size, 4, none⟩ = some (.int .i64 n) ∧ Jd w b bm l d s t x n (.slice a m c) w')) (by kernel_rfl) (Jd.five HJ1.out.drew) (fun hS => ?_)
      refine rgw 0 ⟨some 9, .fieldAddr 63 (.tmp 1) 3, 0, _, _, none⟩ hS ?_
      refine rgw 1 ⟨some 10, .load 3 (.tmp 9), 3, _, _, none⟩ hS ?_
      refine rgw 2 ⟨some 11, .binOp .lss 3 (.tmp 10) (.const (.int .i64 0)) 3, 4, _, _, none⟩ hS ?_ (v := .bool false) (hy := by intro w hSw; (try dsimp only at hSw); go_simp)
      refine rgw 3 ⟨some 12, .move (.tmp 11), 4, _, _, none⟩ hS ?_
      refine rgw 4 ⟨some 13, .fieldAddr 63 (.tmp 1) 4, 0, _, _, some (3, false)⟩ hS ?_
      refine rgw 5 ⟨some 14, .load 3 (.tmp 13), 3, _, _, some (3, false)⟩ hS ?_
      refine rgw 6 ⟨some 15, .binOp .lss 3 (.tmp 14) (.const (.int .i64 0)) 3, 4, _, _, some (3, false)⟩ hS ?_ (v := .bool false) (hy := by intro w hSw; (try dsimp only at hSw); go_simp)
      refine rgw 7 ⟨some 16, .pick (.tmp 12) (.const (.bool true)) (.tmp 15), 4, _, _, none⟩ hS ?_
      refine rgw 8 ⟨some 17, .move (.tmp 16), 4, _, _, none⟩ hS ?_
      refine rgw 9 ⟨some 18, .fieldAddr 63 (.tmp 1) 3, 0, _, _, some (8, false)⟩ hS ?_
      refine rgw 10 ⟨some 19, .load 3 (.tmp 18), 3, _, _, some (8, false)⟩ hS ?_
      refine rgw 11 ⟨some 20, .fieldAddr 63 (.tmp 1) 0, 0, _, _, some (8, false)⟩ hS ?_
      refine rgw 12 ⟨some 21, .load 34 (.tmp 20), 34, _, _, some (8, false)⟩ hS ?_
      refine rgw 13 ⟨some 22, .fieldAddr 63 (.tmp 1) 1, 0, _, _, some (8, false)⟩ hS ?_
      refine rgw 14 ⟨some 23, .load 9 (.tmp 22), 9, _, _, some (8, false)⟩ hS ?_
      refine rgw 16 ⟨some 25, .fieldAddr 63 (.tmp 1) 4, 0, _, _, some (8, false)⟩ hS ?_
      refine rgw 17 ⟨some 26, .load 3 (.tmp 25), 3, _, _, some (8, false)⟩ hS ?_
      refine rg_one 15 ⟨some 24, .call { callee := .value (.func 24), args := #[.tmp 21, .tmp 23], argTypes := #[34, 9] }, 3, _, _, some (8, false)⟩ (by kernel_rfl) rfl (fun K hK => ?_)
      go_simp
      (go_at_call 24; (with_reducible refine (psize_any _ b bm l d s hS.2.2.2.2.dk HS.out).mono ?_); rintro e w1 ⟨rfl, rfl⟩; rw [HZ.out])
      refine hK.out _ _ ?_ (fun hS1 => ?_)
      · (exact hS)
      clear hK K hS; have hS := hS1; clear hS1
      (try simp only [rgp])
      refine rgw 18 ⟨some 27, .binOp .sub 3 (.tmp 24) (.tmp 26) 3, 3, _, _, some (8, false)⟩ hS ?_
      refine rgw 19 ⟨some 28, .binOp .gtr 3 (.tmp 19) (.tmp 27) 3, 4, _, _, some (8, false)⟩ hS ?_
      refine rgw 20 ⟨some 29, .pick (.tmp 17) (.const (.bool true)) (.tmp 28), 4, _, _, none⟩ hS ?_
      refine wpAnyH_done (by kernel_rfl) ?_ _
      have HB := Lib.hid hS.2.2.2.2.below
      clear hS
      go_wp2
      go_ret
      exact ⟨rfl, HB.out⟩
  · rw [if_pos hh] at hy
    subst hy
    have HF := Lib.hid (show (if d.has s then (0 : Int) else 7) = 7 by rw [if_neg hh])
    clear h hs hg hx hn hh
    go_enter Tryz.func47, Tryz.ntmps47
    go_wp2_with (first
      | (refine wpList_load_row rfl 63 _ rfl w.heap.size rfl _ (jobC ⟨b, 0, none⟩ s t x n (.slice a m c)) (0, 0) _ HJ.out.jb Tryz.underlying63 rfl (by kernel_rfl) ?_)
      | (go_at_call 45; (with_reducible refine (mayFind_any _ b bm l d s t x n a m c HJ.out.dk HG.out HS.out).mono ?_); rintro e w1 ⟨rfl, hb⟩; rw [HF.out]; have HJ1 := Lib.hid (HJ.out.next hb); clear hb))
    go_ret
    exact ⟨rfl, HJ1.out.below⟩
end Go.Proofs.YtnmplnemnfonfaaGreatDoor
