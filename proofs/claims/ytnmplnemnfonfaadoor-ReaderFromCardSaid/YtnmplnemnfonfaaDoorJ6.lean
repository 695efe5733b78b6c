/-
  TEXTS JOINED: RdMath, RdFrag, SecsA, Slices, SecsB, Fill, PlanRow. Each one's own words stand at its head.
-/
import Derived.Test.YtnmplnemnfonfaaDoorJ5
import Derived.Test.YtnmplnemnfonfaaDoorJ1
import Derived.Test.YtnmplnemnfonfaaDoorJ4
import Derived.Test.YtnmplnemnfonfaaDoorJ0
import Derived.Deep.Slices
import Derived.Great.BuildSlice
import Derived.Deep.MidRow
namespace Go.Proofs.YtnmplnemnfonfaaDoor
structure RR where
  at_ : Nat
  o : Bool
  h : List Int
section
variable (ep : Int) (B : List Int) (K : List Bool)
def rrGo (s : RR) : RR :=
  ⟨beginN (s.at_ + (scF ep B K s.at_).2), jGoes s.o s.h (scF ep B K s.at_).1.kind (scF ep B K s.at_).1.data, jHad s.o s.h (scF ep B K s.at_).1.kind (scF ep B K s.at_).1.data⟩
def rrStop (s : RR) : Bool :=
  decide ((scF ep B K s.at_).2 = 0) || (decide (jErr s.o s.h (scF ep B K s.at_).1.kind (scF ep B K s.at_).1.data ≠ 0) || jEnds s.o s.h (scF ep B K s.at_).1.kind (scF ep B K s.at_).1.data)
def rrK (a : Nat) : Nat → RR
  | 0 => ⟨a, false, []⟩
  | k + 1 => rrGo ep B K (rrK a k)
def rdEnd (s : RR) : Option (List Int × Nat) :=
  if (scF ep B K s.at_).2 ≠ 0 ∧ jEnds s.o s.h (scF ep B K s.at_).1.kind (scF ep B K s.at_).1.data = true then some (jTell s.o s.h (scF ep B K s.at_).1.kind (scF ep B K s.at_).1.data, s.at_ + (scF ep B K s.at_).2) else none
def rdGo : Nat → RR → Option (List Int × Nat)
  | 0, s => rdEnd ep B K s
  | k + 1, s => if rrStop ep B K s = true then rdEnd ep B K s else rdGo k (rrGo ep B K s)
def rdOf (a : Nat) : Option (List Int × Nat) := rdGo ep B K 832 ⟨a, false, []⟩
end
section
variable {ep : Int} {B : List Int} {K : List Bool} {s : RR} {a : Nat}
structure RR.Ok (s : RR) : Prop where
  at_ : s.at_ ≤ 832
  h : s.h.length ≤ 512
theorem rr_goes (h : rrStop ep B K s = false) : (scF ep B K s.at_).2 ≠ 0 ∧ jErr s.o s.h (scF ep B K s.at_).1.kind (scF ep B K s.at_).1.data = 0 ∧ jEnds s.o s.h (scF ep B K s.at_).1.kind (scF ep B K s.at_).1.data = false := by
  unfold rrStop at h
  simp only [Bool.or_eq_false_iff, decide_eq_false_iff_not, ne_eq, Decidable.not_not] at h
  exact ⟨h.1, h.2.1, h.2.2⟩
theorem rr_going (h1 : (scF ep B K s.at_).2 ≠ 0) (h2 : jErr s.o s.h (scF ep B K s.at_).1.kind (scF ep B K s.at_).1.data = 0) (h3 : jEnds s.o s.h (scF ep B K s.at_).1.kind (scF ep B K s.at_).1.data = false) : rrStop ep B K s = false := by
  unfold rrStop
  simp only [h2, h3]
  simp [h1]
theorem rr_none (h : (scF ep B K s.at_).2 = 0) : rrStop ep B K s = true ∧ rdEnd ep B K s = none := by
  constructor
  · unfold rrStop; simp [h]
  · unfold rdEnd; rw [if_neg (by simp [h])]
theorem rr_err (h : jErr s.o s.h (scF ep B K s.at_).1.kind (scF ep B K s.at_).1.data ≠ 0) : rrStop ep B K s = true ∧ rdEnd ep B K s = none := by
  constructor
  · unfold rrStop; simp [h]
  · unfold rdEnd; rw [if_neg (by unfold jEnds; simp [h])]
theorem rr_ends (h0 : (scF ep B K s.at_).2 ≠ 0) (h : jEnds s.o s.h (scF ep B K s.at_).1.kind (scF ep B K s.at_).1.data = true) : rrStop ep B K s = true ∧
    rdEnd ep B K s = some (jTell s.o s.h (scF ep B K s.at_).1.kind (scF ep B K s.at_).1.data, s.at_ + (scF ep B K s.at_).2) := by
  constructor
  · unfold rrStop; simp [h]
  · unfold rdEnd; rw [if_pos ⟨h0, h⟩]
theorem scF_in (hB : B.length = 832) (ha : a ≤ 832) (h : (scF ep B K a).2 ≠ 0) : 11 ≤ (scF ep B K a).2 ∧ a + (scF ep B K a).2 ≤ 832 ∧ (scF ep B K a).1.data.length ≤ 197 := by
  obtain ⟨_, _, h3, _, h5⟩ := scF_some h
  have hp := scD_parts hB ha h3
  rw [h5]
  exact ⟨hp.1, hp.2.2.1, hp.2.2.2.2⟩
theorem rrGo_ok (hB : B.length = 832) (hs : s.Ok) (h : rrStop ep B K s = false) : (rrGo ep B K s).Ok ∧ s.at_ + 11 ≤ (rrGo ep B K s).at_ := by
  obtain ⟨h1, _, _⟩ := rr_goes h
  obtain ⟨h2, h3, _⟩ := scF_in hB hs.at_ h1
  have hb := begin_le _ h3
  have hg : s.at_ + (scF ep B K s.at_).2 ≤ beginN (s.at_ + (scF ep B K s.at_).2) := by
    generalize s.at_ + (scF ep B K s.at_).2 = t at *
    unfold beginN; split <;> omega
  exact ⟨⟨hb, jHad_le⟩, by show s.at_ + 11 ≤ beginN _; omega⟩
theorem rrK_ok (hB : B.length = 832) (ha : a ≤ 832) : ∀ k, (∀ j, j < k → rrStop ep B K (rrK ep B K a j) = false) → (rrK ep B K a k).Ok ∧ 11 * k ≤ (rrK ep B K a k).at_
  | 0, _ => ⟨⟨ha, by simp [rrK]⟩, by omega⟩
  | k + 1, h => by
    obtain ⟨h1, h2⟩ := rrK_ok hB ha k fun j hj => h j (by omega)
    obtain ⟨h3, h4⟩ := rrGo_ok hB h1 (h k (by omega))
    exact ⟨h3, by show 11 * (k + 1) ≤ (rrGo ep B K _).at_; omega⟩
theorem rr_least (hB : B.length = 832) (ha : a ≤ 832) : ∃ k, k ≤ 76 ∧ rrStop ep B K (rrK ep B K a k) = true ∧ ∀ j, j < k → rrStop ep B K (rrK ep B K a j) = false := by
  have key : ∀ m, (∃ k, k < m ∧ rrStop ep B K (rrK ep B K a k) = true ∧ ∀ j, j < k → rrStop ep B K (rrK ep B K a j) = false) ∨ ∀ j, j < m → rrStop ep B K (rrK ep B K a j) = false := by
    intro m
    induction m with
    | zero => exact .inr fun j hj => absurd hj (by omega)
    | succ m ih =>
      rcases ih with ⟨k, h1, h2⟩ | h
      · exact .inl ⟨k, by omega, h2⟩
      · cases hm : rrStop ep B K (rrK ep B K a m) with
        | true => exact .inl ⟨m, by omega, hm, h⟩
        | false =>
          refine .inr fun j hj => ?_
          rcases (by omega : j < m ∨ j = m) with q | rfl
          · exact h j q
          · exact hm
  rcases key 77 with ⟨k, h1, h2⟩ | h
  · exact ⟨k, by omega, h2⟩
  · obtain ⟨h1, h2⟩ := rrK_ok hB ha 77 h
    have := h1.at_
    omega
theorem rdGo_rrK : ∀ (j k : Nat), (∀ i, i < j → rrStop ep B K (rrK ep B K a i) = false) → rdGo ep B K (k + j) (rrK ep B K a 0) = rdGo ep B K k (rrK ep B K a j)
  | 0, _, _ => rfl
  | j + 1, k, h => by
    rw [show k + (j + 1) = (k + 1) + j from by omega, rdGo_rrK j (k + 1) fun i hi => h i (by omega)]
    have := h j (by omega)
    simp only [rdGo, this, Bool.false_eq_true, if_false]
    rfl
theorem rdGo_stop (k : Nat) (h : rrStop ep B K s = true) : rdGo ep B K k s = rdEnd ep B K s := by
  cases k with
  | zero => rfl
  | succ k => simp only [rdGo, h, if_true]
theorem rdOf_at (hB : B.length = 832) (ha : a ≤ 832) {k : Nat} (hs : rrStop ep B K (rrK ep B K a k) = true) (h : ∀ j, j < k → rrStop ep B K (rrK ep B K a j) = false) : rdOf ep B K a = rdEnd ep B K (rrK ep B K a k) := by
  obtain ⟨h1, h2⟩ := rrK_ok hB ha k h
  have := h1.at_
  unfold rdOf
  rw [show (832 : Nat) = (832 - k) + k from by omega]
  exact (rdGo_rrK k (832 - k) h).trans (rdGo_stop _ hs)
def RdWay (ep : Int) (B : List Int) (K : List Bool) (a : Nat) (s : RR) : Prop := s.Ok ∧ ∃ k, 832 ≤ k + s.at_ ∧ rdGo ep B K k s = rdOf ep B K a
theorem rdway_0 (ha : a ≤ 832) : RdWay ep B K a ⟨a, false, []⟩ := ⟨⟨ha, by simp⟩, 832, by omega, rfl⟩
theorem RdWay.next (hB : B.length = 832) (h : RdWay ep B K a s) (hn : rrStop ep B K s = false) : RdWay ep B K a (rrGo ep B K s) ∧ s.at_ + 11 ≤ (rrGo ep B K s).at_ := by
  obtain ⟨hs, k, hk, hg⟩ := h
  obtain ⟨ht, hat⟩ := rrGo_ok hB hs hn
  have := ht.at_
  obtain ⟨q, rfl⟩ : ∃ q, k = q + 1 := ⟨k - 1, by omega⟩
  refine ⟨⟨ht, q, by omega, ?_⟩, hat⟩
  rw [← hg]
  simp only [rdGo, hn, Bool.false_eq_true, if_false]
theorem RdWay.stop (h : RdWay ep B K a s) (hn : rrStop ep B K s = true) : rdOf ep B K a = rdEnd ep B K s := by
  obtain ⟨hs, k, hk, hg⟩ := h
  rw [← hg]
  exact rdGo_stop k hn
def Come (ep : Int) (B : List Int) (K : List Bool) (s : SS) : Prop :=
  if s.o = true then ∃ j, rrK ep B K s.first j = ⟨beginN s.at_, s.o, s.h⟩ ∧ ∀ i, i < j → rrStop ep B K (rrK ep B K s.first i) = false else s.h = []
def Stands (ep : Int) (B : List Int) (K : List Bool) (s : SS) : Prop := ∀ (i : Nat) (r : List Int) (p : Int), s.recs[i]? = some r → s.places[i]? = some p → ∃ q e : Nat, p = (q : Int) ∧ q ≤ 832 ∧ rdOf ep B K q = some (r, e) ∧ (i + 1 = s.recs.length → e = s.fin)
theorem stands_step (hB : B.length = 832) {s t : SS} (hs : s.Ok) (hc : Come ep B K s) (hst : Stands ep B K s) (h : scNext ep B K s = some t) : Come ep B K t ∧ Stands ep B K t := by
  have hq : ¬ ((scF ep B K (beginN s.at_)).2 = 0 ∨ jErr s.o s.h (scF ep B K (beginN s.at_)).1.kind (scF ep B K (beginN s.at_)).1.data ≠ 0) := fun e => by
    rw [scNext_none e] at h; cases h
  have h0 : (scF ep B K (beginN s.at_)).2 ≠ 0 := fun e => hq (.inl e)
  have hj : jErr s.o s.h (scF ep B K (beginN s.at_)).1.kind (scF ep B K (beginN s.at_)).1.data = 0 := Decidable.not_not.1 fun e => hq (.inr e)
  rw [scNext_some h0 hj] at h
  obtain rfl := Option.some.inj h
  have hbl := begin_le s.at_ hs.at_
  have hf8 : scFirst s ≤ 832 := by
    unfold scFirst; split
    · exact hs.first
    · exact hbl
  have hw : ∃ j, rrK ep B K (scFirst s) j = ⟨beginN s.at_, s.o, s.h⟩ ∧ ∀ i, i < j → rrStop ep B K (rrK ep B K (scFirst s) i) = false := by
    unfold Come at hc
    unfold scFirst
    by_cases ho : s.o = true
    · rw [if_pos ho] at hc ⊢; exact hc
    · rw [if_neg ho] at hc ⊢
      refine ⟨0, ?_, fun i hi => absurd hi (by omega)⟩
      rw [hc, Bool.eq_false_iff.2 ho]; rfl
  obtain ⟨j, hr, hno⟩ := hw
  cases he : jEnds s.o s.h (scF ep B K (beginN s.at_)).1.kind (scF ep B K (beginN s.at_)).1.data with
  | true =>
    have e : scStep s (scF ep B K (beginN s.at_)).1 (scF ep B K (beginN s.at_)).2 = ⟨beginN s.at_ + (scF ep B K (beginN s.at_)).2, scFirst s, jGoes s.o s.h (scF ep B K (beginN s.at_)).1.kind (scF ep B K (beginN s.at_)).1.data, jHad s.o s.h (scF ep B K (beginN s.at_)).1.kind (scF ep B K (beginN s.at_)).1.data,
        s.recs ++ [jTell s.o s.h (scF ep B K (beginN s.at_)).1.kind (scF ep B K (beginN s.at_)).1.data], s.places ++ [((scFirst s : Nat) : Int)], beginN s.at_ + (scF ep B K (beginN s.at_)).2⟩ := by
      unfold scStep; rw [he]; rfl
    have hstop := rr_ends (ep := ep) (B := B) (K := K) (s := ⟨beginN s.at_, s.o, s.h⟩) h0 he
    have hg : jGoes s.o s.h (scF ep B K (beginN s.at_)).1.kind (scF ep B K (beginN s.at_)).1.data = false := by
      unfold jEnds at he
      unfold jGoes
      simp only [Bool.and_eq_true] at he
      rw [he.2]; simp
    have hd : jHad s.o s.h (scF ep B K (beginN s.at_)).1.kind (scF ep B K (beginN s.at_)).1.data = [] := by unfold jHad; rw [hg]; rfl
    have hat := rdOf_at hB hf8 (by rw [hr]; exact hstop.1) hno
    rw [hr, hstop.2] at hat
    rw [e]
    refine ⟨?_, fun i r p h1 h2 => ?_⟩
    · show if _ = true then _ else _
      rw [if_neg (by show ¬ jGoes _ _ _ _ = true; rw [hg]; simp)]
      exact hd
    · have h1 : (s.recs ++ [jTell s.o s.h (scF ep B K (beginN s.at_)).1.kind (scF ep B K (beginN s.at_)).1.data])[i]? = some r := h1
      have h2 : (s.places ++ [((scFirst s : Nat) : Int)])[i]? = some p := h2
      have hfew := hs.few
      by_cases hi : i < s.recs.length
      · rw [List.getElem?_append_left hi] at h1
        rw [List.getElem?_append_left (by omega)] at h2
        obtain ⟨q, e, h3, h4, h5, _⟩ := hst i r p h1 h2
        exact ⟨q, e, h3, h4, h5, fun h => absurd h (by show ¬ i + 1 = (s.recs ++ [_]).length; simp; omega)⟩
      · have hi2 : i = s.recs.length := by
          have := (List.getElem?_eq_some_iff.1 h1).1
          simp at this; omega
        subst hi2
        rw [List.getElem?_append_right (Nat.le_refl _)] at h1
        rw [hfew, List.getElem?_append_right (Nat.le_refl _)] at h2
        simp only [Nat.sub_self, List.getElem?_cons_zero, Option.some.injEq] at h1 h2
        subst h1
        subst h2
        exact ⟨_, _, rfl, hf8, hat, fun _ => rfl⟩
  | false =>
    have e : scStep s (scF ep B K (beginN s.at_)).1 (scF ep B K (beginN s.at_)).2 = ⟨beginN s.at_ + (scF ep B K (beginN s.at_)).2, scFirst s, jGoes s.o s.h (scF ep B K (beginN s.at_)).1.kind (scF ep B K (beginN s.at_)).1.data, jHad s.o s.h (scF ep B K (beginN s.at_)).1.kind (scF ep B K (beginN s.at_)).1.data, s.recs, s.places, s.fin⟩ := by
      unfold scStep; rw [he]; rfl
    have hgo := rr_going (ep := ep) (B := B) (K := K) (s := ⟨beginN s.at_, s.o, s.h⟩) h0 hj he
    have hg : jGoes s.o s.h (scF ep B K (beginN s.at_)).1.kind (scF ep B K (beginN s.at_)).1.data = true := by
      unfold jEnds at he
      unfold jGoes
      rw [hj] at he ⊢
      simp only [decide_true, Bool.true_and] at he ⊢
      rw [he]; rfl
    rw [e]
    refine ⟨?_, hst⟩
    show if _ = true then _ else _
    rw [if_pos hg]
    refine ⟨j + 1, ?_, fun i hi => ?_⟩
    · show rrGo ep B K (rrK ep B K (scFirst s) j) = _
      rw [hr]; rfl
    · rcases (by omega : i < j ∨ i = j) with q | rfl
      · exact hno i q
      · show rrStop ep B K (rrK ep B K (scFirst s) i) = false
        rw [hr]; exact hgo
theorem stands_go (hB : B.length = 832) : ∀ (k : Nat) (s : SS), s.Ok → Come ep B K s → Stands ep B K s → Stands ep B K (scGo ep B K k s)
  | 0, _, _, _, h => h
  | k + 1, s, hs, hc, h => by
    unfold scGo
    cases hn : scNext ep B K s with
    | none => exact h
    | some t =>
      obtain ⟨h1, h2⟩ := stands_step hB hs hc h hn
      exact stands_go hB k t (scNext_ok hB hs hn).1 h1 h2
theorem stands_end (hB : B.length = 832) : Stands ep B K (scEnd ep B K) := by
  unfold scEnd
  exact stands_go hB 832 sc0 sc0_ok (by unfold Come; rw [if_neg (by simp [sc0])]; rfl) fun i r p h => by simp [sc0] at h
theorem scF_short (hB : B.length = 832) (ha : a ≤ 832) (h : 832 < a + 11) : scF ep B K a = (noFr, 0) := by
  by_cases h0 : (scF ep B K a).2 = 0
  · exact scF_none h0 hB ha
  · have := scF_in hB ha h0
    omega
theorem covat_sub {b c : Nat} (hab : a < b) (hbc : b ≤ c) (hc : c ≤ 832) (h : covAt K (a : Int) (c : Int) = true) : covAt K (a : Int) (b : Int) = true := by
  unfold covAt at h ⊢
  rw [nr_nat a (by omega), nr_nat b (by omega)]
  rw [nr_nat a (by omega), nr_nat c hc] at h
  have t1 : touchN a b = (a / 52, (b - 1) / 52 + 1) := if_pos hab
  have t2 : touchN a c = (a / 52, (c - 1) / 52 + 1) := if_pos (by omega)
  rw [t1]
  rw [t2] at h
  refine cov_all _ _ _ fun i hi => ?_
  have hi : i < (b - 1) / 52 + 1 - a / 52 := hi
  exact List.all_eq_true.1 h i (List.mem_range.2 (by show i < (c - 1) / 52 + 1 - a / 52; omega))
theorem scF_plain (hB : B.length = 832) (ha : a ≤ 832) :
    ((scD ep B a).2.2 = 0 → covAt K (a : Int) ((a + (scD ep B a).2.1 : Nat) : Int) = true → scF ep B K a = ((scD ep B a).1, (scD ep B a).2.1)) ∧
    ((scD ep B a).2.2 ≠ 0 → scF ep B K a = (noFr, 0)) ∧ (covAt K (a : Int) ((a + (scD ep B a).2.1 : Nat) : Int) = false → scF ep B K a = (noFr, 0)) := by
  refine ⟨fun h1 h2 => ?_, scF_err, scF_cov⟩
  have hp := scD_parts hB ha h1
  exact scF_yes (by omega) (covat_sub (by omega) (by omega) hp.2.2.1 h2) h1 h2
end
end Go.Proofs.YtnmplnemnfonfaaDoor
namespace Go.Proofs.YtnmplnemnfonfaaDoor
open Go.RowKit
theorem wpl_box_bd {ops : Array Oper} {rest : List Oper} {o : Oper} {a : Act} {Q : Exit → Act → World → Prop} {w : World} (hg : o.guard = none) (x : Operand) (ho : o.op = .box 65 x) (cs : Array Value) (hx : a.eval x = .agg cs)
    (h : wpList Tryd.prog ops Q rest (a.put o.dst (.pointer (some ⟨w.heap.size, 0, none⟩))) (w.alloc (.cells cs 65))) : wpList Tryd.prog ops Q (o :: rest) a w :=
  wpList_plain hg fun _ hK => by
    unfold Oper.wp execOp
    simp only [ho, hx]
    simp [go_sem]
    exact hK _ _ h
theorem rd_cell_over {w w' : World} {b j : Nat} {v : Value} {g : Nat} (h : w.cell? ⟨b, j, none⟩ = some v) (hg : w.grownBy w' (some g)) (hne : b ≠ g) : w'.cell? ⟨b, j, none⟩ = some v := by
  have hlt : b < w.heap.size := by
    by_cases hl : b < w.heap.size
    · exact hl
    · have : w.heap[b]? = none := Array.getElem?_eq_none (by omega)
      simp [World.cell?, this] at h
  exact (World.cell?_of_block (hg.block b hlt (fun e => hne (Option.some.inj e)))).trans h
abbrev rbA (ep : Int) (bv kv : Value) : Array Value := #[.int .u32 ep, bv, kv]
def BFragT (F : FR × Nat) (p : Int) (w : World) (r : Ending) (w' : World) : Prop :=
  Below w.heap.size w w' ∧ ((F.2 = 0 ∧ ∃ k e x n c m, r = .returned (.tuple #[.agg (fA k e (.slice x n c)), .int .i64 m, .bool false])) ∨
    (F.2 ≠ 0 ∧ ∃ x c, r = .returned (.tuple #[.agg (fA F.1.kind F.1.epoch (.slice x F.1.data.length c)), .int .i64 (p + (F.2 : Nat)), .bool true]) ∧
      w'.ownsRow w.heap.size 5 1 (.slice x F.1.data.length c) F.1.data.length (il .u8 F.1.data)))
set_option maxRecDepth 8000 in
set_option maxHeartbeats 4000000 in
theorem bfrag_out (ep : Int) (bv kv : Value) (p : Int) (hp : p < 0 ∨ p > 832) (w : World) :
    Calls Tryd.prog 21 #[.agg (rbA ep bv kv), .int .i64 p] w (BFragT (noFr, 0) p w) := by
  obtain ⟨wb, hwb⟩ : ∃ q, w.alloc (.cells (rbA ep bv kv) 65) = q := ⟨_, rfl⟩
  obtain ⟨wa, hwa⟩ : ∃ q, wb.alloc (.cells (fA 0 0 (.slice none 0 0)) 43) = q := ⟨_, rfl⟩
  have HA : Hid (FO wa wb.heap.size 0 0 (.slice none 0 0)) := Lib.hid (by rw [← hwa]; exact FO.alloc wb)
  have HBS : Hid (w.heap.size ≤ wb.heap.size) := Lib.hid (by rw [← hwb]; simp)
  have HBA : Hid (Below w.heap.size w wa) := Lib.hid (by rw [← hwa, ← hwb]; exact bch (balloc w _) (balloc _ _))
  rcases hp with h1 | h1
  · go_enter Tryd.func21, Tryd.ntmps21
    go_wp2_with (first
      | (refine wpl_box_bd rfl (.tmp 0) rfl (rbA ep bv kv) rfl ?_; rw [hwb])
      | (rw [hwa])
      | (refine wpl_put_fr rfl (.tmp 4) (.tmp 16) rfl wb.heap.size HA.out 0 0 none 0 0 rfl rfl ?_; intro wz HZ HGZ))
    refine bodyPost_ret_by (results_row_tmp2 rfl _ _ wb.heap.size _ rfl HZ.out.load) rfl ?_
    exact ⟨below_over HBA.out HGZ.out HBS.out HBA.out.size, .inl ⟨rfl, _, _, _, _, _, _, rfl⟩⟩
  · have h0 : ¬ p < 0 := by omega
    go_enter Tryd.func21, Tryd.ntmps21
    go_wp2_with (first
      | (refine wpl_box_bd rfl (.tmp 0) rfl (rbA ep bv kv) rfl ?_; rw [hwb])
      | (rw [hwa])
      | (refine wpl_put_fr rfl (.tmp 4) (.tmp 16) rfl wb.heap.size HA.out 0 0 none 0 0 rfl rfl ?_; intro wz HZ HGZ))
    refine bodyPost_ret_by (results_row_tmp2 rfl _ _ wb.heap.size _ rfl HZ.out.load) rfl ?_
    exact ⟨below_over HBA.out HGZ.out HBS.out HBA.out.size, .inl ⟨rfl, _, _, _, _, _, _, rfl⟩⟩
set_option maxRecDepth 8000 in
set_option maxHeartbeats 4000000 in
theorem bfrag_in {W w : World} {ep : Int} {bv kv : Value} {B : List Int} {K : List Bool} (hb : Below W.heap.size W w) (hT : Tab W) (hB : B.length = 832) (hBb : isB B) (hbv : RI .u8 w bv 832 B) (hk : BS w kv 16 K) (a : Nat) (ha : a ≤ 832) :
    Calls Tryd.prog 21 #[.agg (rbA ep bv kv), .int .i64 (a : Int)] w (BFragT (scF ep B K a) (a : Int) w) := by
  obtain ⟨ba, bc, rfl, _, hbc, _⟩ := id hbv
  obtain ⟨wb, hwb⟩ : ∃ q, w.alloc (.cells (rbA ep (.slice ba 832 bc) kv) 65) = q := ⟨_, rfl⟩
  obtain ⟨wa, hwa⟩ : ∃ q, wb.alloc (.cells (fA 0 0 (.slice none 0 0)) 43) = q := ⟨_, rfl⟩
  have hwbs : wb.heap.size = w.heap.size + 1 := by rw [← hwb]; simp
  have hb1 : Below w.heap.size w wb := by rw [← hwb]; exact balloc w _
  have hb2 : Below wb.heap.size wb wa := by rw [← hwa]; exact balloc wb _
  have hk0 : wa.heap[w.heap.size]? = some (.cells (rbA ep (.slice ba 832 bc) kv) 65 (0, 0)) := by
    rw [hb2.block _ (by omega), ← hwb]; exact heap_alloc_last w _
  have HA : Hid (FO wa wb.heap.size 0 0 (.slice none 0 0)) := Lib.hid (by rw [← hwa]; exact FO.alloc wb)
  have hba : Below w.heap.size w wa := bch hb1 hb2
  have HBA := Lib.hid hba
  have HB0 := Lib.hid (bch hb hba)
  have HT := Lib.hid hT
  have HKA := Lib.hid (hk.kin (Kin.below hba))
  obtain ⟨l, hl⟩ : ∃ l, leftN a = l := ⟨_, rfl⟩
  have hla := left_le a ha
  rw [hl] at hla
  have hna : nr (a : Int) = a := nr_nat a ha
  have h0 : ¬ (a : Int) < 0 := by omega
  have h8 : ¬ (a : Int) > 832 := by omega
  have h8' : ¬ (832 : Int) < (a : Int) := by omega
  have HLF : Hid (∀ w, Calls Tryd.prog 36 #[.int .i64 a] w fun e w' => e = .returned (.int .i64 (l : Int)) ∧ Below w.heap.size w w') := Lib.hid fun w => by
    have := left_any (a : Int) (by unfold I63; omega) w; rwa [hna, hl] at this
  obtain ⟨t, ht⟩ : ∃ t, a + l = t := ⟨_, rfl⟩
  have htI : (a : Int) + (l : Int) = (t : Int) := by omega
  have ht8 : (t : Int) ≤ 832 := by omega
  obtain ⟨q, qc, hq⟩ := sliced_form ba a l bc 1
  have HSL := Lib.hid hq
  have hcut : ∀ w', Below w.heap.size w w' → RI .u8 w' (.slice q l qc) l (bSl B a) := fun w' h => by
    have := (hbv.keep h).cut a l bc (by omega) (by omega) (Nat.le_refl _)
    rw [hq] at this
    unfold bSl
    rw [hl]
    exact this
  have hbs : isB (bSl B a) := (hBb.drop _).take _
  have HDC : Hid (∀ w', Below w.heap.size w w' → Calls Tryd.prog 35 #[.slice q l qc, .int .u32 ep] w' (DecF (bSl B a) ep w')) := Lib.hid fun w' h => fdec_any _ l _ ep w' (hT.keep (bch hb h)) (hcut w' h) hbs
  have HTL := Lib.hid ht
  have HWT : Hid (IntKind.i64.wrap (t : Int) = (t : Int)) := Lib.hid (wrap_id _ (by omega))
  have HBC : Hid (t ≤ bc) := Lib.hid (by omega)
  obtain ⟨f, m, x, hD⟩ : ∃ f m x, scD ep B a = (f, m, x) := ⟨_, _, _, rfl⟩
  have HDF : Hid (∀ w w' r, DecF (bSl B a) ep w r w' → ∃ p n c, r = .returned (.tuple #[.agg (fA f.kind f.epoch (.slice p n c)), .int .i64 (m : Nat), .int .i64 x]) ∧ w'.ownsRow w.heap.size 5 1 (.slice p n c) n (il .u8 f.data) ∧ Below w.heap.size w w') := Lib.hid fun w w' r h => by
    obtain ⟨p, n, c, h1, h2, h3⟩ := h
    rw [show fragD (bSl B a) ep = (f, m, x) from hD] at h1 h2
    exact ⟨p, n, c, h1, h2, h3⟩
  obtain ⟨g1, g2, g3⟩ := scF_plain (ep := ep) (B := B) (K := K) hB ha
  have hx : (x = 0 ∧ 11 ≤ m ∧ a + m ≤ 832 ∧ (∀ n, covAt K (a : Int) ((a + m : Nat) : Int) = n → if n = true then scF ep B K a = (f, m) else scF ep B K a = (noFr, 0))) ∨ (x ≠ 0 ∧ scF ep B K a = (noFr, 0) ∧ m = 0) := by
    rw [hD] at g1 g2 g3
    dsimp only at g1 g2 g3
    by_cases h0 : x = 0
    · have hp := scD_parts hB ha (ep := ep) (by rw [hD]; exact h0)
      rw [hD] at hp
      refine .inl ⟨h0, hp.1, hp.2.2.1, fun n hn => ?_⟩
      cases n with
      | true => exact g1 h0 hn
      | false => exact g3 hn
    · have he := fragD_err (zs := bSl B a) (ep := ep) (by show (scD ep B a).2.2 ≠ 0; rw [hD]; exact h0)
      have he2 : scD ep B a = (noFr, 0, (scD ep B a).2.2) := he
      rw [hD] at he2
      exact .inr ⟨h0, g2 h0, (Prod.mk.inj (Prod.mk.inj he2).2).1⟩
  clear g1 g2 g3
  obtain ⟨t2, ht2⟩ : ∃ t, a + m = t := ⟨_, rfl⟩
  have ht2I : (a : Int) + (m : Int) = (t2 : Int) := by omega
  have hm8 : t2 ≤ 832 := by rcases hx with ⟨_, _, h, _⟩ | ⟨_, _, h⟩ <;> omega
  have HW2 : Hid (IntKind.i64.wrap (t2 : Int) = (t2 : Int)) := Lib.hid (wrap_id _ (by omega))
  have HCV : Hid (∀ (w' : World), Below wa.heap.size wa w' → Calls Tryd.prog 37 #[kv, .int .i64 (a : Int), .int .i64 (t2 : Int)] w' fun e w'' => e = .returned (.bool (covAt K (a : Int) (t2 : Int))) ∧ Below w'.heap.size w' w'') := Lib.hid fun w' h => covered_any kv 16 K a t2 (by unfold I63; omega) (by unfold I63; omega) w' (HKA.out.kin (Kin.below h))
  obtain ⟨fk, fe, fd⟩ := f
  dsimp only at HDF
  have HK0 := Lib.hid hk0
  have HS3 : Hid (∀ w', Below wa.heap.size wa w' → w'.cell? ⟨w.heap.size, 0, none⟩ = some (.int .u32 ep) ∧ w'.cell? ⟨w.heap.size, 1, none⟩ = some (.slice ba 832 bc) ∧ Below wa.heap.size wa w') := Lib.hid fun w' h => by
    have hq := (h.block _ (Array.getElem?_eq_some_iff.1 hk0).1).trans hk0
    exact ⟨cell_of_row w' _ 0 _ _ _ hq, cell_of_row w' _ 1 _ _ _ hq, h⟩
  have HWB := Lib.hid (show wb.heap.size < wa.heap.size ∧ w.heap.size < wb.heap.size from ⟨by rw [← hwa]; simp, by omega⟩)
  have HMI : Hid (t2 = a + m) := Lib.hid ht2.symm
  have HTM := Lib.hid (show t2 ≤ 832 from hm8)
  clear hb hT hB hBb hbv hk ha hb1 hb2 hk0 hba hbc hl hla hna hq hcut hbs ht hwbs hD ht2 hm8
  go_enter Tryd.func21, Tryd.ntmps21
  go_wp2_with (first
    | (refine wpl_box_bd rfl (.tmp 0) rfl (rbA ep (.slice ba 832 bc) kv) rfl ?_; rw [hwb])
    | (rw [hwa]))
  clear hwb hwa
  go_wp2_with fail
  refine wp_region_held_drew (S := (fun w' => w'.cell? ⟨w.heap.size, 0, none⟩ = some (.int .u32 ep) ∧ w'.cell? ⟨w.heap.size, 1, none⟩ = some (.slice ba 832 bc) ∧ Below wa.heap.size wa w')) (by kernel_rfl) (HS3.out _ (Below.refl _ wa).drew) (fun hS => ?_)
  refine rgw 0 ⟨some 18, .fieldAddr 65 (.tmp 2) 1, 0, _, _, none⟩ hS ?_
  refine rgw 1 ⟨some 19, .load 25 (.tmp 18), 25, _, _, none⟩ hS ?_
  refine rgw 2 ⟨some 20, .move (.tmp 1), 3, _, _, none⟩ hS ?_
  refine rgw 3 ⟨some 21, .move (.tmp 1), 3, _, _, none⟩ hS ?_
  refine rgw 4 ⟨some 22, .move (.tmp 1), 3, _, _, none⟩ hS ?_
  refine rgw 8 ⟨some 26, .fieldAddr 65 (.tmp 2) 0, 0, _, _, none⟩ hS ?_
  refine rgw 9 ⟨some 27, .load 41 (.tmp 26), 41, _, _, none⟩ hS ?_
  refine rg_both 5 15 ⟨some 23, .call { callee := .value (.func 36), args := #[.tmp 22], argTypes := #[3] }, 3, _, _, none⟩ ⟨some 7, .alloc 43, 0, _, _, none⟩ (by kernel_rfl) rfl rfl (fun K hK => ?_) (fun K hK => ?_)
  focus
    go_simp
    (go_at_call 36; (with_reducible refine (HLF.out _).mono ?_); rintro r w2 ⟨rfl, hb⟩; have hN := HS3.out _ (bch hS.2.2 hb); (try (have q := Lib.hid (HG.out.keep hb); clear HG; have HG := q; clear q)); clear hb)
    refine hK.out _ _ ?_ (fun hS1 => ?_)
    · (first | exact hN | exact hS)
    clear hK K hS; have hS := hS1; clear hS1
    (try simp only [rgp])
    refine rgw 6 ⟨some 24, .binOp .add 3 (.tmp 21) (.tmp 23) 3, 3, _, _, none⟩ hS ?_ (v := .int .i64 (t : Int)) (hy := by intro w hSw; (try dsimp only at hSw); have z := HWT.out; go_simp; (try exact z))
    refine rgw 7 ⟨some 25, .slice 25 (.tmp 19) (some (.tmp 20)) (some (.tmp 24)) none, 25, _, _, none⟩ hS ?_ (v := .slice q l qc) (hy := by intro w hSw; (try dsimp only at hSw); exact (exec_cut_lh (.tmp 19) (.tmp 20) (.tmp 24) rfl ba 832 bc a l rfl rfl (by rw [HTL.out]; rfl) (by rw [HTL.out]; exact HBC.out)).trans (by rw [HSL.out]))
    refine rg_both 10 15 ⟨some 28, .call { callee := .value (.func 35), args := #[.tmp 25, .tmp 27], argTypes := #[25, 41] }, 73, _, _, none⟩ ⟨some 7, .alloc 43, 0, _, _, none⟩ (by kernel_rfl) rfl rfl (fun K hK => ?_) (fun K hK => ?_)
    focus
      go_simp
      (go_at_call 35; (refine (HDC.out _ (bch HBA.out hS.2.2)).mono ?_); rintro r w4 hd; obtain ⟨p4, n4, c4, rfl, ho, hb⟩ := HDF.out _ _ _ hd; have hN := HS3.out _ (bch hS.2.2 hb); (try (have q := Lib.hid (HG.out.keep hb); clear HG; have HG := q; clear q)); have HO := Lib.hid (own_mono ho (show w.heap.size ≤ _ from Nat.le_trans HBA.out.size hS.2.2.size)); clear hb ho hd)
      refine hK.out _ _ ?_ (fun hS1 => ?_)
      · (first | exact hN | exact hS)
      clear hK K hS; have hS := hS1; clear hS1
      (try simp only [rgp])
      refine rgw 11 ⟨some 17, .move (.tmp 28), 73, _, _, none⟩ hS ?_
      refine rgw 12 ⟨some 29, .extract (.tmp 17) 0, 43, _, _, none⟩ hS ?_
      refine rgw 13 ⟨some 30, .extract (.tmp 17) 1, 3, _, _, none⟩ hS ?_
      refine rgw 14 ⟨some 31, .extract (.tmp 17) 2, 44, _, _, none⟩ hS ?_
      refine rg_one 15 ⟨some 7, .alloc 43, 0, _, _, none⟩ (by kernel_rfl) rfl (fun K hK => ?_)
      rw [if_pos (by rfl)]; refine wp_new_fr rfl ?_; intro g w5 HG hgl hb; have hN := HS3.out _ (bch hS.2.2 hb.out); (try (have q := Lib.hid (own_keep HO.out hb.out); clear HO; have HO := q; clear q)); have HGL := Lib.hid (Nat.le_trans hS.2.2.size hgl.out); clear hgl hb
      refine hK.out _ _ ?_ (fun hS1 => ?_)
      · (first | exact hN | exact hS)
      clear hK K hS; have hS := hS1; clear hS1
      (try simp only [rgp])
    rotate_left
    focus
      rw [if_pos (by rfl)]; refine wp_new_fr rfl ?_; intro g w5 HG hgl hb; have hN := HS3.out _ (bch hS.2.2 hb.out); (try (have q := Lib.hid (own_keep HO.out hb.out); clear HO; have HO := q; clear q)); have HGL := Lib.hid (Nat.le_trans hS.2.2.size hgl.out); clear hgl hb
      refine hK.out _ _ ?_ (fun hS1 => ?_)
      · (first | exact hN | exact hS)
      clear hK K hS; have hS := hS1; clear hS1
      (try simp only [rgp])
      refine rg_one 10 ⟨some 28, .call { callee := .value (.func 35), args := #[.tmp 25, .tmp 27], argTypes := #[25, 41] }, 73, _, _, none⟩ (by kernel_rfl) rfl (fun K hK => ?_)
      go_simp
      (go_at_call 35; (refine (HDC.out _ (bch HBA.out hS.2.2)).mono ?_); rintro r w4 hd; obtain ⟨p4, n4, c4, rfl, ho, hb⟩ := HDF.out _ _ _ hd; have hN := HS3.out _ (bch hS.2.2 hb); (try (have q := Lib.hid (HG.out.keep hb); clear HG; have HG := q; clear q)); have HO := Lib.hid (own_mono ho (show w.heap.size ≤ _ from Nat.le_trans HBA.out.size hS.2.2.size)); clear hb ho hd)
      refine hK.out _ _ ?_ (fun hS1 => ?_)
      · (first | exact hN | exact hS)
      clear hK K hS; have hS := hS1; clear hS1
      (try simp only [rgp])
      refine rgw 11 ⟨some 17, .move (.tmp 28), 73, _, _, none⟩ hS ?_
      refine rgw 12 ⟨some 29, .extract (.tmp 17) 0, 43, _, _, none⟩ hS ?_
      refine rgw 13 ⟨some 30, .extract (.tmp 17) 1, 3, _, _, none⟩ hS ?_
      refine rgw 14 ⟨some 31, .extract (.tmp 17) 2, 44, _, _, none⟩ hS ?_
    rotate_left
  rotate_left 2
  focus
    rw [if_pos (by rfl)]; refine wp_new_fr rfl ?_; intro g w5 HG hgl hb; have hN := HS3.out _ (bch hS.2.2 hb.out); (try (have q := Lib.hid (own_keep HO.out hb.out); clear HO; have HO := q; clear q)); have HGL := Lib.hid (Nat.le_trans hS.2.2.size hgl.out); clear hgl hb
    refine hK.out _ _ ?_ (fun hS1 => ?_)
    · (first | exact hN | exact hS)
    clear hK K hS; have hS := hS1; clear hS1
    (try simp only [rgp])
    refine rg_one 5 ⟨some 23, .call { callee := .value (.func 36), args := #[.tmp 22], argTypes := #[3] }, 3, _, _, none⟩ (by kernel_rfl) rfl (fun K hK => ?_)
    go_simp
    (go_at_call 36; (with_reducible refine (HLF.out _).mono ?_); rintro r w2 ⟨rfl, hb⟩; have hN := HS3.out _ (bch hS.2.2 hb); (try (have q := Lib.hid (HG.out.keep hb); clear HG; have HG := q; clear q)); clear hb)
    refine hK.out _ _ ?_ (fun hS1 => ?_)
    · (first | exact hN | exact hS)
    clear hK K hS; have hS := hS1; clear hS1
    (try simp only [rgp])
    refine rgw 6 ⟨some 24, .binOp .add 3 (.tmp 21) (.tmp 23) 3, 3, _, _, none⟩ hS ?_ (v := .int .i64 (t : Int)) (hy := by intro w hSw; (try dsimp only at hSw); have z := HWT.out; go_simp; (try exact z))
    refine rgw 7 ⟨some 25, .slice 25 (.tmp 19) (some (.tmp 20)) (some (.tmp 24)) none, 25, _, _, none⟩ hS ?_ (v := .slice q l qc) (hy := by intro w hSw; (try dsimp only at hSw); exact (exec_cut_lh (.tmp 19) (.tmp 20) (.tmp 24) rfl ba 832 bc a l rfl rfl (by rw [HTL.out]; rfl) (by rw [HTL.out]; exact HBC.out)).trans (by rw [HSL.out]))
    refine rg_one 10 ⟨some 28, .call { callee := .value (.func 35), args := #[.tmp 25, .tmp 27], argTypes := #[25, 41] }, 73, _, _, none⟩ (by kernel_rfl) rfl (fun K hK => ?_)
    go_simp
    (go_at_call 35; (refine (HDC.out _ (bch HBA.out hS.2.2)).mono ?_); rintro r w4 hd; obtain ⟨p4, n4, c4, rfl, ho, hb⟩ := HDF.out _ _ _ hd; have hN := HS3.out _ (bch hS.2.2 hb); (try (have q := Lib.hid (HG.out.keep hb); clear HG; have HG := q; clear q)); have HO := Lib.hid (own_mono ho (show w.heap.size ≤ _ from Nat.le_trans HBA.out.size hS.2.2.size)); clear hb ho hd)
    refine hK.out _ _ ?_ (fun hS1 => ?_)
    · (first | exact hN | exact hS)
    clear hK K hS; have hS := hS1; clear hS1
    (try simp only [rgp])
    refine rgw 11 ⟨some 17, .move (.tmp 28), 73, _, _, none⟩ hS ?_
    refine rgw 12 ⟨some 29, .extract (.tmp 17) 0, 43, _, _, none⟩ hS ?_
    refine rgw 13 ⟨some 30, .extract (.tmp 17) 1, 3, _, _, none⟩ hS ?_
    refine rgw 14 ⟨some 31, .extract (.tmp 17) 2, 44, _, _, none⟩ hS ?_
  rotate_left
  all_goals
    refine rg_one 16 ⟨none, .store 43 (.tmp 7) (.tmp 29), 0, _, _, none⟩ (by kernel_rfl) rfl (fun K hK => ?_)
    rw [if_pos (by rfl)]; refine wp_put_fr (.tmp 7) (.tmp 29) rfl g HG.out fk fe p4 n4 c4 rfl rfl ?_; intro w6 HF6 HG6; have HO6 := Lib.hid (own_over HO.out HG6.out (fun q hq e => HG.out.ne_own HO.out q hq (Option.some.inj e))); have hN := HS3.out _ (below_over hS.2.2 HG6.out HGL.out hS.2.2.size); clear HG HO HG6
    refine hK.out _ _ ?_ (fun hS1 => ?_)
    · (first | exact hN | exact hS)
    clear hK K hS; have hS := hS1; clear hS1
    (try simp only [Act.put])
    refine rgw 17 ⟨some 8, .assign (.tmp 30), 3, _, _, none⟩ hS ?_
    refine rgw 18 ⟨some 9, .assign (.tmp 31), 44, _, _, none⟩ hS ?_
    refine wpAnyH_done (by kernel_rfl) ?_ _
    have HB6 := Lib.hid hS.2.2
    clear hS
    (try clear hN)
    have HGN := Lib.hid (show wb.heap.size ≠ g from by have := HGL.out; have := HWB.out.1; omega)
    have HA7 := Lib.hid (HA.out.keep (bch HB6.out (Below.refl _ w6).drew))
    have HO7 := Lib.hid (own_keep HO6.out (Below.refl _ w6).drew)
    have HK7 : Hid (∀ w', Below wa.heap.size wa w' → w'.cell? ⟨w.heap.size, 2, none⟩ = some kv) := Lib.hid fun w' h => cell_of_row w' _ 2 _ _ _ ((h.block _ (Array.getElem?_eq_some_iff.1 HK0.out).1).trans HK0.out)
    have HST : Hid (Below wa.heap.size wa w6.drew ∧ FO w6.drew g fk fe (.slice p4 n4 c4)) := Lib.hid ⟨HB6.out.drew, HF6.out.keep (Below.refl _ w6).drew⟩
    rcases hx with ⟨rfl, hm1, hm2, hyes⟩ | ⟨hx0, hno, -⟩
    · obtain ⟨y, hy⟩ : ∃ y, covAt K (a : Int) ((a + m : Nat) : Int) = y := ⟨_, rfl⟩
      have HY := Lib.hid (hyes y hy)
      rw [← HMI.out] at hy
      rw [hy] at HCV
      clear hyes hy
      go_wp2_with fail
      refine wp_region_held_drew (S := (fun w' => Below w.heap.size w w' ∧ w'.cell? ⟨w.heap.size, 2, none⟩ = some kv ∧ FO w' g fk fe (.slice p4 n4 c4))) (by kernel_rfl) ⟨bch HBA.out HST.out.1, HK7.out _ HST.out.1, HST.out.2⟩ (fun hS => ?_)
      refine rgw 0 ⟨some 32, .load 43 (.tmp 7), 43, _, _, none⟩ hS ?_ (hy := by intro w hSw; (try dsimp only at hSw); refine exec_load_fr (.tmp 7) ?_ ?_ hSw.2.2 <;> rfl)
      refine rgw 1 ⟨some 33, .move (.tmp 1), 3, _, _, none⟩ hS ?_
      refine rgw 2 ⟨some 34, .move (.tmp 8), 3, _, _, none⟩ hS ?_
      refine rgw 3 ⟨some 35, .binOp .add 3 (.tmp 33) (.tmp 34) 3, 3, _, _, none⟩ hS ?_ (v := .int .i64 (t2 : Int)) (hy := by intro w hSw; (try dsimp only at hSw); have z := HW2.out; go_simp; (try exact z))
      refine rgw 4 ⟨some 36, .move (.tmp 9), 44, _, _, none⟩ hS ?_
      refine rgw 5 ⟨some 37, .binOp .eql 44 (.tmp 36) (.const (.int .i64 0)) 44, 4, _, _, none⟩ hS ?_
      refine rgw 6 ⟨some 38, .move (.tmp 37), 4, _, _, none⟩ hS ?_
      refine rgw 7 ⟨some 39, .fieldAddr 65 (.tmp 2) 2, 0, _, _, some (6, true)⟩ hS ?_
      refine rgw 8 ⟨some 40, .load 47 (.tmp 39), 47, _, _, some (6, true)⟩ hS ?_
      refine rgw 9 ⟨some 41, .move (.tmp 1), 3, _, _, some (6, true)⟩ hS ?_
      refine rgw 10 ⟨some 42, .move (.tmp 1), 3, _, _, some (6, true)⟩ hS ?_
      refine rgw 11 ⟨some 43, .move (.tmp 8), 3, _, _, some (6, true)⟩ hS ?_
      refine rgw 12 ⟨some 44, .binOp .add 3 (.tmp 42) (.tmp 43) 3, 3, _, _, some (6, true)⟩ hS ?_ (v := .int .i64 (t2 : Int)) (hy := by intro w hSw; (try dsimp only at hSw); have z := HW2.out; go_simp; (try exact z))
      refine rg_one 13 ⟨some 45, .call { callee := .value (.func 37), args := #[.tmp 40, .tmp 41, .tmp 44], argTypes := #[47, 3, 3] }, 4, _, _, some (6, true)⟩ (by kernel_rfl) rfl (fun K hK => ?_)
      go_simp
      (go_at_call 37; (with_reducible refine (HCV.out _ HST.out.1).mono ?_); rintro r w7 ⟨rfl, hb⟩; have hN := (show Below w.heap.size w w7 ∧ w7.cell? ⟨w.heap.size, 2, none⟩ = some kv ∧ FO w7 g fk fe (.slice p4 n4 c4) from ⟨bch hS.1 hb, cell_keep hb hS.2.1, hS.2.2.keep hb⟩); have HA8 := Lib.hid (HA7.out.keep hb); have HO8 := Lib.hid (own_keep HO7.out hb); clear hb)
      refine hK.out _ _ ?_ (fun hS1 => ?_)
      · (first | exact hN | exact hS)
      clear hK K hS; have hS := hS1; clear hS1
      (try simp only [rgp])
      refine rgw 14 ⟨some 46, .pick (.tmp 38) (.tmp 45) (.const (.bool false)), 4, _, _, none⟩ hS ?_
      refine rg_one 15 ⟨none, .store 43 (.tmp 4) (.tmp 32), 0, _, _, none⟩ (by kernel_rfl) rfl (fun K hK => ?_)
      rw [if_pos (by rfl)]; refine wp_put_fr (.tmp 4) (.tmp 32) rfl wb.heap.size HA8.out fk fe p4 n4 c4 rfl rfl ?_; intro w8 HF8 HG8; have hN := (show Below w.heap.size w w8 ∧ w8.cell? ⟨w.heap.size, 2, none⟩ = some kv ∧ FO w8 g fk fe (.slice p4 n4 c4) from ⟨below_over hS.1 HG8.out (Nat.le_of_lt HWB.out.2) hS.1.size, rd_cell_over hS.2.1 HG8.out (Nat.ne_of_lt HWB.out.2), hS.2.2.over HG8.out (Ne.symm HGN.out)⟩); have HO9 := Lib.hid (own_over HO8.out HG8.out (fun q hq e => HA8.out.ne_own HO8.out q hq (Option.some.inj e)))
      refine hK.out _ _ ?_ (fun hS1 => ?_)
      · (first | exact hN | exact hS)
      clear hK K hS; have hS := hS1; clear hS1
      (try simp only [Act.put])
      refine rgw 16 ⟨some 5, .assign (.tmp 35), 3, _, _, none⟩ hS ?_
      refine rgw 17 ⟨some 6, .assign (.tmp 46), 4, _, _, none⟩ hS ?_
      refine wpAnyH_done (by kernel_rfl) ?_ _
      have HB8 := Lib.hid hS.1
      clear hS
      go_wp2
      refine bodyPost_ret_by (results_row_tmp2 rfl _ _ wb.heap.size _ rfl HF8.out.load) rfl ?_
      have hn4 : fd.length = n4 := (il_length .u8 fd).symm.trans (HO9.out.1.trans (Nat.mul_one _))
      subst hn4
      have hyy := HY.out
      cases y with
      | true =>
        rw [if_pos rfl] at hyy
        refine ⟨HB8.out, .inr ⟨by rw [hyy]; show m ≠ 0; omega, p4, c4, by rw [hyy]; show _ = Ending.returned (.tuple #[_, .int .i64 ((a : Int) + (m : Int)), _]); rw [ht2I]; rfl, ?_⟩⟩
        rw [hyy]; exact HO9.out
      | false =>
        rw [if_neg (by decide)] at hyy
        exact ⟨HB8.out, .inl ⟨by rw [hyy], _, _, _, _, _, _, rfl⟩⟩
    · have hx1 : (x == 0) = false := by simpa using hx0
      have HNO := Lib.hid hno
      clear hno
      go_wp2_with fail
      refine wp_region_held_drew (S := (fun w' => Below w.heap.size w w' ∧ FO w' g fk fe (.slice p4 n4 c4))) (by kernel_rfl) ⟨bch HBA.out HST.out.1, HST.out.2⟩ (fun hS => ?_)
      refine rgw 0 ⟨some 32, .load 43 (.tmp 7), 43, _, _, none⟩ hS ?_ (hy := by intro w hSw; (try dsimp only at hSw); refine exec_load_fr (.tmp 7) ?_ ?_ hSw.2 <;> rfl)
      refine rgw 1 ⟨some 33, .move (.tmp 1), 3, _, _, none⟩ hS ?_
      refine rgw 2 ⟨some 34, .move (.tmp 8), 3, _, _, none⟩ hS ?_
      refine rgw 3 ⟨some 35, .binOp .add 3 (.tmp 33) (.tmp 34) 3, 3, _, _, none⟩ hS ?_ (v := .int .i64 (t2 : Int)) (hy := by intro w hSw; (try dsimp only at hSw); have z := HW2.out; go_simp; (try exact z))
      refine rgw 4 ⟨some 36, .move (.tmp 9), 44, _, _, none⟩ hS ?_
      refine rgw 5 ⟨some 37, .binOp .eql 44 (.tmp 36) (.const (.int .i64 0)) 44, 4, _, _, none⟩ hS ?_
      refine rgw 6 ⟨some 38, .move (.tmp 37), 4, _, _, none⟩ hS ?_
      refine rgt 7 (oi := ⟨some 39, .fieldAddr 65 (.tmp 2) 2, 0, _, _, some (6, true)⟩) (v := undef) rfl (.inr ⟨by rfl, rfl⟩) hS ?_
      (try simp only [rgp])
      refine rgt 8 (oi := ⟨some 40, .load 47 (.tmp 39), 47, _, _, some (6, true)⟩) (v := undef) rfl (.inr ⟨by rfl, rfl⟩) hS ?_
      (try simp only [rgp])
      refine rgt 9 (oi := ⟨some 41, .move (.tmp 1), 3, _, _, some (6, true)⟩) (v := undef) rfl (.inr ⟨by rfl, rfl⟩) hS ?_
      (try simp only [rgp])
      refine rgt 10 (oi := ⟨some 42, .move (.tmp 1), 3, _, _, some (6, true)⟩) (v := undef) rfl (.inr ⟨by rfl, rfl⟩) hS ?_
      (try simp only [rgp])
      refine rgt 11 (oi := ⟨some 43, .move (.tmp 8), 3, _, _, some (6, true)⟩) (v := undef) rfl (.inr ⟨by rfl, rfl⟩) hS ?_
      (try simp only [rgp])
      refine rgt 12 (oi := ⟨some 44, .binOp .add 3 (.tmp 42) (.tmp 43) 3, 3, _, _, some (6, true)⟩) (v := undef) rfl (.inr ⟨by rfl, rfl⟩) hS ?_
      (try simp only [rgp])
      refine rgt 13 (oi := ⟨some 45, .call { callee := .value (.func 37), args := #[.tmp 40, .tmp 41, .tmp 44], argTypes := #[47, 3, 3] }, 4, _, _, some (6, true)⟩) (v := undef) rfl (.inr ⟨by rfl, rfl⟩) hS ?_
      (try simp only [rgp])
      refine rgw 14 ⟨some 46, .pick (.tmp 38) (.tmp 45) (.const (.bool false)), 4, _, _, none⟩ hS ?_
      refine rg_one 15 ⟨none, .store 43 (.tmp 4) (.tmp 32), 0, _, _, none⟩ (by kernel_rfl) rfl (fun K hK => ?_)
      rw [if_pos (by rfl)]; refine wp_put_fr (.tmp 4) (.tmp 32) rfl wb.heap.size HA7.out fk fe p4 n4 c4 rfl rfl ?_; intro w8 HF8 HG8; have hN := (show Below w.heap.size w w8 ∧ FO w8 g fk fe (.slice p4 n4 c4) from ⟨below_over hS.1 HG8.out (Nat.le_of_lt HWB.out.2) hS.1.size, hS.2.over HG8.out (Ne.symm HGN.out)⟩)
      refine hK.out _ _ ?_ (fun hS1 => ?_)
      · (first | exact hN | exact hS)
      clear hK K hS; have hS := hS1; clear hS1
      (try simp only [Act.put])
      refine rgw 16 ⟨some 5, .assign (.tmp 35), 3, _, _, none⟩ hS ?_
      refine rgw 17 ⟨some 6, .assign (.tmp 46), 4, _, _, none⟩ hS ?_
      refine wpAnyH_done (by kernel_rfl) ?_ _
      have HB8 := Lib.hid hS.1
      clear hS
      go_wp2
      refine bodyPost_ret_by (results_row_tmp2 rfl _ _ wb.heap.size _ rfl HF8.out.load) rfl ?_
      exact ⟨HB8.out, .inl ⟨by rw [HNO.out], _, _, _, _, _, _, rfl⟩⟩
end Go.Proofs.YtnmplnemnfonfaaDoor
namespace Go.Proofs.YtnmplnemnfonfaaDoor
open Go.RowKit
theorem wpl_app_sec {w : World} {ops : Array Oper} {rest : List Oper} {o : Oper} {a : Act} {Q : Exit → Act → World → Prop} (hgd : o.guard = none) (s x : Operand)
    (ho : o.op = .call { callee := .builtin .append, args := #[s, x], argTypes := #[23, 23] })
    (base : Nat) (v : Value) (n : Nat) (fs : List Int) (hs : a.eval s = v) (hown : Hid (w.ownsRow base 71 64 v n (il .u8 fs)))
    (g : Nat) (ss : List Int) (hx : a.eval x = .slice (some ⟨g, 0, none⟩) 1 1) (hblk : Blk w g ss) (hn : n ≤ 1000000000000)
    (B : Nat) (W : World) (hb : Hid (Below B W w)) (hB : B ≤ base) (hbase : base ≤ w.heap.size)
    (h : ∀ v' w', Hid (w'.ownsRow base 71 64 v' (n + 1) (il .u8 (fs ++ ss))) → Hid (Below B W w') → wpList Tryd.prog ops Q rest (a.put o.dst v') w') : wpList Tryd.prog ops Q (o :: rest) a w := by
  obtain ⟨i, hi, hz0, hz1, hz2⟩ := info_parts sec_parts
  refine wpList_append_own_wide w hgd s x 23 ho base 71 i (.agg (sv z64)) 64 64 Tryd.underlying23 hi hz0 hz1 hz2 rfl (by omega) v n (il .u8 fs) hs hown.out ⟨g, 0, none⟩ 1 1 (il .u8 ss) hx (by rw [il_length, hblk.2]) ?_ (il_one _ _) (by unfold maxLen; omega) (by omega) hbase ?_
  · intro j u hj
    have hjl : j < ss.length := by have := (List.getElem?_eq_some_iff.1 hj).1; rwa [il_length] at this
    rw [il_get _ _ _ hjl] at hj
    have := hblk.cell j (by rw [← hblk.2]; exact hjl)
    by_cases h0 : j = 0
    · subst h0; rw [← hj]; simpa [Addr.add] using this
    · rw [← hj]; simpa [Addr.add, h0] using this
  · intro v' w' h1 h2 _
    exact h v' w' (by rw [il_append]; exact h1) (hb.out.grown h2 (by omega) (fun q hq => by have := (hown.out.lt q hq).1; omega))
end Go.Proofs.YtnmplnemnfonfaaDoor
namespace Go.Proofs.YtnmplnemnfonfaaDoor
open Go.RowKit
def RV (w : World) (v : Value) (n : Nat) (es : List Value) : Prop :=
  ∃ a cap, v = .slice a n cap ∧ es.length = n ∧ n ≤ cap ∧ cap ≤ 9223372036854775807 ∧ (a = none → cap = 0) ∧
    (0 < n → ∃ b off, a = some ⟨b, off, none⟩ ∧ ∀ j, j < n → w.cell? ⟨b, off + j, none⟩ = es[j]?)
theorem RV.length {w : World} {v : Value} {n : Nat} {es : List Value} (h : RV w v n es) : es.length = n := h.choose_spec.choose_spec.2.1
theorem RV.le {w : World} {v : Value} {n : Nat} {es : List Value} (h : RV w v n es) : n ≤ 9223372036854775807 := by
  obtain ⟨_, _, _, _, h1, h2, _⟩ := h; omega
theorem RV.keep {w w' : World} (hb : Below w.heap.size w w') {v : Value} {n : Nat} {es : List Value} (h : RV w v n es) : RV w' v n es := by
  obtain ⟨a, cap, rfl, h1, h2, h3, h4, hc⟩ := h
  refine ⟨a, cap, rfl, h1, h2, h3, h4, fun h0 => ?_⟩
  obtain ⟨b, off, rfl, hcell⟩ := hc h0
  refine ⟨b, off, rfl, fun j hj => ?_⟩
  have hj2 : es[j]? = some es[j] := List.getElem?_eq_getElem (by omega)
  have := hcell j hj
  rw [hj2] at this ⊢
  exact cell_keep hb this
theorem RV.nil (w : World) : RV w (.slice none 0 0) 0 [] := ⟨none, 0, rfl, rfl, Nat.le_refl _, by omega, fun _ => rfl, fun h => absurd h (by omega)⟩
theorem RV.own {w : World} {base : Nat} {e : TypeId} {v : Value} {n : Nat} {es : List Value} (h : w.ownsRow base e 1 v n es) : RV w v n es := by
  have hl : es.length = n := by have := h.1; omega
  rcases h.2 with ⟨rfl, rfl⟩ | ⟨g, cap, cur, rfl, _, _, hnc, hcm, _⟩
  · exact ⟨none, 0, rfl, hl, Nat.le_refl _, by omega, fun _ => rfl, fun h => absurd h (by omega)⟩
  · refine ⟨_, cap, rfl, hl, hnc, by unfold maxLen at hcm; omega, fun h => by simp at h, fun _ => ⟨g, 0, rfl, fun j hj => ?_⟩⟩
    rw [Nat.zero_add, h.cellAt j (by omega)]
theorem RV.at_ {w : World} {a : Option Addr} {n cap : Nat} {es : List Value} (h : RV w (.slice a n cap) n es) (h0 : 0 < n) :
    ∃ b off, a = some ⟨b, off, none⟩ ∧ ∀ j, j < n → w.cell? ⟨b, off + j, none⟩ = es[j]? := by
  obtain ⟨a', cap', e, _, _, _, _, hc⟩ := h
  simp only [Value.slice.injEq, true_and] at e
  obtain ⟨rfl, rfl⟩ := e
  exact hc h0
def RL (k : IntKind) (w : World) (v : Value) (n : Nat) (ls : List (List Int)) : Prop :=
  ∃ es, RV w v n es ∧ ls.length = n ∧ ∀ (j : Nat) (e : Value) (l : List Int), es[j]? = some e → ls[j]? = some l → RI k w e l.length l
theorem RL.length {k : IntKind} {w : World} {v : Value} {n : Nat} {ls : List (List Int)} (h : RL k w v n ls) : ls.length = n := h.choose_spec.2.1
theorem RL.le {k : IntKind} {w : World} {v : Value} {n : Nat} {ls : List (List Int)} (h : RL k w v n ls) : n ≤ 9223372036854775807 := h.choose_spec.1.le
theorem RL.keep {k : IntKind} {w w' : World} (hb : Below w.heap.size w w') {v : Value} {n : Nat} {ls : List (List Int)} (h : RL k w v n ls) : RL k w' v n ls := by
  obtain ⟨es, h1, h2, h3⟩ := h
  exact ⟨es, h1.keep hb, h2, fun j e l he hl => (h3 j e l he hl).keep hb⟩
theorem RL.nil (k : IntKind) (w : World) : RL k w (.slice none 0 0) 0 [] := ⟨[], RV.nil w, rfl, fun j e l he => by simp at he⟩
theorem RL.form {k : IntKind} {w : World} {v : Value} {n : Nat} {ls : List (List Int)} (h : RL k w v n ls) : ∃ a cap, v = .slice a n cap ∧ n ≤ cap ∧ cap ≤ 9223372036854775807 ∧ (a = none → cap = 0) := by
  obtain ⟨_, ⟨a, cap, h1, _, h2, h3, h4, _⟩, _⟩ := h; exact ⟨a, cap, h1, h2, h3, h4⟩
theorem RL.at_ {k : IntKind} {w : World} {a : Option Addr} {n cap : Nat} {ls : List (List Int)} (h : RL k w (.slice a n cap) n ls) (h0 : 0 < n) :
    ∃ b off, a = some ⟨b, off, none⟩ ∧ ∀ j, j < n → ∃ x c, w.cell? ⟨b, off + j, none⟩ = some (.slice x (ls.getD j []).length c) ∧ RI k w (.slice x (ls.getD j []).length c) (ls.getD j []).length (ls.getD j []) := by
  obtain ⟨es, h1, h2, h3⟩ := h
  obtain ⟨b, off, rfl, hc⟩ := h1.at_ h0
  refine ⟨b, off, rfl, fun j hj => ?_⟩
  have he : es[j]? = some (es[j]'(by rw [h1.length]; exact hj)) := List.getElem?_eq_getElem _
  have hl : ls[j]? = some (ls.getD j []) := by simp [List.getD, h2, hj]
  have hr := h3 j _ _ he hl
  obtain ⟨x, c, hx, _⟩ := id hr
  refine ⟨x, c, ?_, ?_⟩
  · rw [hc j hj, he, hx]
  · rw [← hx]; exact hr
def Apart (w : World) (base : Nat) (t : TypeId) (g : Nat) : Prop := g < base ∨ ∃ c t' fr, w.heap[g]? = some (.cells c t' fr) ∧ t' ≠ t
theorem Apart.ne {w : World} {base : Nat} {t : TypeId} {g : Nat} (h : Apart w base t g) {v : Value} {n : Nat} {es : List Value} (ho : w.ownsRow base t 1 v n es) : some g ≠ v.ownBlock := by
  rcases ho.2 with ⟨rfl, _⟩ | ⟨q, cap, cur, rfl, hq, hcur, _⟩
  · simp [Value.ownBlock]
  · simp only [Value.ownBlock]
    intro e
    obtain rfl := Option.some.inj e
    rcases h with h | ⟨c, t', fr, hc, ht⟩
    · exact Nat.lt_irrefl _ (Nat.lt_of_lt_of_le h hq)
    · rw [hcur] at hc
      simp only [Option.some.injEq, Obj.cells.injEq] at hc
      exact ht hc.2.1.symm
theorem RI.over {k : IntKind} {w w' : World} {v : Value} {n : Nat} {zs : List Int} (h : RI k w v n zs) (row : Option Nat) (hg : w.grownBy w' row) (hne : 0 < n → ∀ g, v.ownBlock = some g → some g ≠ row) : RI k w' v n zs := by
  obtain ⟨a, cap, rfl, h1, h2, h3, h4, hc⟩ := h
  refine ⟨a, cap, rfl, h1, h2, h3, h4, fun h0 => ?_⟩
  obtain ⟨b, off, rfl, hcell⟩ := hc h0
  exact ⟨b, off, rfl, fun j hj => hg.cell (hcell j hj) (hne h0 b rfl)⟩
def UL (k : IntKind) (w : World) (base : Nat) (t : TypeId) (v : Value) (n : Nat) (ls : List (List Int)) : Prop :=
  ∃ es, w.ownsRow base t 1 v n es ∧ ls.length = n ∧ ∀ (j : Nat) (e : Value) (l : List Int), es[j]? = some e → ls[j]? = some l → RI k w e l.length l ∧ (0 < l.length → ∀ g, e.ownBlock = some g → Apart w base t g)
theorem UL.rl {k : IntKind} {w : World} {base : Nat} {t : TypeId} {v : Value} {n : Nat} {ls : List (List Int)} (h : UL k w base t v n ls) : RL k w v n ls := by
  obtain ⟨es, h1, h2, h3⟩ := h
  exact ⟨es, RV.own h1, h2, fun j e l he hl => (h3 j e l he hl).1⟩
theorem UL.none (k : IntKind) (w : World) (base : Nat) (t : TypeId) : UL k w base t (.slice Option.none 0 0) 0 [] := ⟨[], World.ownsRow_nil _ _ _ _, rfl, fun j e l he => by simp at he⟩
theorem Apart.keep {w w' : World} {base : Nat} {t : TypeId} {g : Nat} (h : Apart w base t g) (hb : Below w.heap.size w w') : Apart w' base t g := by
  rcases h with h | ⟨c, t', fr, hc, ht⟩
  · exact .inl h
  · exact .inr ⟨c, t', fr, by rw [hb.block g (Array.getElem?_eq_some_iff.1 hc).1]; exact hc, ht⟩
theorem UL.keep {k : IntKind} {w w' : World} {base : Nat} {t : TypeId} {v : Value} {n : Nat} {ls : List (List Int)} (h : UL k w base t v n ls) (hb : Below w.heap.size w w') : UL k w' base t v n ls := by
  obtain ⟨es, h1, h2, h3⟩ := h
  exact ⟨es, own_keep h1 hb, h2, fun j e l he hl => ⟨(h3 j e l he hl).1.keep hb, fun h0 g hg => ((h3 j e l he hl).2 h0 g hg).keep hb⟩⟩
theorem UL.append {k : IntKind} {w w' : World} {base : Nat} {t : TypeId} {v v' : Value} {n : Nat} {es : List Value} {ls : List (List Int)} (h1 : w.ownsRow base t 1 v n es) (h2 : ls.length = n)
    (h3 : ∀ (j : Nat) (e : Value) (l : List Int), es[j]? = some e → ls[j]? = some l → RI k w e l.length l ∧ (0 < l.length → ∀ g, e.ownBlock = some g → Apart w base t g))
    {y : Value} {l : List Int} (hy : RI k w y l.length l) (hya : 0 < l.length → ∀ g, y.ownBlock = some g → Apart w base t g)
    (ho : w'.ownsRow base t 1 v' (n + 1) (es ++ [y])) (hg : w.grownBy w' v.ownBlock) : UL k w' base t v' (n + 1) (ls ++ [l]) := by
  have hel : es.length = n := by have := h1.1; omega
  have hap : ∀ g, Apart w base t g → Apart w' base t g := fun g ha => by
    rcases id ha with h | ⟨c, t', fr, hc, ht⟩
    · exact .inl h
    · exact .inr ⟨c, t', fr, by rw [hg.block g (Array.getElem?_eq_some_iff.1 hc).1 (ha.ne h1)]; exact hc, ht⟩
  refine ⟨_, ho, by simp [h2], fun j e m he hm => ?_⟩
  by_cases hj : j < n
  · rw [List.getElem?_append_left (by omega)] at he hm
    obtain ⟨ha, hb⟩ := h3 j e m he hm
    exact ⟨ha.over _ hg fun h0 g hgg => (hb h0 g hgg).ne h1, fun h0 g hgg => hap g (hb h0 g hgg)⟩
  · rw [List.getElem?_append_right (by omega)] at he hm
    rw [hel] at he; rw [h2] at hm
    cases hk : j - n with
    | zero =>
      rw [hk] at he hm
      simp at he hm
      subst he hm
      exact ⟨hy.over _ hg fun h0 g hgg => (hya h0 g hgg).ne h1, fun h0 g hgg => hap g (hya h0 g hgg)⟩
    | succ q => rw [hk] at he; simp at he
section
variable {P : Program}
theorem append_where (w : World) (base : Nat) (t ty e : TypeId) (i : TypeInfo) (z : Value) (size bytes : Nat) (ht : P.underlying t = some (.slice e)) (hi : P.info? e = some i) (hz : i.zero = some z)
    (hsize : i.size = size) (hby : i.bytes = bytes) (v : Value) (n : Nat) (xs : List Value) (hown : w.ownsRow base e size v n xs)
    (a : Addr) (m c : Nat) (news : List Value) (hl : news.length = m * size) (hnews : ∀ j u, news[j]? = some u → w.cell? (a.add j) = some u) (h1 : ∀ u ∈ news, u.oneCell' = true)
    (h63 : n + m ≤ maxLen) (hbytes : ((n + m) + (n + m) / 4 + 192) * bytes ≤ 281474976710656) {v' : Value} {w' : World} (hrun : (Builtin.append_ #[t, t] ty #[v, .slice (some a) m c]).run P w = .ok v' w') :
    v'.ownBlock = v.ownBlock ∨ v'.ownBlock = some w.heap.size := by
  subst hsize hby
  have hsmall : n + m ≤ 9223372036854775807 := by simp only [maxLen] at h63; omega
  rcases hown.2 with ⟨rfl, rfl⟩ | ⟨g, cap, cur, rfl, hbg, hg, hnc, hcm, hcs, htake⟩
  · by_cases hm : m = 0
    · subst hm
      have hn : news = [] := List.eq_nil_of_length_eq_zero (by simpa using hl)
      subst hn
      have : (Builtin.append_ #[t, t] ty #[.slice none 0 0, .slice (some a) 0 c]).run P w = .ok (.slice none 0 0) w := by
        simp [Builtin.append_, run_underlying ht, sizeOf, typeInfo, hi, Builtin.lenOf, Builtin.firstCells, loadCells, loadCellsFrom]
      rw [this] at hrun
      obtain ⟨rfl, _⟩ : Value.slice none 0 0 = v' ∧ w = w' := by simpa using hrun
      exact .inl rfl
    · have hr := run_append_nil (P := P) w t ty e i z ht hi hz a m c news hl hnews (by omega) (by omega) (by have hb := hbytes; simp only [Nat.zero_add] at hb; exact Nat.le_trans (Nat.mul_le_mul_right _ (by omega)) hb)
      rw [hr] at hrun
      simp only [Result.ok.injEq] at hrun
      exact .inr (by rw [← hrun.1]; rfl)
  · by_cases hroom : n + m ≤ cap
    · have hfit : n * i.size + news.length ≤ cur.size := by rw [hl, hcs, ← Nat.add_mul]; exact Nat.mul_le_mul_right _ hroom
      have hr := run_append_room (P := P) w t ty e i ht hi g n cap cur hg a m c news hl hnews h1 hroom hfit
      rw [hr] at hrun
      simp only [Result.ok.injEq] at hrun
      exact .inl (by rw [← hrun.1]; rfl)
    · have holds : ∀ j u, xs[j]? = some u → w.cell? ((⟨g, 0, none⟩ : Addr).add j) = some u := hown.cells (g := g) rfl
      have hr := run_append_grow (P := P) w t ty e i z ht hi hz ⟨g, 0, none⟩ n cap xs hown.1 holds a m c news hl hnews (by omega) (by omega) (growslice_fits_wide (by omega) hbytes)
      rw [hr] at hrun
      simp only [Result.ok.injEq] at hrun
      exact .inr (by rw [← hrun.1]; rfl)
theorem wp_appn {w : World} {o : Oper} {a : Act} {K : Act → World → Prop} {Q : Exit → Act → World → Prop} (s x : Operand) (t : TypeId) (ho : o.op = .call { callee := .builtin .append, args := #[s, x], argTypes := #[t, t] })
    (e : TypeId) (k : IntKind) (bytes : Nat) (ht : P.underlying t = some (.slice e)) (hinfo : (P.info? e).map (fun i => (i.zero, i.size, i.bytes)) = some (some (.int k 0), 1, bytes))
    (base : Nat) (v : Value) (n : Nat) (xs : List Int) (hs : a.eval s = v) (hown : w.ownsRow base e 1 v n (il k xs))
    (v2 : Value) (m : Nat) (ys : List Int) (hx : a.eval x = v2) (hri : RI k w v2 m ys) (hbytes : ((n + m) + (n + m) / 4 + 192) * bytes ≤ 281474976710656) (h63 : n + m ≤ 9223372036854775807) (hbase : base ≤ w.heap.size)
    (h : ∀ v' w', w'.ownsRow base e 1 v' (n + m) (il k (xs ++ ys)) → w.grownBy w' v.ownBlock → (v'.ownBlock = v.ownBlock ∨ v'.ownBlock = some w.heap.size) → K (a.put o.dst v') w') : o.wp P a w K Q := by
  obtain ⟨i, hi, hz0, hz1, hz2⟩ := info_parts hinfo
  obtain ⟨ad, cap, rfl, hl, hlc, _, hnil, hc⟩ := hri
  cases ad with
  | none =>
    obtain rfl : cap = 0 := hnil rfl
    obtain rfl : m = 0 := by omega
    obtain rfl : ys = [] := List.length_eq_zero_iff.1 hl
    have hrun := run_append_owned_none (P := P) (w := w) base t o.type e i 1 ht hi v n _ hown
    unfold Oper.wp
    simp [execOp, ho, resolve, invoke, builtin, hs, hx, hrun, Result.andThen]
    exact h v w (by rw [List.append_nil]; exact hown) ⟨rfl, rfl, rfl, Nat.le_refl _, fun _ _ _ => rfl⟩ (.inl rfl)
  | some ad =>
    have hnews : ∀ (j : Nat) (u : Value), (il k ys)[j]? = some u → w.cell? (ad.add j) = some u := by
      intro j u hj
      have hjl : j < ys.length := by
        have := (List.getElem?_eq_some_iff.1 hj).1; rwa [il_length] at this
      obtain ⟨b, off, e1, hcell⟩ := hc (by omega)
      obtain rfl := Option.some.inj e1
      rw [il_get k ys j hjl] at hj
      obtain rfl := Option.some.inj hj
      have := hcell j (by omega)
      by_cases h0 : j = 0
      · subst h0; simpa [Addr.add] using this
      · simpa [Addr.add, h0] using this
    have hml : n + m ≤ maxLen := by unfold maxLen; omega
    obtain ⟨v', w', hr, h2, h3, _⟩ := run_append_own_wide (P := P) w base t o.type e i (.int k 0) 1 bytes ht hi hz0 hz1 hz2 rfl (by omega) v n (il k xs) hown ad m cap (il k ys) (by rw [il_length]; omega) hnews (il_one k _) hml hbytes hbase
    have h4 := append_where (P := P) w base t o.type e i (.int k 0) 1 bytes ht hi hz0 hz1 hz2 v n (il k xs) hown ad m cap (il k ys) (by rw [il_length]; omega) hnews (il_one k _) hml hbytes hr
    unfold Oper.wp execOp
    simp only [ho, resolve, invoke, builtin, Sem.run_bind, Sem.run_pure, Result.andThen_ok, List.map_toArray, List.map_cons, List.map_nil, hs, hx, hr]
    exact h v' w' (by rw [il_append]; exact h2) h3 h4
end
section
variable {P : Program} {w : World} {ops : Array Oper} {rest : List Oper} {o : Oper} {a : Act} {Q : Exit → Act → World → Prop}
theorem UL.over {k j : IntKind} {w w' : World} {base : Nat} {t : TypeId} {v y : Value} {n m : Nat} {ls : List (List Int)} {l : List Int} (h : UL k w base t v n ls) (hg : w.grownBy w' v.ownBlock)
    (hr : RI j w y m l) (ha : ∀ g, y.ownBlock = some g → Apart w base t g) : RI j w' y m l ∧ ∀ g, y.ownBlock = some g → Apart w' base t g := by
  obtain ⟨es, h1, _, _⟩ := h
  refine ⟨hr.over _ hg fun _ g hgg => (ha g hgg).ne h1, fun g hgg => ?_⟩
  rcases id (ha g hgg) with h | ⟨c, t', fr, hc, ht⟩
  · exact .inl h
  · exact .inr ⟨c, t', fr, by rw [hg.block g (Array.getElem?_eq_some_iff.1 hc).1 ((ha g hgg).ne h1)]; exact hc, ht⟩
end
section
open Go.ChangeShapes Go.WideShapes Go.Deep
variable {H : Type} {enc : TypeId × Value → H} {P : Program} {W : World} {t e q : TypeId} {k : IntKind}
end
end Go.Proofs.YtnmplnemnfonfaaDoor
namespace Go.Proofs.YtnmplnemnfonfaaDoor
open Go.RowKit
theorem fold_set (l : List Value) : ∀ (k : Nat) (cs : Array Value) (i : Nat), ((l.zipIdx k).foldl (fun cs (p : Value × Nat) => cs.setIfInBounds (0 + p.2) p.1) cs)[i]? = if k ≤ i ∧ i < k + l.length ∧ i < cs.size then l[i - k]? else cs[i]? := by
  induction l with
  | nil => intro k cs i; simp; intro h1 h2; omega
  | cons x l ih =>
    intro k cs i
    rw [List.zipIdx_cons, List.foldl_cons, ih (k + 1)]
    simp only [Array.size_setIfInBounds, List.length_cons, Nat.zero_add]
    by_cases h1 : k + 1 ≤ i ∧ i < k + 1 + l.length ∧ i < cs.size
    · rw [if_pos h1, if_pos (by omega), show i - k = (i - (k + 1)) + 1 from by omega, List.getElem?_cons_succ]
    · rw [if_neg h1]
      by_cases h2 : i = k
      · subst h2
        by_cases h3 : i < cs.size
        · rw [if_pos (by omega)]; simp [h3]
        · rw [if_neg (by omega)]; simp [h3]
      · rw [if_neg (by omega), Array.getElem?_setIfInBounds_ne (Ne.symm h2)]
theorem fill_sec (z : List Int) (hz : z.length = 64) (cs : Array Value) (hc : cs.size = 64) : Instr.fill (fun i => some (i * 64, 64)) cs [(0, .agg (sv z))] = some (sv z) := by
  have h0 : (Value.agg (sv z)).cells = sv z := rfl
  have hs : (sv z).size = 64 := by rw [sv_size, hz]
  simp only [Instr.fill, h0, hs, Nat.zero_mul, Nat.zero_add, hc]
  rw [if_neg (by simp)]
  refine congrArg some ?_
  refine Array.ext_getElem? fun i => ?_
  rw [← Array.foldl_toList, Array.toList_zipIdx]
  have := fold_set (sv z).toList 0 cs i
  simp only [Nat.zero_add] at this
  rw [this]
  by_cases hi : i < 64
  · rw [if_pos (by simp [hs, hc]; omega)]; simp
  · rw [if_neg (by omega), Array.getElem?_eq_none (by omega), Array.getElem?_eq_none (by omega)]
theorem wpl_build_sec {w : World} {ops : Array Oper} {rest : List Oper} {o : Oper} {a : Act} {Q : Exit → Act → World → Prop} (hgd : o.guard = none) (x : Operand) (ho : o.op = .buildSlice 23 1 #[(0, x)]) (z : List Int) (hz : z.length = 64) (hx : a.eval x = .agg (sv z))
    (h : wpList Tryd.prog ops Q rest (a.put o.dst (.slice (some ⟨w.heap.size, 0, none⟩) 1 1)) (w.alloc (.cells (sv z) 71))) : wpList Tryd.prog ops Q (o :: rest) a w := by
  obtain ⟨i, hi, hz0, hz1, hz2⟩ := info_parts sec_parts
  refine wpList_buildSlice hgd 23 71 1 _ ho (sv z) i (.agg (sv z64)) Tryd.underlying23 hi hz0 (by rw [hz1]; omega) (by rw [hz1]; omega) ?_ h
  rw [hz1]
  simpa [hx] using fill_sec z hz _ (by simp)
theorem FS.blk {w : World} {g : Nat} {z : List Int} (h : Blk w g z) : FS w (.slice (some ⟨g, 0, none⟩) 1 1) 1 z :=
  ⟨_, 1, rfl, by rw [h.2], Nat.le_refl _, by omega, fun h => by simp at h, fun _ => ⟨g, 0, rfl, fun j hj => by rw [Nat.zero_add]; exact h.cell j (by omega)⟩⟩
end Go.Proofs.YtnmplnemnfonfaaDoor
namespace Go.Proofs.YtnmplnemnfonfaaDoor
open Go.RowKit
theorem splice_get {α : Type} (L : List α) (off : Nat) (cs : List α) (hf : off + cs.length ≤ L.length) (q : Nat) :
    (splice L off cs)[q]? = if q < off then L[q]? else if q < off + cs.length then cs[q - off]? else L[q]? := by
  unfold splice
  by_cases h1 : q < off
  · rw [if_pos h1, List.getElem?_append_left (by simp; omega), List.getElem?_take_of_lt h1]
  · rw [if_neg h1, List.getElem?_append_right (by simp; omega), List.length_take, Nat.min_eq_left (by omega)]
    by_cases h2 : q < off + cs.length
    · rw [if_pos h2, List.getElem?_append_left (by omega)]
    · rw [if_neg h2, List.getElem?_append_right (by omega), List.getElem?_drop]
      congr 1; omega
theorem heap_setCells (g : Nat) (t : TypeId) (fr : Nat × Nat) : ∀ (vs : List Value) (o : Nat) (w : World) (cur : List Value), o + vs.length ≤ cur.length → w.heap[g]? = some (.cells cur.toArray t fr) → (w.setCells g o vs).heap[g]? = some (.cells (splice cur o vs).toArray t fr)
  | [], o, w, cur, _, h => by
    have e : splice cur o ([] : List Value) = cur := by simp [splice]
    rw [e]; exact h
  | v :: vs, o, w, cur, hl, h => by
    have h1 : (w.setCell ⟨g, o, none⟩ v).heap[g]? = some (.cells (cur.set o v).toArray t fr) := by
      have := Joins.block_setCell (i := o) h v
      simpa using this
    have h2 := heap_setCells g t fr vs (o + 1) (w.setCell ⟨g, o, none⟩ v) (cur.set o v) (by simp at hl ⊢; omega) h1
    have e : splice (cur.set o v) (o + 1) vs = splice cur o (v :: vs) := by
      refine List.ext_getElem? fun q => ?_
      simp only [List.length_cons] at hl
      rw [splice_get _ _ _ (by simp; omega), splice_get _ _ _ (by simp; omega)]
      by_cases h3 : q < o
      · rw [if_pos (by omega), if_pos h3, List.getElem?_set_ne (by omega)]
      · rw [if_neg h3]
        by_cases h4 : q = o
        · subst h4
          rw [if_pos (by omega), if_pos (by simp), List.getElem?_set_self (by omega), Nat.sub_self]; rfl
        · rw [if_neg (by omega)]
          by_cases h5 : q < o + 1 + vs.length
          · rw [if_pos h5, if_pos (by simp; omega), show q - o = (q - (o + 1)) + 1 from by omega, List.getElem?_cons_succ]
          · rw [if_neg h5, if_neg (by simp; omega), List.getElem?_set_ne (by omega)]
    rw [e] at h2
    exact h2
theorem grown_setCells (g : Nat) : ∀ (vs : List Value) (o : Nat) (w : World), w.grownBy (w.setCells g o vs) (some g)
  | [], _, w => ⟨rfl, rfl, rfl, Nat.le_refl _, fun _ _ _ => rfl⟩
  | v :: vs, o, w => by
    have h := grown_setCells g vs (o + 1) (w.setCell ⟨g, o, none⟩ v)
    have hs : (w.setCell ⟨g, o, none⟩ v).heap.size = w.heap.size := by simp
    exact ⟨h.os, h.tape, h.output, by have := h.size; rw [hs] at this; exact this, fun i hi hne => (h.block i (by rw [hs]; exact hi) hne).trans (Below.heap_setCell w ⟨g, o, none⟩ v i (fun e => hne (by rw [e])))⟩
theorem grown_trans {a b c : World} {row : Option Nat} (h : a.grownBy b row) (k : b.grownBy c row) : a.grownBy c row :=
  ⟨k.os.trans h.os, k.tape.trans h.tape, k.output.trans h.output, Nat.le_trans h.size k.size, fun i hi hne => (k.block i (Nat.lt_of_lt_of_le hi h.size) hne).trans (h.block i hi hne)⟩
theorem grown_refl (w : World) (row : Option Nat) : w.grownBy w row := ⟨rfl, rfl, rfl, Nat.le_refl _, fun _ _ _ => rfl⟩
theorem grown_drew {a b : World} {row : Option Nat} (h : a.grownBy b row) : a.grownBy b.drew row := ⟨h.os, h.tape, h.output, h.size, h.block⟩
def RW (w : World) (g : Nat) (zs : List Int) : Prop := w.heap[g]? = some (.cells (il .u8 zs).toArray 71 (0, 0))
theorem RW.keep {w w' : World} {g : Nat} {zs : List Int} (h : RW w g zs) (hb : Below w.heap.size w w') : RW w' g zs := by
  unfold RW at *; rw [hb.block g (Array.getElem?_eq_some_iff.1 h).1]; exact h
theorem RW.fs {w : World} {g n : Nat} {zs : List Int} (h : RW w g zs) (hz : zs.length = n * 64) (hn : n ≤ 1000000) : FS w (.slice (some ⟨g, 0, none⟩) n n) n zs := by
  refine ⟨_, n, rfl, hz, Nat.le_refl _, by omega, fun h => by simp at h, fun _ => ⟨g, 0, rfl, fun j hj => ?_⟩⟩
  rw [Nat.zero_add, cell_of_row w g j _ _ _ h]
  simpa using il_get .u8 zs j (by omega)
end Go.Proofs.YtnmplnemnfonfaaDoor
namespace Go.Proofs.YtnmplnemnfonfaaDoor
open Go.RowKit
def YB (w : World) (g : Nat) (zs : List Int) : Prop := w.heap[g]? = some (.cells (il .u8 zs).toArray 5 (0, 0))
theorem YB.keep {w w' : World} {g : Nat} {zs : List Int} (h : YB w g zs) (hb : Below w.heap.size w w') : YB w' g zs := by
  unfold YB at *; rw [hb.block g (Array.getElem?_eq_some_iff.1 h).1]; exact h
theorem YB.over {w w' : World} {g g2 : Nat} {zs : List Int} (h : YB w g zs) (hg : w.grownBy w' (some g2)) (hne : g ≠ g2) : YB w' g zs := by
  unfold YB at *; rw [hg.block g (Array.getElem?_eq_some_iff.1 h).1 (fun e => hne (Option.some.inj e))]; exact h
theorem YB.ri {w : World} {g n : Nat} {zs : List Int} (h : YB w g zs) (hz : zs.length = n) (hn : n ≤ 1000000) : RI .u8 w (.slice (some ⟨g, 0, none⟩) n n) n zs := by
  refine ⟨_, n, rfl, hz, Nat.le_refl _, by omega, fun h => by simp at h, fun _ => ⟨g, 0, rfl, fun j hj => ?_⟩⟩
  rw [Nat.zero_add, cell_of_row w g j _ _ _ h]
  simpa using il_get .u8 zs j (by omega)
theorem below_grown {w0 w w' : World} {B g : Nat} (h : Below B w0 w) (hg : w.grownBy w' (some g)) (hB : B ≤ g) (h0 : B ≤ w.heap.size) : Below B w0 w' :=
  h.grown hg h0 (fun q hq => by obtain rfl := Option.some.inj hq; exact hB)
theorem make_bytes_run (k : Nat) (hk : (k : Int) ≤ 1000000000) (w : World) :
    (Instr.makeSlice 25 (.int .i64 (k : Int)) (.int .i64 (k : Int))).run Tryd.prog w = .ok (.slice (some ⟨w.heap.size, 0, none⟩) k k) (w.alloc (.cells (il .u8 (List.replicate k 0)).toArray 5)) := by
  obtain ⟨i, hi, hz0, hz1, hz2⟩ := info_parts Tryd.info_u8
  have h := run_make (P := Tryd.prog) w 25 5 i _ Tryd.underlying25 hi hz0 .i64 .i64 k k (by omega) (by omega) (by rw [hz2]; omega) (by omega)
  simp only [Int.toNat_natCast, hz1, Nat.mul_one] at h
  rw [h]
  have : madeCells (Value.int .u8 0).cells k = (il .u8 (List.replicate k 0)).toArray := by
    rw [show (Value.int .u8 0).cells = #[.int .u8 0] from rfl, ← Array.toList_inj, toList_madeCells_one]
    simp [il]
  rw [this]
theorem setRow_at {w : World} {g : Nat} {C : Array Value} {t : TypeId} (h : w.heap[g]? = some (.cells C t (0, 0))) (C' : Array Value) : (w.setRow g C').heap[g]? = some (.cells C' t (0, 0)) := setRow_heap w g C C' _ _ h
theorem grown_row (w : World) (g : Nat) (cs : Array Value) : w.grownBy (w.setRow g cs) (some g) :=
  ⟨rfl, rfl, rfl, by simp, fun i _ hne => setRow_other w g i cs (fun e => hne (by rw [e]))⟩
theorem wpl_copy_yb {ops : Array Oper} {rest : List Oper} {o : Oper} {a : Act} {w : World} {Q : Exit → Act → World → Prop} (hgd : o.guard = none) (d s : Operand)
    (ho : o.op = .call { callee := .builtin .copy, args := #[d, s], argTypes := #[25, 25] }) (g off dLen dCap : Nat) (cur : List Int) (hblk : YB w g cur)
    (hd : a.eval d = .slice (some ⟨g, off, none⟩) dLen dCap) (v : Value) (n : Nat) (zs : List Int) (hs : a.eval s = v) (hri : RI .u8 w v n zs) (hnd : n ≤ dLen) (hfit : off + dLen ≤ cur.length)
    (h : ∀ w', Hid (YB w' g (splice cur off zs)) → Hid (w.grownBy w' (some g)) → wpList Tryd.prog ops Q rest (a.put o.dst (goInt (n : Int))) w') : wpList Tryd.prog ops Q (o :: rest) a w := by
  obtain ⟨sp, sCap, rfl, hl, _, _, _, hc⟩ := hri
  have hcl : (il .u8 zs).length = n := by rw [il_length, hl]
  have hmin : Nat.min n dLen = n := Nat.min_eq_left hnd
  by_cases h0 : n = 0
  · subst h0
    obtain rfl : zs = [] := List.eq_nil_of_length_eq_zero hl
    refine wpList_copy_nothing hgd d s 25 25 ho 5 Tryd.underlying25 u8_size1 (some ⟨g, off, none⟩) sp dLen dCap 0 sCap hd hs hmin ?_
    exact h w (Lib.hid (by simpa [splice] using hblk)) (grown_refl _ _)
  · obtain ⟨b, of2, rfl, hcell⟩ := hc (by omega)
    refine wpList_copy_own hgd d s 25 25 ho 5 Tryd.underlying25 u8_size1 g off dLen dCap ⟨b, of2, none⟩ n sCap hd hs (il .u8 cur).toArray 5 hblk (il .u8 zs) (by rw [hcl, hmin]) ?_ (by rw [hcl]; simp [il_length]; omega) (il_one _ _) ?_
    · intro j u hj
      have hjl : j < zs.length := by have := (List.getElem?_eq_some_iff.1 hj).1; rwa [il_length] at this
      rw [il_get _ _ _ hjl] at hj
      rw [Addr.add_mid, hcell j (by omega)]; exact hj
    · rw [hcl]
      refine h _ (Lib.hid ?_) (grown_row _ _ _)
      unfold YB
      rw [← il_splice]
      have := setRow_at hblk ((il .u8 cur).toArray.toList.take off ++ (il .u8 zs ++ (il .u8 cur).toArray.toList.drop (off + n))).toArray
      simpa [splice, hcl] using this
end Go.Proofs.YtnmplnemnfonfaaDoor
