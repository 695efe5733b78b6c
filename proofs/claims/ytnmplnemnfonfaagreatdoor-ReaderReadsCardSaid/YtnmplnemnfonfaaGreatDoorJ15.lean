/-
  TEXTS JOINED: JoinMath, ScanMath, RdMath, RdFrag, PlanRow, PlanRowB, PlanPart. Each one's own words stand at its head.
-/
import Derived.Test.YtnmplnemnfonfaaGreatDoorJ11
import Derived.Test.YtnmplnemnfonfaaGreatDoorJ14
import Derived.Test.YtnmplnemnfonfaaGreatDoorJ12
import Derived.Test.YtnmplnemnfonfaaGreatDoorJ13
import Derived.Test.YtnmplnemnfonfaaGreatDoorJ5
import Derived.Test.YtnmplnemnfonfaaGreatDoorJ0
import Derived.Test.YtnmplnemnfonfaaGreatDoorJ1
namespace Go.Proofs.YtnmplnemnfonfaaGreatDoor
def jFit (o : Bool) (k : Int) : Bool := if o = true then decide (k = 3 ∨ k = 4) else decide (k = 1 ∨ k = 2)
def jErr (o : Bool) (h : List Int) (k : Int) (d : List Int) : Int := if jFit o k = true then (if h.length + d.length > 512 then 5 else 0) else 2
def jLast (k : Int) : Bool := decide (k = 1 ∨ k = 4)
def jEnds (o : Bool) (h : List Int) (k : Int) (d : List Int) : Bool := decide (jErr o h k d = 0) && jLast k
def jGoes (o : Bool) (h : List Int) (k : Int) (d : List Int) : Bool := decide (jErr o h k d = 0) && !jLast k
def jHad (o : Bool) (h : List Int) (k : Int) (d : List Int) : List Int := if jGoes o h k d = true then h ++ d else []
def jTell (o : Bool) (h : List Int) (k : Int) (d : List Int) : List Int := if jEnds o h k d = true then h ++ d else []
section
variable {o : Bool} {h : List Int} {k : Int} {d : List Int}
theorem j_wrong (hf : jFit o k = false) : jErr o h k d = 2 ∧ jEnds o h k d = false ∧ jGoes o h k d = false ∧ jHad o h k d = [] ∧ jTell o h k d = [] := by
  have e : jErr o h k d = 2 := by unfold jErr; rw [hf]; simp
  simp [jEnds, jGoes, jHad, jTell, e]
theorem j_long (hf : jFit o k = true) (hl : h.length + d.length > 512) : jErr o h k d = 5 ∧ jEnds o h k d = false ∧ jGoes o h k d = false ∧ jHad o h k d = [] ∧ jTell o h k d = [] := by
  have e : jErr o h k d = 5 := by unfold jErr; rw [hf]; simp [hl]
  simp [jEnds, jGoes, jHad, jTell, e]
theorem j_ends (hf : jFit o k = true) (hl : ¬ h.length + d.length > 512) (hk : jLast k = true) : jErr o h k d = 0 ∧ jEnds o h k d = true ∧ jGoes o h k d = false ∧ jHad o h k d = [] ∧ jTell o h k d = h ++ d := by
  have e : jErr o h k d = 0 := by unfold jErr; rw [hf]; simp [hl]
  simp [jEnds, jGoes, jHad, jTell, e, hk]
theorem j_goes (hf : jFit o k = true) (hl : ¬ h.length + d.length > 512) (hk : jLast k = false) : jErr o h k d = 0 ∧ jEnds o h k d = false ∧ jGoes o h k d = true ∧ jHad o h k d = h ++ d ∧ jTell o h k d = [] := by
  have e : jErr o h k d = 0 := by unfold jErr; rw [hf]; simp [hl]
  simp [jEnds, jGoes, jHad, jTell, e, hk]
theorem jHad_le : (jHad o h k d).length ≤ 512 := by
  unfold jHad
  split
  · rename_i hg
    unfold jGoes jErr at hg
    simp only [Bool.and_eq_true, decide_eq_true_eq] at hg
    have h1 := hg.1
    split at h1
    · split at h1
      · omega
      · simp; omega
    · omega
  · simp
theorem jTell_le : (jTell o h k d).length ≤ 512 := by
  unfold jTell
  split
  · rename_i hg
    unfold jEnds jErr at hg
    simp only [Bool.and_eq_true, decide_eq_true_eq] at hg
    have h1 := hg.1
    split at h1
    · split at h1
      · omega
      · simp; omega
    · omega
  · simp
theorem jGoes_ends (he : jEnds o h k d = true) : jGoes o h k d = false := by
  unfold jEnds at he; unfold jGoes
  simp only [Bool.and_eq_true] at he
  rw [he.2]; simp
end
end Go.Proofs.YtnmplnemnfonfaaGreatDoor
namespace Go.Proofs.YtnmplnemnfonfaaGreatDoor
def bSl (B : List Int) (a : Nat) : List Int := (B.drop a).take (leftN a)
theorem bSl_length {B : List Int} (hB : B.length = 832) {a : Nat} (ha : a ≤ 832) : (bSl B a).length = leftN a := by
  have := left_le a ha
  unfold bSl; rw [List.length_take, List.length_drop]; omega
def scD (ep : Int) (B : List Int) (a : Nat) : FR × Nat × Int := fragD (bSl B a) ep
def scF (ep : Int) (B : List Int) (K : List Bool) (a : Nat) : FR × Nat :=
  if a = 832 ∨ covAt K (a : Int) ((a + 11 : Nat) : Int) = false then (noFr, 0) else
  if (scD ep B a).2.2 ≠ 0 ∨ covAt K (a : Int) ((a + (scD ep B a).2.1 : Nat) : Int) = false then (noFr, 0) else ((scD ep B a).1, (scD ep B a).2.1)
section
variable {ep : Int} {B : List Int} {K : List Bool} {a : Nat}
theorem scF_far (h : a = 832) : scF ep B K a = (noFr, 0) := by unfold scF; rw [if_pos (.inl h)]
theorem scF_head (h : covAt K (a : Int) ((a + 11 : Nat) : Int) = false) : scF ep B K a = (noFr, 0) := by unfold scF; rw [if_pos (.inr h)]
theorem scF_err (h : (scD ep B a).2.2 ≠ 0) : scF ep B K a = (noFr, 0) := by
  unfold scF
  split
  · rfl
  · rw [if_pos (.inl h)]
theorem scF_cov (h : covAt K (a : Int) ((a + (scD ep B a).2.1 : Nat) : Int) = false) : scF ep B K a = (noFr, 0) := by
  unfold scF
  split
  · rfl
  · rw [if_pos (.inr h)]
theorem scF_yes (h1 : a ≠ 832) (h2 : covAt K (a : Int) ((a + 11 : Nat) : Int) = true) (h3 : (scD ep B a).2.2 = 0) (h4 : covAt K (a : Int) ((a + (scD ep B a).2.1 : Nat) : Int) = true) :
    scF ep B K a = ((scD ep B a).1, (scD ep B a).2.1) := by
  unfold scF
  rw [if_neg (by rw [h2]; simp [h1]), if_neg (by rw [h4]; simp [h3])]
theorem scD_parts (hB : B.length = 832) (ha : a ≤ 832) (h : (scD ep B a).2.2 = 0) :
    11 ≤ (scD ep B a).2.1 ∧ (scD ep B a).2.1 ≤ leftN a ∧ a + (scD ep B a).2.1 ≤ 832 ∧ (scD ep B a).1.data.length + 11 = (scD ep B a).2.1 ∧ (scD ep B a).1.data.length ≤ 197 := by
  have hl := bSl_length hB ha
  have hle := left_le a ha
  unfold scD at h ⊢
  obtain ⟨h1, h2, h3, h4, h5⟩ := fragD_parts h
  have h6 : ¬ (bSl B a).take 11 = List.replicate 11 0 := fun e => by
    rw [fragD_none (by omega) e] at h; exact absurd h (by decide)
  rw [fragD_ok (by omega) h6 h2 h3 (by omega) h5]
  have h7 := (fok_parts h2).2.2
  simp only [List.length_take, List.length_drop]
  omega
end
structure SS where
  at_ : Nat
  first : Nat
  o : Bool
  h : List Int
  recs : List (List Int)
  places : List Int
  fin : Nat
def sc0 : SS := ⟨0, 0, false, [], [], [], 0⟩
def scFirst (s : SS) : Nat := if s.o = true then s.first else beginN s.at_
def scStep (s : SS) (f : FR) (n : Nat) : SS :=
  { at_ := beginN s.at_ + n, first := scFirst s, o := jGoes s.o s.h f.kind f.data, h := jHad s.o s.h f.kind f.data
    recs := if jEnds s.o s.h f.kind f.data = true then s.recs ++ [jTell s.o s.h f.kind f.data] else s.recs
    places := if jEnds s.o s.h f.kind f.data = true then s.places ++ [((scFirst s : Nat) : Int)] else s.places
    fin := if jEnds s.o s.h f.kind f.data = true then beginN s.at_ + n else s.fin }
def scNext (ep : Int) (B : List Int) (K : List Bool) (s : SS) : Option SS :=
  if (scF ep B K (beginN s.at_)).2 = 0 ∨ jErr s.o s.h (scF ep B K (beginN s.at_)).1.kind (scF ep B K (beginN s.at_)).1.data ≠ 0 then none
  else some (scStep s (scF ep B K (beginN s.at_)).1 (scF ep B K (beginN s.at_)).2)
def scGo (ep : Int) (B : List Int) (K : List Bool) : Nat → SS → SS
  | 0, s => s
  | k + 1, s => match scNext ep B K s with
    | none => s
    | some t => scGo ep B K k t
def scEnd (ep : Int) (B : List Int) (K : List Bool) : SS := scGo ep B K 832 sc0
structure SS.Ok (s : SS) : Prop where
  at_ : s.at_ ≤ 832
  fin : s.fin ≤ 832
  first : s.first ≤ 832
  few : s.recs.length = s.places.length
  room : 11 * s.recs.length ≤ s.at_
  h : s.h.length ≤ 512
  recs : ∀ r ∈ s.recs, r.length ≤ 512
theorem sc0_ok : sc0.Ok := ⟨by decide, by decide, by decide, rfl, by decide, by decide, fun r hr => by simp [sc0] at hr⟩
section
variable {ep : Int} {B : List Int} {K : List Bool} {s t : SS}
theorem scF_some {a : Nat} (h : (scF ep B K a).2 ≠ 0) :
    a ≠ 832 ∧ covAt K (a : Int) ((a + 11 : Nat) : Int) = true ∧ (scD ep B a).2.2 = 0 ∧ covAt K (a : Int) ((a + (scD ep B a).2.1 : Nat) : Int) = true ∧ scF ep B K a = ((scD ep B a).1, (scD ep B a).2.1) := by
  by_cases h1 : a = 832
  · rw [scF_far h1] at h; exact absurd rfl h
  cases h2 : covAt K (a : Int) ((a + 11 : Nat) : Int) with
  | false => rw [scF_head h2] at h; exact absurd rfl h
  | true =>
    by_cases h3 : (scD ep B a).2.2 = 0
    · cases h4 : covAt K (a : Int) ((a + (scD ep B a).2.1 : Nat) : Int) with
      | false => rw [scF_cov h4] at h; exact absurd rfl h
      | true => exact ⟨h1, rfl, h3, rfl, scF_yes h1 h2 h3 h4⟩
    · rw [scF_err h3] at h; exact absurd rfl h
theorem scF_none {a : Nat} (h : (scF ep B K a).2 = 0) (hB : B.length = 832) (ha : a ≤ 832) : scF ep B K a = (noFr, 0) := by
  by_cases h1 : a = 832
  · exact scF_far h1
  cases h2 : covAt K (a : Int) ((a + 11 : Nat) : Int) with
  | false => exact scF_head h2
  | true =>
    by_cases h3 : (scD ep B a).2.2 = 0
    · cases h4 : covAt K (a : Int) ((a + (scD ep B a).2.1 : Nat) : Int) with
      | false => exact scF_cov h4
      | true =>
        rw [scF_yes h1 h2 h3 h4] at h
        have := (scD_parts hB ha h3).1
        simp only at h
        omega
    · exact scF_err h3
theorem scNext_none (h : (scF ep B K (beginN s.at_)).2 = 0 ∨ jErr s.o s.h (scF ep B K (beginN s.at_)).1.kind (scF ep B K (beginN s.at_)).1.data ≠ 0) : scNext ep B K s = none := if_pos h
theorem scNext_some (h1 : (scF ep B K (beginN s.at_)).2 ≠ 0) (h2 : jErr s.o s.h (scF ep B K (beginN s.at_)).1.kind (scF ep B K (beginN s.at_)).1.data = 0) :
    scNext ep B K s = some (scStep s (scF ep B K (beginN s.at_)).1 (scF ep B K (beginN s.at_)).2) := if_neg (by rintro (h | h); exact h1 h; exact h h2)
theorem scStep_ok (hs : s.Ok) (f : FR) (n : Nat) (h11 : 11 ≤ n) (hn : beginN s.at_ + n ≤ 832) : (scStep s f n).Ok ∧ s.at_ + 11 ≤ (scStep s f n).at_ := by
  have hb : s.at_ ≤ beginN s.at_ := by unfold beginN; split <;> omega
  have hf : scFirst s ≤ 832 := by
    unfold scFirst
    split
    · exact hs.first
    · omega
  have hr := hs.room
  have hw := hs.few
  cases he : jEnds s.o s.h f.kind f.data with
  | true =>
    have e : scStep s f n = ⟨beginN s.at_ + n, scFirst s, jGoes s.o s.h f.kind f.data, jHad s.o s.h f.kind f.data, s.recs ++ [jTell s.o s.h f.kind f.data], s.places ++ [((scFirst s : Nat) : Int)], beginN s.at_ + n⟩ := by
      unfold scStep; rw [he]; rfl
    rw [e]
    refine ⟨⟨hn, hn, hf, by simp [hw], by simp; omega, jHad_le, fun r hr => ?_⟩, by show s.at_ + 11 ≤ beginN s.at_ + n; omega⟩
    rcases List.mem_append.1 hr with h | h
    · exact hs.recs r h
    · obtain rfl : r = _ := by simpa using h
      exact jTell_le
  | false =>
    have e : scStep s f n = ⟨beginN s.at_ + n, scFirst s, jGoes s.o s.h f.kind f.data, jHad s.o s.h f.kind f.data, s.recs, s.places, s.fin⟩ := by
      unfold scStep; rw [he]; rfl
    rw [e]
    exact ⟨⟨hn, hs.fin, hf, hw, by show 11 * s.recs.length ≤ beginN s.at_ + n; omega, jHad_le, hs.recs⟩, by show s.at_ + 11 ≤ beginN s.at_ + n; omega⟩
theorem scNext_ok (hB : B.length = 832) (hs : s.Ok) (h : scNext ep B K s = some t) : t.Ok ∧ s.at_ + 11 ≤ t.at_ := by
  have ha := begin_le s.at_ hs.at_
  by_cases h1 : (scF ep B K (beginN s.at_)).2 = 0 ∨ jErr s.o s.h (scF ep B K (beginN s.at_)).1.kind (scF ep B K (beginN s.at_)).1.data ≠ 0
  · rw [scNext_none h1] at h; cases h
  · have h2 : (scF ep B K (beginN s.at_)).2 ≠ 0 := fun e => h1 (.inl e)
    obtain ⟨_, _, h3, _, h5⟩ := scF_some h2
    have hp := scD_parts hB ha h3
    rw [scNext_some h2 (by by_cases e : jErr s.o s.h (scF ep B K (beginN s.at_)).1.kind (scF ep B K (beginN s.at_)).1.data = 0; exact e; exact absurd (.inr e) h1)] at h
    obtain rfl := Option.some.inj h
    rw [h5]
    exact scStep_ok hs _ _ hp.1 hp.2.2.1
def OnWay (ep : Int) (B : List Int) (K : List Bool) (s : SS) : Prop := s.Ok ∧ ∃ k, 832 ≤ k + s.at_ ∧ scGo ep B K k s = scEnd ep B K
theorem onway_0 : OnWay ep B K sc0 := ⟨sc0_ok, 832, by omega, rfl⟩
theorem OnWay.next (hB : B.length = 832) (h : OnWay ep B K s) (hn : scNext ep B K s = some t) : OnWay ep B K t := by
  obtain ⟨hs, k, hk, hg⟩ := h
  obtain ⟨ht, hat⟩ := scNext_ok hB hs hn
  have := ht.at_
  obtain ⟨q, rfl⟩ : ∃ q, k = q + 1 := ⟨k - 1, by omega⟩
  refine ⟨ht, q, by omega, ?_⟩
  rw [← hg]
  simp only [scGo, hn]
theorem OnWay.stop (h : OnWay ep B K s) (hn : scNext ep B K s = none) : s = scEnd ep B K := by
  obtain ⟨hs, k, hk, hg⟩ := h
  rw [← hg]
  cases k with
  | zero => rfl
  | succ k => simp only [scGo, hn]
end
def restAt (fs : List Int) (e i k : Nat) : Bool := decide (fs.getD (i * 64 + k) 0 = 0) || !(decide (e ≤ 52 * i) || (decide (12 ≤ k) && decide (e + 12 ≤ 52 * i + k)))
def restS (fs : List Int) (e i : Nat) : Bool := (List.range 64).all fun k => restAt fs e i k
def restB (n : Nat) (fs : List Int) (e : Nat) : Bool := (List.range (min n 16)).all fun i => restS fs e i
theorem restB_no {n : Nat} {fs : List Int} {e i : Nat} (hi : i < n) (h16 : i < 16) (h : restS fs e i = false) : restB n fs e = false := by
  rw [Bool.eq_false_iff]
  intro hh
  have := List.all_eq_true.1 hh i (List.mem_range.2 (by omega))
  rw [h] at this; cases this
theorem restB_yes {n : Nat} {fs : List Int} {e : Nat} (h : ∀ i, i < n → i < 16 → restS fs e i = true) : restB n fs e = true :=
  List.all_eq_true.2 fun i hi => h i (by have := List.mem_range.1 hi; omega) (by have := List.mem_range.1 hi; omega)
theorem restS_yes {fs : List Int} {e i : Nat} (h : ∀ k, k < 64 → restAt fs e i k = true) : restS fs e i = true :=
  List.all_eq_true.2 fun k hk => h k (List.mem_range.1 hk)
theorem restS_ahead {fs : List Int} {e i : Nat} (h : i < e / 52) : restS fs e i = true := restS_yes fun k hk => by
  unfold restAt
  have h1 : ¬ e ≤ 52 * i := by omega
  have h2 : ¬ e + 12 ≤ 52 * i + k := by omega
  simp [h1, h2]
def cleared (l : List Int) (m : Nat) : List Int := splice l 0 (List.replicate m 0)
theorem cleared_get (l : List Int) (m k : Nat) : (cleared l m).getD k 0 = if k < m then 0 else l.getD k 0 := by
  unfold cleared splice
  simp only [List.take_zero, List.nil_append, List.length_replicate, Nat.zero_add]
  by_cases h : k < m
  · rw [if_pos h]
    simp [List.getD, List.getElem?_append, h]
  · rw [if_neg h]
    simp [List.getD, List.getElem?_append, h, show m + (k - m) = k by omega]
theorem cleared_length (l : List Int) (hl : l.length = 64) (m : Nat) (hm : m ≤ 64) : (cleared l m).length = 64 := by
  unfold cleared splice; simp; omega
theorem z64_iff (l : List Int) (hl : l.length = 64) : l = List.replicate 64 0 ↔ ∀ k, k < 64 → l.getD k 0 = 0 := by
  constructor
  · rintro rfl k _
    exact getD_replicate 64 k
  · intro h
    refine List.ext_getElem (by simp [hl]) fun k h1 h2 => ?_
    have := h k (by omega)
    rw [List.getElem_replicate]
    simpa [List.getD, h1] using this
theorem sec_byte (fs : List Int) (i k : Nat) (hk : k < 64) : (secOf fs i).getD k 0 = fs.getD (i * 64 + k) 0 := by
  unfold secOf
  simp only [List.getD, List.getElem?_take, hk, if_true, List.getElem?_drop]
theorem restS_mid {fs : List Int} {n e i : Nat} (hl : fs.length = n * 64) (hi : i < n) (h : i = e / 52) (h0 : 0 < e % 52) : restS fs e i = decide (cleared (secOf fs i) (12 + e % 52) = List.replicate 64 0) := by
  have h64 := secOf_length fs n i hl hi
  have hm : 12 + e % 52 ≤ 64 := by omega
  rw [Bool.eq_iff_iff, decide_eq_true_eq, z64_iff _ (cleared_length _ h64 _ hm)]
  constructor
  · intro hh k hk
    have := List.all_eq_true.1 hh k (List.mem_range.2 hk)
    rw [cleared_get]
    split
    · rfl
    · rw [sec_byte fs i k hk]
      unfold restAt at this
      have h2 : 12 ≤ k := by omega
      have h3 : e + 12 ≤ 52 * i + k := by omega
      simpa [h2, h3] using this
  · intro hh
    refine restS_yes fun k hk => ?_
    have := hh k hk
    rw [cleared_get] at this
    unfold restAt
    by_cases hq : k < 12 + e % 52
    · have h1 : ¬ e ≤ 52 * i := by omega
      have h3 : ¬ e + 12 ≤ 52 * i + k := by omega
      simp [h1, h3]
    · rw [if_neg hq, sec_byte fs i k hk] at this
      simp only [this, decide_true, Bool.true_or]
theorem restS_behind {fs : List Int} {n e i : Nat} (hl : fs.length = n * 64) (hi : i < n) (h : e ≤ 52 * i) : restS fs e i = decide (secOf fs i = List.replicate 64 0) := by
  have h64 := secOf_length fs n i hl hi
  rw [Bool.eq_iff_iff, decide_eq_true_eq, z64_iff _ h64]
  constructor
  · intro hh k hk
    have := List.all_eq_true.1 hh k (List.mem_range.2 hk)
    rw [sec_byte fs i k hk]
    unfold restAt at this
    simpa [h] using this
  · intro hh
    refine restS_yes fun k hk => ?_
    have := hh k hk
    rw [sec_byte fs i k hk] at this
    unfold restAt
    simp only [this, decide_true, Bool.true_or]
def scKind (n : Nat) (fs : List Int) (e : Nat) : Int := if restB n fs e = true then 1 else 2
end Go.Proofs.YtnmplnemnfonfaaGreatDoor
namespace Go.Proofs.YtnmplnemnfonfaaGreatDoor
structure RR where
  at_ : Nat
  o : Bool
  h : List Int
section
variable (ep : Int) (B : List Int) (K : List Bool)
def rrGo (s : RR) : RR :=
  ⟨beginN (s.at_ + (scF ep B K s.at_).2), jGoes s.o s.h (scF ep B K s.at_).1.kind (scF ep B K s.at_).1.data, jHad s.o s.h (scF ep B K s.at_).1.kind (scF ep B K s.at_).1.data⟩
def rrStop (s : RR) : Bool :=
  decide ((scF ep B K s.at_).2 = 0) || (decide (jErr s.o s.h (scF ep B K s.at_).1.kind (scF ep B K s.at_).1.data ≠ 0) || jEnds s.o s.h (scF ep B K s.at_).1.kind (scF ep B K s.at_).1.data)
def rrK (a : Nat) : Nat → RR
  | 0 => ⟨a, false, []⟩
  | k + 1 => rrGo ep B K (rrK a k)
def rdEnd (s : RR) : Option (List Int × Nat) :=
  if (scF ep B K s.at_).2 ≠ 0 ∧ jEnds s.o s.h (scF ep B K s.at_).1.kind (scF ep B K s.at_).1.data = true then some (jTell s.o s.h (scF ep B K s.at_).1.kind (scF ep B K s.at_).1.data, s.at_ + (scF ep B K s.at_).2) else none
def rdGo : Nat → RR → Option (List Int × Nat)
  | 0, s => rdEnd ep B K s
  | k + 1, s => if rrStop ep B K s = true then rdEnd ep B K s else rdGo k (rrGo ep B K s)
def rdOf (a : Nat) : Option (List Int × Nat) := rdGo ep B K 832 ⟨a, false, []⟩
end
section
variable {ep : Int} {B : List Int} {K : List Bool} {s : RR} {a : Nat}
structure RR.Ok (s : RR) : Prop where
  at_ : s.at_ ≤ 832
  h : s.h.length ≤ 512
theorem rr_goes (h : rrStop ep B K s = false) : (scF ep B K s.at_).2 ≠ 0 ∧ jErr s.o s.h (scF ep B K s.at_).1.kind (scF ep B K s.at_).1.data = 0 ∧ jEnds s.o s.h (scF ep B K s.at_).1.kind (scF ep B K s.at_).1.data = false := by
  unfold rrStop at h
  simp only [Bool.or_eq_false_iff, decide_eq_false_iff_not, ne_eq, Decidable.not_not] at h
  exact ⟨h.1, h.2.1, h.2.2⟩
theorem rr_going (h1 : (scF ep B K s.at_).2 ≠ 0) (h2 : jErr s.o s.h (scF ep B K s.at_).1.kind (scF ep B K s.at_).1.data = 0) (h3 : jEnds s.o s.h (scF ep B K s.at_).1.kind (scF ep B K s.at_).1.data = false) : rrStop ep B K s = false := by
  unfold rrStop
  simp only [h2, h3]
  simp [h1]
theorem rr_none (h : (scF ep B K s.at_).2 = 0) : rrStop ep B K s = true ∧ rdEnd ep B K s = none := by
  constructor
  · unfold rrStop; simp [h]
  · unfold rdEnd; rw [if_neg (by simp [h])]
theorem rr_err (h : jErr s.o s.h (scF ep B K s.at_).1.kind (scF ep B K s.at_).1.data ≠ 0) : rrStop ep B K s = true ∧ rdEnd ep B K s = none := by
  constructor
  · unfold rrStop; simp [h]
  · unfold rdEnd; rw [if_neg (by unfold jEnds; simp [h])]
theorem rr_ends (h0 : (scF ep B K s.at_).2 ≠ 0) (h : jEnds s.o s.h (scF ep B K s.at_).1.kind (scF ep B K s.at_).1.data = true) : rrStop ep B K s = true ∧
    rdEnd ep B K s = some (jTell s.o s.h (scF ep B K s.at_).1.kind (scF ep B K s.at_).1.data, s.at_ + (scF ep B K s.at_).2) := by
  constructor
  · unfold rrStop; simp [h]
  · unfold rdEnd; rw [if_pos ⟨h0, h⟩]
theorem scF_in (hB : B.length = 832) (ha : a ≤ 832) (h : (scF ep B K a).2 ≠ 0) : 11 ≤ (scF ep B K a).2 ∧ a + (scF ep B K a).2 ≤ 832 ∧ (scF ep B K a).1.data.length ≤ 197 := by
  obtain ⟨_, _, h3, _, h5⟩ := scF_some h
  have hp := scD_parts hB ha h3
  rw [h5]
  exact ⟨hp.1, hp.2.2.1, hp.2.2.2.2⟩
theorem rrGo_ok (hB : B.length = 832) (hs : s.Ok) (h : rrStop ep B K s = false) : (rrGo ep B K s).Ok ∧ s.at_ + 11 ≤ (rrGo ep B K s).at_ := by
  obtain ⟨h1, _, _⟩ := rr_goes h
  obtain ⟨h2, h3, _⟩ := scF_in hB hs.at_ h1
  have hb := begin_le _ h3
  have hg : s.at_ + (scF ep B K s.at_).2 ≤ beginN (s.at_ + (scF ep B K s.at_).2) := by
    generalize s.at_ + (scF ep B K s.at_).2 = t at *
    unfold beginN; split <;> omega
  exact ⟨⟨hb, jHad_le⟩, by show s.at_ + 11 ≤ beginN _; omega⟩
theorem rrK_ok (hB : B.length = 832) (ha : a ≤ 832) : ∀ k, (∀ j, j < k → rrStop ep B K (rrK ep B K a j) = false) → (rrK ep B K a k).Ok ∧ 11 * k ≤ (rrK ep B K a k).at_
  | 0, _ => ⟨⟨ha, by simp [rrK]⟩, by omega⟩
  | k + 1, h => by
    obtain ⟨h1, h2⟩ := rrK_ok hB ha k fun j hj => h j (by omega)
    obtain ⟨h3, h4⟩ := rrGo_ok hB h1 (h k (by omega))
    exact ⟨h3, by show 11 * (k + 1) ≤ (rrGo ep B K _).at_; omega⟩
theorem rr_least (hB : B.length = 832) (ha : a ≤ 832) : ∃ k, k ≤ 76 ∧ rrStop ep B K (rrK ep B K a k) = true ∧ ∀ j, j < k → rrStop ep B K (rrK ep B K a j) = false := by
  have key : ∀ m, (∃ k, k < m ∧ rrStop ep B K (rrK ep B K a k) = true ∧ ∀ j, j < k → rrStop ep B K (rrK ep B K a j) = false) ∨ ∀ j, j < m → rrStop ep B K (rrK ep B K a j) = false := by
    intro m
    induction m with
    | zero => exact .inr fun j hj => absurd hj (by omega)
    | succ m ih =>
      rcases ih with ⟨k, h1, h2⟩ | h
      · exact .inl ⟨k, by omega, h2⟩
      · cases hm : rrStop ep B K (rrK ep B K a m) with
        | true => exact .inl ⟨m, by omega, hm, h⟩
        | false =>
          refine .inr fun j hj => ?_
          rcases (by omega : j < m ∨ j = m) with q | rfl
          · exact h j q
          · exact hm
  rcases key 77 with ⟨k, h1, h2⟩ | h
  · exact ⟨k, by omega, h2⟩
  · obtain ⟨h1, h2⟩ := rrK_ok hB ha 77 h
    have := h1.at_
    omega
theorem rdGo_rrK : ∀ (j k : Nat), (∀ i, i < j → rrStop ep B K (rrK ep B K a i) = false) → rdGo ep B K (k + j) (rrK ep B K a 0) = rdGo ep B K k (rrK ep B K a j)
  | 0, _, _ => rfl
  | j + 1, k, h => by
    rw [show k + (j + 1) = (k + 1) + j from by omega, rdGo_rrK j (k + 1) fun i hi => h i (by omega)]
    have := h j (by omega)
    simp only [rdGo, this, Bool.false_eq_true, if_false]
    rfl
theorem rdGo_stop (k : Nat) (h : rrStop ep B K s = true) : rdGo ep B K k s = rdEnd ep B K s := by
  cases k with
  | zero => rfl
  | succ k => simp only [rdGo, h, if_true]
theorem rdOf_at (hB : B.length = 832) (ha : a ≤ 832) {k : Nat} (hs : rrStop ep B K (rrK ep B K a k) = true) (h : ∀ j, j < k → rrStop ep B K (rrK ep B K a j) = false) : rdOf ep B K a = rdEnd ep B K (rrK ep B K a k) := by
  obtain ⟨h1, h2⟩ := rrK_ok hB ha k h
  have := h1.at_
  unfold rdOf
  rw [show (832 : Nat) = (832 - k) + k from by omega]
  exact (rdGo_rrK k (832 - k) h).trans (rdGo_stop _ hs)
def RdWay (ep : Int) (B : List Int) (K : List Bool) (a : Nat) (s : RR) : Prop := s.Ok ∧ ∃ k, 832 ≤ k + s.at_ ∧ rdGo ep B K k s = rdOf ep B K a
theorem rdway_0 (ha : a ≤ 832) : RdWay ep B K a ⟨a, false, []⟩ := ⟨⟨ha, by simp⟩, 832, by omega, rfl⟩
theorem RdWay.next (hB : B.length = 832) (h : RdWay ep B K a s) (hn : rrStop ep B K s = false) : RdWay ep B K a (rrGo ep B K s) ∧ s.at_ + 11 ≤ (rrGo ep B K s).at_ := by
  obtain ⟨hs, k, hk, hg⟩ := h
  obtain ⟨ht, hat⟩ := rrGo_ok hB hs hn
  have := ht.at_
  obtain ⟨q, rfl⟩ : ∃ q, k = q + 1 := ⟨k - 1, by omega⟩
  refine ⟨⟨ht, q, by omega, ?_⟩, hat⟩
  rw [← hg]
  simp only [rdGo, hn, Bool.false_eq_true, if_false]
theorem RdWay.stop (h : RdWay ep B K a s) (hn : rrStop ep B K s = true) : rdOf ep B K a = rdEnd ep B K s := by
  obtain ⟨hs, k, hk, hg⟩ := h
  rw [← hg]
  exact rdGo_stop k hn
def Come (ep : Int) (B : List Int) (K : List Bool) (s : SS) : Prop :=
  if s.o = true then ∃ j, rrK ep B K s.first j = ⟨beginN s.at_, s.o, s.h⟩ ∧ ∀ i, i < j → rrStop ep B K (rrK ep B K s.first i) = false else s.h = []
def Stands (ep : Int) (B : List Int) (K : List Bool) (s : SS) : Prop := ∀ (i : Nat) (r : List Int) (p : Int), s.recs[i]? = some r → s.places[i]? = some p → ∃ q e : Nat, p = (q : Int) ∧ q ≤ 832 ∧ rdOf ep B K q = some (r, e) ∧ (i + 1 = s.recs.length → e = s.fin)
theorem stands_step (hB : B.length = 832) {s t : SS} (hs : s.Ok) (hc : Come ep B K s) (hst : Stands ep B K s) (h : scNext ep B K s = some t) : Come ep B K t ∧ Stands ep B K t := by
  have hq : ¬ ((scF ep B K (beginN s.at_)).2 = 0 ∨ jErr s.o s.h (scF ep B K (beginN s.at_)).1.kind (scF ep B K (beginN s.at_)).1.data ≠ 0) := fun e => by
    rw [scNext_none e] at h; cases h
  have h0 : (scF ep B K (beginN s.at_)).2 ≠ 0 := fun e => hq (.inl e)
  have hj : jErr s.o s.h (scF ep B K (beginN s.at_)).1.kind (scF ep B K (beginN s.at_)).1.data = 0 := Decidable.not_not.1 fun e => hq (.inr e)
  rw [scNext_some h0 hj] at h
  obtain rfl := Option.some.inj h
  have hbl := begin_le s.at_ hs.at_
  have hf8 : scFirst s ≤ 832 := by
    unfold scFirst; split
    · exact hs.first
    · exact hbl
  have hw : ∃ j, rrK ep B K (scFirst s) j = ⟨beginN s.at_, s.o, s.h⟩ ∧ ∀ i, i < j → rrStop ep B K (rrK ep B K (scFirst s) i) = false := by
    unfold Come at hc
    unfold scFirst
    by_cases ho : s.o = true
    · rw [if_pos ho] at hc ⊢; exact hc
    · rw [if_neg ho] at hc ⊢
      refine ⟨0, ?_, fun i hi => absurd hi (by omega)⟩
      rw [hc, Bool.eq_false_iff.2 ho]; rfl
  obtain ⟨j, hr, hno⟩ := hw
  cases he : jEnds s.o s.h (scF ep B K (beginN s.at_)).1.kind (scF ep B K (beginN s.at_)).1.data with
  | true =>
    have e : scStep s (scF ep B K (beginN s.at_)).1 (scF ep B K (beginN s.at_)).2 = ⟨beginN s.at_ + (scF ep B K (beginN s.at_)).2, scFirst s, jGoes s.o s.h (scF ep B K (beginN s.at_)).1.kind (scF ep B K (beginN s.at_)).1.data, jHad s.o s.h (scF ep B K (beginN s.at_)).1.kind (scF ep B K (beginN s.at_)).1.data,
        s.recs ++ [jTell s.o s.h (scF ep B K (beginN s.at_)).1.kind (scF ep B K (beginN s.at_)).1.data], s.places ++ [((scFirst s : Nat) : Int)], beginN s.at_ + (scF ep B K (beginN s.at_)).2⟩ := by
      unfold scStep; rw [he]; rfl
    have hstop := rr_ends (ep := ep) (B := B) (K := K) (s := ⟨beginN s.at_, s.o, s.h⟩) h0 he
    have hg : jGoes s.o s.h (scF ep B K (beginN s.at_)).1.kind (scF ep B K (beginN s.at_)).1.data = false := by
      unfold jEnds at he
      unfold jGoes
      simp only [Bool.and_eq_true] at he
      rw [he.2]; simp
    have hd : jHad s.o s.h (scF ep B K (beginN s.at_)).1.kind (scF ep B K (beginN s.at_)).1.data = [] := by unfold jHad; rw [hg]; rfl
    have hat := rdOf_at hB hf8 (by rw [hr]; exact hstop.1) hno
    rw [hr, hstop.2] at hat
    rw [e]
    refine ⟨?_, fun i r p h1 h2 => ?_⟩
    · show if _ = true then _ else _
      rw [if_neg (by show ¬ jGoes _ _ _ _ = true; rw [hg]; simp)]
      exact hd
    · have h1 : (s.recs ++ [jTell s.o s.h (scF ep B K (beginN s.at_)).1.kind (scF ep B K (beginN s.at_)).1.data])[i]? = some r := h1
      have h2 : (s.places ++ [((scFirst s : Nat) : Int)])[i]? = some p := h2
      have hfew := hs.few
      by_cases hi : i < s.recs.length
      · rw [List.getElem?_append_left hi] at h1
        rw [List.getElem?_append_left (by omega)] at h2
        obtain ⟨q, e, h3, h4, h5, _⟩ := hst i r p h1 h2
        exact ⟨q, e, h3, h4, h5, fun h => absurd h (by show ¬ i + 1 = (s.recs ++ [_]).length; simp; omega)⟩
      · have hi2 : i = s.recs.length := by
          have := (List.getElem?_eq_some_iff.1 h1).1
          simp at this; omega
        subst hi2
        rw [List.getElem?_append_right (Nat.le_refl _)] at h1
        rw [hfew, List.getElem?_append_right (Nat.le_refl _)] at h2
        simp only [Nat.sub_self, List.getElem?_cons_zero, Option.some.injEq] at h1 h2
        subst h1
        subst h2
        exact ⟨_, _, rfl, hf8, hat, fun _ => rfl⟩
  | false =>
    have e : scStep s (scF ep B K (beginN s.at_)).1 (scF ep B K (beginN s.at_)).2 = ⟨beginN s.at_ + (scF ep B K (beginN s.at_)).2, scFirst s, jGoes s.o s.h (scF ep B K (beginN s.at_)).1.kind (scF ep B K (beginN s.at_)).1.data, jHad s.o s.h (scF ep B K (beginN s.at_)).1.kind (scF ep B K (beginN s.at_)).1.data, s.recs, s.places, s.fin⟩ := by
      unfold scStep; rw [he]; rfl
    have hgo := rr_going (ep := ep) (B := B) (K := K) (s := ⟨beginN s.at_, s.o, s.h⟩) h0 hj he
    have hg : jGoes s.o s.h (scF ep B K (beginN s.at_)).1.kind (scF ep B K (beginN s.at_)).1.data = true := by
      unfold jEnds at he
      unfold jGoes
      rw [hj] at he ⊢
      simp only [decide_true, Bool.true_and] at he ⊢
      rw [he]; rfl
    rw [e]
    refine ⟨?_, hst⟩
    show if _ = true then _ else _
    rw [if_pos hg]
    refine ⟨j + 1, ?_, fun i hi => ?_⟩
    · show rrGo ep B K (rrK ep B K (scFirst s) j) = _
      rw [hr]; rfl
    · rcases (by omega : i < j ∨ i = j) with q | rfl
      · exact hno i q
      · show rrStop ep B K (rrK ep B K (scFirst s) i) = false
        rw [hr]; exact hgo
theorem stands_go (hB : B.length = 832) : ∀ (k : Nat) (s : SS), s.Ok → Come ep B K s → Stands ep B K s → Stands ep B K (scGo ep B K k s)
  | 0, _, _, _, h => h
  | k + 1, s, hs, hc, h => by
    unfold scGo
    cases hn : scNext ep B K s with
    | none => exact h
    | some t =>
      obtain ⟨h1, h2⟩ := stands_step hB hs hc h hn
      exact stands_go hB k t (scNext_ok hB hs hn).1 h1 h2
theorem stands_end (hB : B.length = 832) : Stands ep B K (scEnd ep B K) := by
  unfold scEnd
  exact stands_go hB 832 sc0 sc0_ok (by unfold Come; rw [if_neg (by simp [sc0])]; rfl) fun i r p h => by simp [sc0] at h
theorem scF_short (hB : B.length = 832) (ha : a ≤ 832) (h : 832 < a + 11) : scF ep B K a = (noFr, 0) := by
  by_cases h0 : (scF ep B K a).2 = 0
  · exact scF_none h0 hB ha
  · have := scF_in hB ha h0
    omega
theorem covat_sub {b c : Nat} (hab : a < b) (hbc : b ≤ c) (hc : c ≤ 832) (h : covAt K (a : Int) (c : Int) = true) : covAt K (a : Int) (b : Int) = true := by
  unfold covAt at h ⊢
  rw [nr_nat a (by omega), nr_nat b (by omega)]
  rw [nr_nat a (by omega), nr_nat c hc] at h
  have t1 : touchN a b = (a / 52, (b - 1) / 52 + 1) := if_pos hab
  have t2 : touchN a c = (a / 52, (c - 1) / 52 + 1) := if_pos (by omega)
  rw [t1]
  rw [t2] at h
  refine cov_all _ _ _ fun i hi => ?_
  have hi : i < (b - 1) / 52 + 1 - a / 52 := hi
  exact List.all_eq_true.1 h i (List.mem_range.2 (by show i < (c - 1) / 52 + 1 - a / 52; omega))
theorem scF_plain (hB : B.length = 832) (ha : a ≤ 832) :
    ((scD ep B a).2.2 = 0 → covAt K (a : Int) ((a + (scD ep B a).2.1 : Nat) : Int) = true → scF ep B K a = ((scD ep B a).1, (scD ep B a).2.1)) ∧
    ((scD ep B a).2.2 ≠ 0 → scF ep B K a = (noFr, 0)) ∧ (covAt K (a : Int) ((a + (scD ep B a).2.1 : Nat) : Int) = false → scF ep B K a = (noFr, 0)) := by
  refine ⟨fun h1 h2 => ?_, scF_err, scF_cov⟩
  have hp := scD_parts hB ha h1
  exact scF_yes (by omega) (covat_sub (by omega) (by omega) hp.2.2.1 h2) h1 h2
end
end Go.Proofs.YtnmplnemnfonfaaGreatDoor
namespace Go.Proofs.YtnmplnemnfonfaaGreatDoor
open Go.RowKit
theorem wpl_box_bd {ops : Array Oper} {rest : List Oper} {o : Oper} {a : Act} {Q : Exit → Act → World → Prop} {w : World} (hg : o.guard = none) (x : Operand) (ho : o.op = .box 134 x) (cs : Array Value) (hx : a.eval x = .agg cs)
    (h : wpList Tryz.prog ops Q rest (a.put o.dst (.pointer (some ⟨w.heap.size, 0, none⟩))) (w.alloc (.cells cs 134))) : wpList Tryz.prog ops Q (o :: rest) a w :=
  wpList_plain hg fun _ hK => by
    unfold Oper.wp execOp
    simp only [ho, hx]
    simp [go_sem]
    exact hK _ _ h
theorem rd_cell_over {w w' : World} {b j : Nat} {v : Value} {g : Nat} (h : w.cell? ⟨b, j, none⟩ = some v) (hg : w.grownBy w' (some g)) (hne : b ≠ g) : w'.cell? ⟨b, j, none⟩ = some v := by
  have hlt : b < w.heap.size := by
    by_cases hl : b < w.heap.size
    · exact hl
    · have : w.heap[b]? = none := Array.getElem?_eq_none (by omega)
      simp [World.cell?, this] at h
  exact (World.cell?_of_block (hg.block b hlt (fun e => hne (Option.some.inj e)))).trans h
abbrev rbA (ep : Int) (bv kv : Value) : Array Value := #[.int .u32 ep, bv, kv]
def BFragT (F : FR × Nat) (p : Int) (w : World) (r : Ending) (w' : World) : Prop :=
  Below w.heap.size w w' ∧ ((F.2 = 0 ∧ ∃ k e x n c m, r = .returned (.tuple #[.agg (fA k e (.slice x n c)), .int .i64 m, .bool false])) ∨
    (F.2 ≠ 0 ∧ ∃ x c, r = .returned (.tuple #[.agg (fA F.1.kind F.1.epoch (.slice x F.1.data.length c)), .int .i64 (p + (F.2 : Nat)), .bool true]) ∧
      w'.ownsRow w.heap.size 5 1 (.slice x F.1.data.length c) F.1.data.length (il .u8 F.1.data)))
set_option maxRecDepth 8000 in
set_option maxHeartbeats 4000000 in
theorem bfrag_out (ep : Int) (bv kv : Value) (p : Int) (hp : p < 0 ∨ p > 832) (w : World) :
    Calls Tryz.prog 66 #[.agg (rbA ep bv kv), .int .i64 p] w (BFragT (noFr, 0) p w) := by
  obtain ⟨wb, hwb⟩ : ∃ q, w.alloc (.cells (rbA ep bv kv) 134) = q := ⟨_, rfl⟩
  obtain ⟨wa, hwa⟩ : ∃ q, wb.alloc (.cells (fA 0 0 (.slice none 0 0)) 82) = q := ⟨_, rfl⟩
  have HA : Hid (FO wa wb.heap.size 0 0 (.slice none 0 0)) := Lib.hid (by rw [← hwa]; exact FO.alloc wb)
  have HBS : Hid (w.heap.size ≤ wb.heap.size) := Lib.hid (by rw [← hwb]; simp)
  have HBA : Hid (Below w.heap.size w wa) := Lib.hid (by rw [← hwa, ← hwb]; exact bch (balloc w _) (balloc _ _))
  rcases hp with h1 | h1
  · go_enter Tryz.func66, Tryz.ntmps66
    go_wp2_with (first
      | (refine wpl_box_bd rfl (.tmp 0) rfl (rbA ep bv kv) rfl ?_; rw [hwb])
      | (rw [hwa])
      | (refine wpl_put_fr rfl (.tmp 4) (.tmp 16) rfl wb.heap.size HA.out 0 0 none 0 0 rfl rfl ?_; intro wz HZ HGZ))
    refine bodyPost_ret_by (results_row_tmp2 rfl _ _ wb.heap.size _ rfl HZ.out.load) rfl ?_
    exact ⟨below_over HBA.out HGZ.out HBS.out HBA.out.size, .inl ⟨rfl, _, _, _, _, _, _, rfl⟩⟩
  · have h0 : ¬ p < 0 := by omega
    go_enter Tryz.func66, Tryz.ntmps66
    go_wp2_with (first
      | (refine wpl_box_bd rfl (.tmp 0) rfl (rbA ep bv kv) rfl ?_; rw [hwb])
      | (rw [hwa])
      | (refine wpl_put_fr rfl (.tmp 4) (.tmp 16) rfl wb.heap.size HA.out 0 0 none 0 0 rfl rfl ?_; intro wz HZ HGZ))
    refine bodyPost_ret_by (results_row_tmp2 rfl _ _ wb.heap.size _ rfl HZ.out.load) rfl ?_
    exact ⟨below_over HBA.out HGZ.out HBS.out HBA.out.size, .inl ⟨rfl, _, _, _, _, _, _, rfl⟩⟩
set_option maxRecDepth 8000 in
set_option maxHeartbeats 4000000 in
theorem bfrag_in {W w : World} {ep : Int} {bv kv : Value} {B : List Int} {K : List Bool} (hb : Below W.heap.size W w) (hT : Tab W) (hB : B.length = 832) (hBb : isB B) (hbv : RI .u8 w bv 832 B) (hk : BS w kv 16 K) (a : Nat) (ha : a ≤ 832) :
    Calls Tryz.prog 66 #[.agg (rbA ep bv kv), .int .i64 (a : Int)] w (BFragT (scF ep B K a) (a : Int) w) := by
  obtain ⟨ba, bc, rfl, _, hbc, _⟩ := id hbv
  obtain ⟨wb, hwb⟩ : ∃ q, w.alloc (.cells (rbA ep (.slice ba 832 bc) kv) 134) = q := ⟨_, rfl⟩
  obtain ⟨wa, hwa⟩ : ∃ q, wb.alloc (.cells (fA 0 0 (.slice none 0 0)) 82) = q := ⟨_, rfl⟩
  have hwbs : wb.heap.size = w.heap.size + 1 := by rw [← hwb]; simp
  have hb1 : Below w.heap.size w wb := by rw [← hwb]; exact balloc w _
  have hb2 : Below wb.heap.size wb wa := by rw [← hwa]; exact balloc wb _
  have hk0 : wa.heap[w.heap.size]? = some (.cells (rbA ep (.slice ba 832 bc) kv) 134 (0, 0)) := by
    rw [hb2.block _ (by omega), ← hwb]; exact heap_alloc_last w _
  have HA : Hid (FO wa wb.heap.size 0 0 (.slice none 0 0)) := Lib.hid (by rw [← hwa]; exact FO.alloc wb)
  have hba : Below w.heap.size w wa := bch hb1 hb2
  have HBA := Lib.hid hba
  have HB0 := Lib.hid (bch hb hba)
  have HT := Lib.hid hT
  have HKA := Lib.hid (hk.kin (Kin.below hba))
  obtain ⟨l, hl⟩ : ∃ l, leftN a = l := ⟨_, rfl⟩
  have hla := left_le a ha
  rw [hl] at hla
  have hna : nr (a : Int) = a := nr_nat a ha
  have h0 : ¬ (a : Int) < 0 := by omega
  have h8 : ¬ (a : Int) > 832 := by omega
  have h8' : ¬ (832 : Int) < (a : Int) := by omega
  have HLF : Hid (∀ w, Calls Tryz.prog 88 #[.int .i64 a] w fun e w' => e = .returned (.int .i64 (l : Int)) ∧ Below w.heap.size w w') := Lib.hid fun w => by
    have := left_any (a : Int) (by unfold I63; omega) w; rwa [hna, hl] at this
  obtain ⟨t, ht⟩ : ∃ t, a + l = t := ⟨_, rfl⟩
  have htI : (a : Int) + (l : Int) = (t : Int) := by omega
  have ht8 : (t : Int) ≤ 832 := by omega
  obtain ⟨q, qc, hq⟩ := sliced_form ba a l bc 1
  have HSL := Lib.hid hq
  have hcut : ∀ w', Below w.heap.size w w' → RI .u8 w' (.slice q l qc) l (bSl B a) := fun w' h => by
    have := (hbv.keep h).cut a l bc (by omega) (by omega) (Nat.le_refl _)
    rw [hq] at this
    unfold bSl
    rw [hl]
    exact this
  have hbs : isB (bSl B a) := (hBb.drop _).take _
  have HDC : Hid (∀ w', Below w.heap.size w w' → Calls Tryz.prog 87 #[.slice q l qc, .int .u32 ep] w' (DecF (bSl B a) ep w')) := Lib.hid fun w' h => fdec_any _ l _ ep w' (hT.keep (bch hb h)) (hcut w' h) hbs
  have HTL := Lib.hid ht
  have HWT : Hid (IntKind.i64.wrap (t : Int) = (t : Int)) := Lib.hid (wrap_id _ (by omega))
  have HBC : Hid (t ≤ bc) := Lib.hid (by omega)
  obtain ⟨f, m, x, hD⟩ : ∃ f m x, scD ep B a = (f, m, x) := ⟨_, _, _, rfl⟩
  have HDF : Hid (∀ w w' r, DecF (bSl B a) ep w r w' → ∃ p n c, r = .returned (.tuple #[.agg (fA f.kind f.epoch (.slice p n c)), .int .i64 (m : Nat), .int .i64 x]) ∧ w'.ownsRow w.heap.size 5 1 (.slice p n c) n (il .u8 f.data) ∧ Below w.heap.size w w') := Lib.hid fun w w' r h => by
    obtain ⟨p, n, c, h1, h2, h3⟩ := h
    rw [show fragD (bSl B a) ep = (f, m, x) from hD] at h1 h2
    exact ⟨p, n, c, h1, h2, h3⟩
  obtain ⟨g1, g2, g3⟩ := scF_plain (ep := ep) (B := B) (K := K) hB ha
  have hx : (x = 0 ∧ 11 ≤ m ∧ a + m ≤ 832 ∧ (∀ n, covAt K (a : Int) ((a + m : Nat) : Int) = n → if n = true then scF ep B K a = (f, m) else scF ep B K a = (noFr, 0))) ∨ (x ≠ 0 ∧ scF ep B K a = (noFr, 0) ∧ m = 0) := by
    rw [hD] at g1 g2 g3
    dsimp only at g1 g2 g3
    by_cases h0 : x = 0
    · have hp := scD_parts hB ha (ep := ep) (by rw [hD]; exact h0)
      rw [hD] at hp
      refine .inl ⟨h0, hp.1, hp.2.2.1, fun n hn => ?_⟩
      cases n with
      | true => exact g1 h0 hn
      | false => exact g3 hn
    · have he := fragD_err (zs := bSl B a) (ep := ep) (by show (scD ep B a).2.2 ≠ 0; rw [hD]; exact h0)
      have he2 : scD ep B a = (noFr, 0, (scD ep B a).2.2) := he
      rw [hD] at he2
      exact .inr ⟨h0, g2 h0, (Prod.mk.inj (Prod.mk.inj he2).2).1⟩
  clear g1 g2 g3
  obtain ⟨t2, ht2⟩ : ∃ t, a + m = t := ⟨_, rfl⟩
  have ht2I : (a : Int) + (m : Int) = (t2 : Int) := by omega
  have hm8 : t2 ≤ 832 := by rcases hx with ⟨_, _, h, _⟩ | ⟨_, _, h⟩ <;> omega
  have HW2 : Hid (IntKind.i64.wrap (t2 : Int) = (t2 : Int)) := Lib.hid (wrap_id _ (by omega))
  have HCV : Hid (∀ (w' : World), Below wa.heap.size wa w' → Calls Tryz.prog 89 #[kv, .int .i64 (a : Int), .int .i64 (t2 : Int)] w' fun e w'' => e = .returned (.bool (covAt K (a : Int) (t2 : Int))) ∧ Below w'.heap.size w' w'') := Lib.hid fun w' h => covered_any kv 16 K a t2 (by unfold I63; omega) (by unfold I63; omega) w' (HKA.out.kin (Kin.below h))
  obtain ⟨fk, fe, fd⟩ := f
  dsimp only at HDF
  have HK0 := Lib.hid hk0
  have HS3 : Hid (∀ w', Below wa.heap.size wa w' → w'.cell? ⟨w.heap.size, 0, none⟩ = some (.int .u32 ep) ∧ w'.cell? ⟨w.heap.size, 1, none⟩ = some (.slice ba 832 bc) ∧ Below wa.heap.size wa w') := Lib.hid fun w' h => by
    have hq := (h.block _ (Array.getElem?_eq_some_iff.1 hk0).1).trans hk0
    exact ⟨cell_of_row w' _ 0 _ _ _ hq, cell_of_row w' _ 1 _ _ _ hq, h⟩
  have HWB := Lib.hid (show wb.heap.size < wa.heap.size ∧ w.heap.size < wb.heap.size from ⟨by rw [← hwa]; simp, by omega⟩)
  have HMI : Hid (t2 = a + m) := Lib.hid ht2.symm
  have HTM := Lib.hid (show t2 ≤ 832 from hm8)
  clear hb hT hB hBb hbv hk ha hb1 hb2 hk0 hba hbc hl hla hna hq hcut hbs ht hwbs hD ht2 hm8
  go_enter Tryz.func66, Tryz.ntmps66
  go_wp2_with (first
    | (refine wpl_box_bd rfl (.tmp 0) rfl (rbA ep (.slice ba 832 bc) kv) rfl ?_; rw [hwb])
    | (rw [hwa]))
  clear hwb hwa
  go_wp2_with fail
  refine wp_region_held_drew (S := (fun w' => w'.cell? ⟨w.heap.size, 0, none⟩ = some (.int .u32 ep) ∧ w'.cell? ⟨w.heap.size, 1, none⟩ = some (.slice ba 832 bc) ∧ Below wa.heap.size wa w')) (by kernel_rfl) (HS3.out _ (Below.refl _ wa).drew) (fun hS => ?_)
  refine rgw 0 ⟨some 18, .fieldAddr 134 (.tmp 2) 1, 0, _, _, none⟩ hS ?_
  refine rgw 1 ⟨some 19, .load 49 (.tmp 18), 49, _, _, none⟩ hS ?_
  refine rgw 2 ⟨some 20, .move (.tmp 1), 3, _, _, none⟩ hS ?_
  refine rgw 3 ⟨some 21, .move (.tmp 1), 3, _, _, none⟩ hS ?_
  refine rgw 4 ⟨some 22, .move (.tmp 1), 3, _, _, none⟩ hS ?_
  refine rgw 8 ⟨some 26, .fieldAddr 134 (.tmp 2) 0, 0, _, _, none⟩ hS ?_
  refine rgw 9 ⟨some 27, .load 80 (.tmp 26), 80, _, _, none⟩ hS ?_
  refine rg_both 5 15 ⟨some 23, .call { callee := .value (.func 88), args := #[.tmp 22], argTypes := #[3] }, 3, _, _, none⟩ ⟨some 7, .alloc 82, 0, _, _, none⟩ (by kernel_rfl) rfl rfl (fun K hK => ?_) (fun K hK => ?_)
  focus
    go_simp
    (go_at_call 88; (with_reducible refine (HLF.out _).mono ?_); rintro r w2 ⟨rfl, hb⟩; have hN := HS3.out _ (bch hS.2.2 hb); (try (have q := Lib.hid (HG.out.keep hb); clear HG; have HG := q; clear q)); clear hb)
    refine hK.out _ _ ?_ (fun hS1 => ?_)
    · (first | exact hN | exact hS)
    clear hK K hS; have hS := hS1; clear hS1
    (try simp only [rgp])
    refine rgw 6 ⟨some 24, .binOp .add 3 (.tmp 21) (.tmp 23) 3, 3, _, _, none⟩ hS ?_ (v := .int .i64 (t : Int)) (hy := by intro w hSw; (try dsimp only at hSw); have z := HWT.out; go_simp; (try exact z))
    refine rgw 7 ⟨some 25, .slice 49 (.tmp 19) (some (.tmp 20)) (some (.tmp 24)) none, 49, _, _, none⟩ hS ?_ (v := .slice q l qc) (hy := by intro w hSw; (try dsimp only at hSw); exact (exec_cut_lh (.tmp 19) (.tmp 20) (.tmp 24) rfl ba 832 bc a l rfl rfl (by rw [HTL.out]; rfl) (by rw [HTL.out]; exact HBC.out)).trans (by rw [HSL.out]))
    refine rg_both 10 15 ⟨some 28, .call { callee := .value (.func 87), args := #[.tmp 25, .tmp 27], argTypes := #[49, 80] }, 120, _, _, none⟩ ⟨some 7, .alloc 82, 0, _, _, none⟩ (by kernel_rfl) rfl rfl (fun K hK => ?_) (fun K hK => ?_)
    focus
      go_simp
      (go_at_call 87; (refine (HDC.out _ (bch HBA.out hS.2.2)).mono ?_); rintro r w4 hd; obtain ⟨p4, n4, c4, rfl, ho, hb⟩ := HDF.out _ _ _ hd; have hN := HS3.out _ (bch hS.2.2 hb); (try (have q := Lib.hid (HG.out.keep hb); clear HG; have HG := q; clear q)); have HO := Lib.hid (own_mono ho (show w.heap.size ≤ _ from Nat.le_trans HBA.out.size hS.2.2.size)); clear hb ho hd)
      refine hK.out _ _ ?_ (fun hS1 => ?_)
      · (first | exact hN | exact hS)
      clear hK K hS; have hS := hS1; clear hS1
      (try simp only [rgp])
      refine rgw 11 ⟨some 17, .move (.tmp 28), 120, _, _, none⟩ hS ?_
      refine rgw 12 ⟨some 29, .extract (.tmp 17) 0, 82, _, _, none⟩ hS ?_
      refine rgw 13 ⟨some 30, .extract (.tmp 17) 1, 3, _, _, none⟩ hS ?_
      refine rgw 14 ⟨some 31, .extract (.tmp 17) 2, 36, _, _, none⟩ hS ?_
      refine rg_one 15 ⟨some 7, .alloc 82, 0, _, _, none⟩ (by kernel_rfl) rfl (fun K hK => ?_)
      rw [if_pos (by rfl)]; refine wp_new_fr rfl ?_; intro g w5 HG hgl hb; have hN := HS3.out _ (bch hS.2.2 hb.out); (try (have q := Lib.hid (own_keep HO.out hb.out); clear HO; have HO := q; clear q)); have HGL := Lib.hid (Nat.le_trans hS.2.2.size hgl.out); clear hgl hb
      refine hK.out _ _ ?_ (fun hS1 => ?_)
      · (first | exact hN | exact hS)
      clear hK K hS; have hS := hS1; clear hS1
      (try simp only [rgp])
    rotate_left
    focus
      rw [if_pos (by rfl)]; refine wp_new_fr rfl ?_; intro g w5 HG hgl hb; have hN := HS3.out _ (bch hS.2.2 hb.out); (try (have q := Lib.hid (own_keep HO.out hb.out); clear HO; have HO := q; clear q)); have HGL := Lib.hid (Nat.le_trans hS.2.2.size hgl.out); clear hgl hb
      refine hK.out _ _ ?_ (fun hS1 => ?_)
      · (first | exact hN | exact hS)
      clear hK K hS; have hS := hS1; clear hS1
      (try simp only [rgp])
      refine rg_one 10 ⟨some 28, .call { callee := .value (.func 87), args := #[.tmp 25, .tmp 27], argTypes := #[49, 80] }, 120, _, _, none⟩ (by kernel_rfl) rfl (fun K hK => ?_)
      go_simp
      (go_at_call 87; (refine (HDC.out _ (bch HBA.out hS.2.2)).mono ?_); rintro r w4 hd; obtain ⟨p4, n4, c4, rfl, ho, hb⟩ := HDF.out _ _ _ hd; have hN := HS3.out _ (bch hS.2.2 hb); (try (have q := Lib.hid (HG.out.keep hb); clear HG; have HG := q; clear q)); have HO := Lib.hid (own_mono ho (show w.heap.size ≤ _ from Nat.le_trans HBA.out.size hS.2.2.size)); clear hb ho hd)
      refine hK.out _ _ ?_ (fun hS1 => ?_)
      · (first | exact hN | exact hS)
      clear hK K hS; have hS := hS1; clear hS1
      (try simp only [rgp])
      refine rgw 11 ⟨some 17, .move (.tmp 28), 120, _, _, none⟩ hS ?_
      refine rgw 12 ⟨some 29, .extract (.tmp 17) 0, 82, _, _, none⟩ hS ?_
      refine rgw 13 ⟨some 30, .extract (.tmp 17) 1, 3, _, _, none⟩ hS ?_
      refine rgw 14 ⟨some 31, .extract (.tmp 17) 2, 36, _, _, none⟩ hS ?_
    rotate_left
  rotate_left 2
  focus
    rw [if_pos (by rfl)]; refine wp_new_fr rfl ?_; intro g w5 HG hgl hb; have hN := HS3.out _ (bch hS.2.2 hb.out); (try (have q := Lib.hid (own_keep HO.out hb.out); clear HO; have HO := q; clear q)); have HGL := Lib.hid (Nat.le_trans hS.2.2.size hgl.out); clear hgl hb
    refine hK.out _ _ ?_ (fun hS1 => ?_)
    · (first | exact hN | exact hS)
    clear hK K hS; have hS := hS1; clear hS1
    (try simp only [rgp])
    refine rg_one 5 ⟨some 23, .call { callee := .value (.func 88), args := #[.tmp 22], argTypes := #[3] }, 3, _, _, none⟩ (by kernel_rfl) rfl (fun K hK => ?_)
    go_simp
    (go_at_call 88; (with_reducible refine (HLF.out _).mono ?_); rintro r w2 ⟨rfl, hb⟩; have hN := HS3.out _ (bch hS.2.2 hb); (try (have q := Lib.hid (HG.out.keep hb); clear HG; have HG := q; clear q)); clear hb)
    refine hK.out _ _ ?_ (fun hS1 => ?_)
    · (first | exact hN | exact hS)
    clear hK K hS; have hS := hS1; clear hS1
    (try simp only [rgp])
    refine rgw 6 ⟨some 24, .binOp .add 3 (.tmp 21) (.tmp 23) 3, 3, _, _, none⟩ hS ?_ (v := .int .i64 (t : Int)) (hy := by intro w hSw; (try dsimp only at hSw); have z := HWT.out; go_simp; (try exact z))
    refine rgw 7 ⟨some 25, .slice 49 (.tmp 19) (some (.tmp 20)) (some (.tmp 24)) none, 49, _, _, none⟩ hS ?_ (v := .slice q l qc) (hy := by intro w hSw; (try dsimp only at hSw); exact (exec_cut_lh (.tmp 19) (.tmp 20) (.tmp 24) rfl ba 832 bc a l rfl rfl (by rw [HTL.out]; rfl) (by rw [HTL.out]; exact HBC.out)).trans (by rw [HSL.out]))
    refine rg_one 10 ⟨some 28, .call { callee := .value (.func 87), args := #[.tmp 25, .tmp 27], argTypes := #[49, 80] }, 120, _, _, none⟩ (by kernel_rfl) rfl (fun K hK => ?_)
    go_simp
    (go_at_call 87; (refine (HDC.out _ (bch HBA.out hS.2.2)).mono ?_); rintro r w4 hd; obtain ⟨p4, n4, c4, rfl, ho, hb⟩ := HDF.out _ _ _ hd; have hN := HS3.out _ (bch hS.2.2 hb); (try (have q := Lib.hid (HG.out.keep hb); clear HG; have HG := q; clear q)); have HO := Lib.hid (own_mono ho (show w.heap.size ≤ _ from Nat.le_trans HBA.out.size hS.2.2.size)); clear hb ho hd)
    refine hK.out _ _ ?_ (fun hS1 => ?_)
    · (first | exact hN | exact hS)
    clear hK K hS; have hS := hS1; clear hS1
    (try simp only [rgp])
    refine rgw 11 ⟨some 17, .move (.tmp 28), 120, _, _, none⟩ hS ?_
    refine rgw 12 ⟨some 29, .extract (.tmp 17) 0, 82, _, _, none⟩ hS ?_
    refine rgw 13 ⟨some 30, .extract (.tmp 17) 1, 3, _, _, none⟩ hS ?_
    refine rgw 14 ⟨some 31, .extract (.tmp 17) 2, 36, _, _, none⟩ hS ?_
  rotate_left
  all_goals
    refine rg_one 16 ⟨none, .store 82 (.tmp 7) (.tmp 29), 0, _, _, none⟩ (by kernel_rfl) rfl (fun K hK => ?_)
    rw [if_pos (by rfl)]; refine wp_put_fr (.tmp 7) (.tmp 29) rfl g HG.out fk fe p4 n4 c4 rfl rfl ?_; intro w6 HF6 HG6; have HO6 := Lib.hid (own_over HO.out HG6.out (fun q hq e => HG.out.ne_own HO.out q hq (Option.some.inj e))); have hN := HS3.out _ (below_over hS.2.2 HG6.out HGL.out hS.2.2.size); clear HG HO HG6
    refine hK.out _ _ ?_ (fun hS1 => ?_)
    · (first | exact hN | exact hS)
    clear hK K hS; have hS := hS1; clear hS1
    (try simp only [Act.put])
    refine rgw 17 ⟨some 8, .assign (.tmp 30), 3, _, _, none⟩ hS ?_
    refine rgw 18 ⟨some 9, .assign (.tmp 31), 36, _, _, none⟩ hS ?_
    refine wpAnyH_done (by kernel_rfl) ?_ _
    have HB6 := Lib.hid hS.2.2
    clear hS
    (try clear hN)
    have HGN := Lib.hid (show wb.heap.size ≠ g from by have := HGL.out; have := HWB.out.1; omega)
    have HA7 := Lib.hid (HA.out.keep (bch HB6.out (Below.refl _ w6).drew))
    have HO7 := Lib.hid (own_keep HO6.out (Below.refl _ w6).drew)
    have HK7 : Hid (∀ w', Below wa.heap.size wa w' → w'.cell? ⟨w.heap.size, 2, none⟩ = some kv) := Lib.hid fun w' h => cell_of_row w' _ 2 _ _ _ ((h.block _ (Array.getElem?_eq_some_iff.1 HK0.out).1).trans HK0.out)
    have HST : Hid (Below wa.heap.size wa w6.drew ∧ FO w6.drew g fk fe (.slice p4 n4 c4)) := Lib.hid ⟨HB6.out.drew, HF6.out.keep (Below.refl _ w6).drew⟩
    rcases hx with ⟨rfl, hm1, hm2, hyes⟩ | ⟨hx0, hno, -⟩
    · obtain ⟨y, hy⟩ : ∃ y, covAt K (a : Int) ((a + m : Nat) : Int) = y := ⟨_, rfl⟩
      have HY := Lib.hid (hyes y hy)
      rw [← HMI.out] at hy
      rw [hy] at HCV
      clear hyes hy
      go_wp2_with fail
      refine wp_region_held_drew (S := (fun w' => Below w.heap.size w w' ∧ w'.cell? ⟨w.heap.size, 2, none⟩ = some kv ∧ FO w' g fk fe (.slice p4 n4 c4))) (by kernel_rfl) ⟨bch HBA.out HST.out.1, HK7.out _ HST.out.1, HST.out.2⟩ (fun hS => ?_)
      refine rgw 0 ⟨some 32, .load 82 (.tmp 7), 82, _, _, none⟩ hS ?_ (hy := by intro w hSw; (try dsimp only at hSw); refine exec_load_fr (.tmp 7) ?_ ?_ hSw.2.2 <;> rfl)
      refine rgw 1 ⟨some 33, .move (.tmp 1), 3, _, _, none⟩ hS ?_
      refine rgw 2 ⟨some 34, .move (.tmp 8), 3, _, _, none⟩ hS ?_
      refine rgw 3 ⟨some 35, .binOp .add 3 (.tmp 33) (.tmp 34) 3, 3, _, _, none⟩ hS ?_ (v := .int .i64 (t2 : Int)) (hy := by intro w hSw; (try dsimp only at hSw); have z := HW2.out; go_simp; (try exact z))
      refine rgw 4 ⟨some 36, .move (.tmp 9), 36, _, _, none⟩ hS ?_
      refine rgw 5 ⟨some 37, .binOp .eql 36 (.tmp 36) (.const (.int .i64 0)) 36, 4, _, _, none⟩ hS ?_
      refine rgw 6 ⟨some 38, .move (.tmp 37), 4, _, _, none⟩ hS ?_
      refine rgw 7 ⟨some 39, .fieldAddr 134 (.tmp 2) 2, 0, _, _, some (6, true)⟩ hS ?_
      refine rgw 8 ⟨some 40, .load 75 (.tmp 39), 75, _, _, some (6, true)⟩ hS ?_
      refine rgw 9 ⟨some 41, .move (.tmp 1), 3, _, _, some (6, true)⟩ hS ?_
      refine rgw 10 ⟨some 42, .move (.tmp 1), 3, _, _, some (6, true)⟩ hS ?_
      refine rgw 11 ⟨some 43, .move (.tmp 8), 3, _, _, some (6, true)⟩ hS ?_
      refine rgw 12 ⟨some 44, .binOp .add 3 (.tmp 42) (.tmp 43) 3, 3, _, _, some (6, true)⟩ hS ?_ (v := .int .i64 (t2 : Int)) (hy := by intro w hSw; (try dsimp only at hSw); have z := HW2.out; go_simp; (try exact z))
      refine rg_one 13 ⟨some 45, .call { callee := .value (.func 89), args := #[.tmp 40, .tmp 41, .tmp 44], argTypes := #[75, 3, 3] }, 4, _, _, some (6, true)⟩ (by kernel_rfl) rfl (fun K hK => ?_)
      go_simp
      (go_at_call 89; (with_reducible refine (HCV.out _ HST.out.1).mono ?_); rintro r w7 ⟨rfl, hb⟩; have hN := (show Below w.heap.size w w7 ∧ w7.cell? ⟨w.heap.size, 2, none⟩ = some kv ∧ FO w7 g fk fe (.slice p4 n4 c4) from ⟨bch hS.1 hb, cell_keep hb hS.2.1, hS.2.2.keep hb⟩); have HA8 := Lib.hid (HA7.out.keep hb); have HO8 := Lib.hid (own_keep HO7.out hb); clear hb)
      refine hK.out _ _ ?_ (fun hS1 => ?_)
      · (first | exact hN | exact hS)
      clear hK K hS; have hS := hS1; clear hS1
      (try simp only [rgp])
      refine rgw 14 ⟨some 46, .pick (.tmp 38) (.tmp 45) (.const (.bool false)), 4, _, _, none⟩ hS ?_
      refine rg_one 15 ⟨none, .store 82 (.tmp 4) (.tmp 32), 0, _, _, none⟩ (by kernel_rfl) rfl (fun K hK => ?_)
      rw [if_pos (by rfl)]; refine wp_put_fr (.tmp 4) (.tmp 32) rfl wb.heap.size HA8.out fk fe p4 n4 c4 rfl rfl ?_; intro w8 HF8 HG8; have hN := (show Below w.heap.size w w8 ∧ w8.cell? ⟨w.heap.size, 2, none⟩ = some kv ∧ FO w8 g fk fe (.slice p4 n4 c4) from ⟨below_over hS.1 HG8.out (Nat.le_of_lt HWB.out.2) hS.1.size, rd_cell_over hS.2.1 HG8.out (Nat.ne_of_lt HWB.out.2), hS.2.2.over HG8.out (Ne.symm HGN.out)⟩); have HO9 := Lib.hid (own_over HO8.out HG8.out (fun q hq e => HA8.out.ne_own HO8.out q hq (Option.some.inj e)))
      refine hK.out _ _ ?_ (fun hS1 => ?_)
      · (first | exact hN | exact hS)
      clear hK K hS; have hS := hS1; clear hS1
      (try simp only [Act.put])
      refine rgw 16 ⟨some 5, .assign (.tmp 35), 3, _, _, none⟩ hS ?_
      refine rgw 17 ⟨some 6, .assign (.tmp 46), 4, _, _, none⟩ hS ?_
      refine wpAnyH_done (by kernel_rfl) ?_ _
      have HB8 := Lib.hid hS.1
      clear hS
      go_wp2
      refine bodyPost_ret_by (results_row_tmp2 rfl _ _ wb.heap.size _ rfl HF8.out.load) rfl ?_
      have hn4 : fd.length = n4 := (il_length .u8 fd).symm.trans (HO9.out.1.trans (Nat.mul_one _))
      subst hn4
      have hyy := HY.out
      cases y with
      | true =>
        rw [if_pos rfl] at hyy
        refine ⟨HB8.out, .inr ⟨by rw [hyy]; show m ≠ 0; omega, p4, c4, by rw [hyy]; show _ = Ending.returned (.tuple #[_, .int .i64 ((a : Int) + (m : Int)), _]); rw [ht2I]; rfl, ?_⟩⟩
        rw [hyy]; exact HO9.out
      | false =>
        rw [if_neg (by decide)] at hyy
        exact ⟨HB8.out, .inl ⟨by rw [hyy], _, _, _, _, _, _, rfl⟩⟩
    · have hx1 : (x == 0) = false := by simpa using hx0
      have HNO := Lib.hid hno
      clear hno
      go_wp2_with fail
      refine wp_region_held_drew (S := (fun w' => Below w.heap.size w w' ∧ FO w' g fk fe (.slice p4 n4 c4))) (by kernel_rfl) ⟨bch HBA.out HST.out.1, HST.out.2⟩ (fun hS => ?_)
      refine rgw 0 ⟨some 32, .load 82 (.tmp 7), 82, _, _, none⟩ hS ?_ (hy := by intro w hSw; (try dsimp only at hSw); refine exec_load_fr (.tmp 7) ?_ ?_ hSw.2 <;> rfl)
      refine rgw 1 ⟨some 33, .move (.tmp 1), 3, _, _, none⟩ hS ?_
      refine rgw 2 ⟨some 34, .move (.tmp 8), 3, _, _, none⟩ hS ?_
      refine rgw 3 ⟨some 35, .binOp .add 3 (.tmp 33) (.tmp 34) 3, 3, _, _, none⟩ hS ?_ (v := .int .i64 (t2 : Int)) (hy := by intro w hSw; (try dsimp only at hSw); have z := HW2.out; go_simp; (try exact z))
      refine rgw 4 ⟨some 36, .move (.tmp 9), 36, _, _, none⟩ hS ?_
      refine rgw 5 ⟨some 37, .binOp .eql 36 (.tmp 36) (.const (.int .i64 0)) 36, 4, _, _, none⟩ hS ?_
      refine rgw 6 ⟨some 38, .move (.tmp 37), 4, _, _, none⟩ hS ?_
      refine rgt 7 (oi := ⟨some 39, .fieldAddr 134 (.tmp 2) 2, 0, _, _, some (6, true)⟩) (v := undef) rfl (.inr ⟨by rfl, rfl⟩) hS ?_
      (try simp only [rgp])
      refine rgt 8 (oi := ⟨some 40, .load 75 (.tmp 39), 75, _, _, some (6, true)⟩) (v := undef) rfl (.inr ⟨by rfl, rfl⟩) hS ?_
      (try simp only [rgp])
      refine rgt 9 (oi := ⟨some 41, .move (.tmp 1), 3, _, _, some (6, true)⟩) (v := undef) rfl (.inr ⟨by rfl, rfl⟩) hS ?_
      (try simp only [rgp])
      refine rgt 10 (oi := ⟨some 42, .move (.tmp 1), 3, _, _, some (6, true)⟩) (v := undef) rfl (.inr ⟨by rfl, rfl⟩) hS ?_
      (try simp only [rgp])
      refine rgt 11 (oi := ⟨some 43, .move (.tmp 8), 3, _, _, some (6, true)⟩) (v := undef) rfl (.inr ⟨by rfl, rfl⟩) hS ?_
      (try simp only [rgp])
      refine rgt 12 (oi := ⟨some 44, .binOp .add 3 (.tmp 42) (.tmp 43) 3, 3, _, _, some (6, true)⟩) (v := undef) rfl (.inr ⟨by rfl, rfl⟩) hS ?_
      (try simp only [rgp])
      refine rgt 13 (oi := ⟨some 45, .call { callee := .value (.func 89), args := #[.tmp 40, .tmp 41, .tmp 44], argTypes := #[75, 3, 3] }, 4, _, _, some (6, true)⟩) (v := undef) rfl (.inr ⟨by rfl, rfl⟩) hS ?_
      (try simp only [rgp])
      refine rgw 14 ⟨some 46, .pick (.tmp 38) (.tmp 45) (.const (.bool false)), 4, _, _, none⟩ hS ?_
      refine rg_one 15 ⟨none, .store 82 (.tmp 4) (.tmp 32), 0, _, _, none⟩ (by kernel_rfl) rfl (fun K hK => ?_)
      rw [if_pos (by rfl)]; refine wp_put_fr (.tmp 4) (.tmp 32) rfl wb.heap.size HA7.out fk fe p4 n4 c4 rfl rfl ?_; intro w8 HF8 HG8; have hN := (show Below w.heap.size w w8 ∧ FO w8 g fk fe (.slice p4 n4 c4) from ⟨below_over hS.1 HG8.out (Nat.le_of_lt HWB.out.2) hS.1.size, hS.2.over HG8.out (Ne.symm HGN.out)⟩)
      refine hK.out _ _ ?_ (fun hS1 => ?_)
      · (first | exact hN | exact hS)
      clear hK K hS; have hS := hS1; clear hS1
      (try simp only [Act.put])
      refine rgw 16 ⟨some 5, .assign (.tmp 35), 3, _, _, none⟩ hS ?_
      refine rgw 17 ⟨some 6, .assign (.tmp 46), 4, _, _, none⟩ hS ?_
      refine wpAnyH_done (by kernel_rfl) ?_ _
      have HB8 := Lib.hid hS.1
      clear hS
      go_wp2
      refine bodyPost_ret_by (results_row_tmp2 rfl _ _ wb.heap.size _ rfl HF8.out.load) rfl ?_
      exact ⟨HB8.out, .inl ⟨by rw [HNO.out], _, _, _, _, _, _, rfl⟩⟩
end Go.Proofs.YtnmplnemnfonfaaGreatDoor
namespace Go.Proofs.YtnmplnemnfonfaaGreatDoor
open Go.RowKit
def YB (w : World) (g : Nat) (zs : List Int) : Prop := w.heap[g]? = some (.cells (il .u8 zs).toArray 5 (0, 0))
theorem YB.keep {w w' : World} {g : Nat} {zs : List Int} (h : YB w g zs) (hb : Below w.heap.size w w') : YB w' g zs := by
  unfold YB at *; rw [hb.block g (Array.getElem?_eq_some_iff.1 h).1]; exact h
theorem YB.over {w w' : World} {g g2 : Nat} {zs : List Int} (h : YB w g zs) (hg : w.grownBy w' (some g2)) (hne : g ≠ g2) : YB w' g zs := by
  unfold YB at *; rw [hg.block g (Array.getElem?_eq_some_iff.1 h).1 (fun e => hne (Option.some.inj e))]; exact h
theorem YB.ri {w : World} {g n : Nat} {zs : List Int} (h : YB w g zs) (hz : zs.length = n) (hn : n ≤ 1000000) : RI .u8 w (.slice (some ⟨g, 0, none⟩) n n) n zs := by
  refine ⟨_, n, rfl, hz, Nat.le_refl _, by omega, fun h => by simp at h, fun _ => ⟨g, 0, rfl, fun j hj => ?_⟩⟩
  rw [Nat.zero_add, cell_of_row w g j _ _ _ h]
  simpa using il_get .u8 zs j (by omega)
theorem below_grown {w0 w w' : World} {B g : Nat} (h : Below B w0 w) (hg : w.grownBy w' (some g)) (hB : B ≤ g) (h0 : B ≤ w.heap.size) : Below B w0 w' :=
  h.grown hg h0 (fun q hq => by obtain rfl := Option.some.inj hq; exact hB)
theorem make_bytes_run (k : Nat) (hk : (k : Int) ≤ 1000000000) (w : World) :
    (Instr.makeSlice 49 (.int .i64 (k : Int)) (.int .i64 (k : Int))).run Tryz.prog w = .ok (.slice (some ⟨w.heap.size, 0, none⟩) k k) (w.alloc (.cells (il .u8 (List.replicate k 0)).toArray 5)) := by
  obtain ⟨i, hi, hz0, hz1, hz2⟩ := info_parts Tryz.info_u8
  have h := run_make (P := Tryz.prog) w 49 5 i _ Tryz.underlying49 hi hz0 .i64 .i64 k k (by omega) (by omega) (by rw [hz2]; omega) (by omega)
  simp only [Int.toNat_natCast, hz1, Nat.mul_one] at h
  rw [h]
  have : madeCells (Value.int .u8 0).cells k = (il .u8 (List.replicate k 0)).toArray := by
    rw [show (Value.int .u8 0).cells = #[.int .u8 0] from rfl, ← Array.toList_inj, toList_madeCells_one]
    simp [il]
  rw [this]
theorem make_row_run (k : Nat) (hk : (k : Int) ≤ 1000000000) (w : World) :
    (Instr.makeSlice 29 (.int .i64 (k : Int)) (.int .i64 (k : Int))).run Tryz.prog w = .ok (.slice (some ⟨w.heap.size, 0, none⟩) k k) (w.alloc (.cells (il .u8 (List.replicate (k * 64) 0)).toArray 92)) := by
  obtain ⟨i, hi, hz0, hz1, hz2⟩ := info_parts sec_parts
  have h := run_make (P := Tryz.prog) w 29 92 i _ Tryz.underlying29 hi hz0 .i64 .i64 k k (by omega) (by omega) (by rw [hz2]; omega) (by omega)
  simp only [Int.toNat_natCast, hz1] at h
  rw [h]
  have : madeCells (Value.agg (sv z64)).cells (k * 64) = (il .u8 (List.replicate (k * 64) 0)).toArray := by
    rw [← Array.toList_inj, made_secs]
  rw [this]
theorem setRow_at {w : World} {g : Nat} {C : Array Value} {t : TypeId} (h : w.heap[g]? = some (.cells C t (0, 0))) (C' : Array Value) : (w.setRow g C').heap[g]? = some (.cells C' t (0, 0)) := setRow_heap w g C C' _ _ h
theorem grown_row (w : World) (g : Nat) (cs : Array Value) : w.grownBy (w.setRow g cs) (some g) :=
  ⟨rfl, rfl, rfl, by simp, fun i _ hne => setRow_other w g i cs (fun e => hne (by rw [e]))⟩
theorem wpl_copy_yb {ops : Array Oper} {rest : List Oper} {o : Oper} {a : Act} {w : World} {Q : Exit → Act → World → Prop} (hgd : o.guard = none) (d s : Operand)
    (ho : o.op = .call { callee := .builtin .copy, args := #[d, s], argTypes := #[49, 49] }) (g off dLen dCap : Nat) (cur : List Int) (hblk : YB w g cur)
    (hd : a.eval d = .slice (some ⟨g, off, none⟩) dLen dCap) (v : Value) (n : Nat) (zs : List Int) (hs : a.eval s = v) (hri : RI .u8 w v n zs) (hnd : n ≤ dLen) (hfit : off + dLen ≤ cur.length)
    (h : ∀ w', Hid (YB w' g (splice cur off zs)) → Hid (w.grownBy w' (some g)) → wpList Tryz.prog ops Q rest (a.put o.dst (goInt (n : Int))) w') : wpList Tryz.prog ops Q (o :: rest) a w := by
  obtain ⟨sp, sCap, rfl, hl, _, _, _, hc⟩ := hri
  have hcl : (il .u8 zs).length = n := by rw [il_length, hl]
  have hmin : Nat.min n dLen = n := Nat.min_eq_left hnd
  by_cases h0 : n = 0
  · subst h0
    obtain rfl : zs = [] := List.eq_nil_of_length_eq_zero hl
    refine wpList_copy_nothing hgd d s 49 49 ho 5 Tryz.underlying49 u8_size1 (some ⟨g, off, none⟩) sp dLen dCap 0 sCap hd hs hmin ?_
    exact h w (Lib.hid (by simpa [splice] using hblk)) (grown_refl _ _)
  · obtain ⟨b, of2, rfl, hcell⟩ := hc (by omega)
    refine wpList_copy_own hgd d s 49 49 ho 5 Tryz.underlying49 u8_size1 g off dLen dCap ⟨b, of2, none⟩ n sCap hd hs (il .u8 cur).toArray 5 hblk (il .u8 zs) (by rw [hcl, hmin]) ?_ (by rw [hcl]; simp [il_length]; omega) (il_one _ _) ?_
    · intro j u hj
      have hjl : j < zs.length := by have := (List.getElem?_eq_some_iff.1 hj).1; rwa [il_length] at this
      rw [il_get _ _ _ hjl] at hj
      rw [Addr.add_mid, hcell j (by omega)]; exact hj
    · rw [hcl]
      refine h _ (Lib.hid ?_) (grown_row _ _ _)
      unfold YB
      rw [← il_splice]
      have := setRow_at hblk ((il .u8 cur).toArray.toList.take off ++ (il .u8 zs ++ (il .u8 cur).toArray.toList.drop (off + n))).toArray
      simpa [splice, hcl] using this
end Go.Proofs.YtnmplnemnfonfaaGreatDoor
namespace Go.Proofs.YtnmplnemnfonfaaGreatDoor
open Go.RowKit
def kl (bs : List Bool) : List Value := bs.map Value.bool
def KB (w : World) (g : Nat) (bs : List Bool) : Prop := w.heap[g]? = some (.cells (kl bs).toArray 4 (0, 0))
theorem kl_length (bs : List Bool) : (kl bs).length = bs.length := by simp [kl]
theorem KB.keep {w w' : World} {g : Nat} {bs : List Bool} (h : KB w g bs) (hb : Below w.heap.size w w') : KB w' g bs := by
  unfold KB at *; rw [hb.block g (Array.getElem?_eq_some_iff.1 h).1]; exact h
theorem KB.over {w w' : World} {g g2 : Nat} {bs : List Bool} (h : KB w g bs) (hg : w.grownBy w' (some g2)) (hne : g ≠ g2) : KB w' g bs := by
  unfold KB at *; rw [hg.block g (Array.getElem?_eq_some_iff.1 h).1 (fun e => hne (Option.some.inj e))]; exact h
theorem yk_ne {w : World} {g g2 : Nat} {zs : List Int} {bs : List Bool} (h : YB w g zs) (k : KB w g2 bs) : g ≠ g2 := by
  intro e; subst e; unfold YB at h; unfold KB at k; rw [h] at k; simp at k
theorem KB.bs {w : World} {g n : Nat} {bs : List Bool} (h : KB w g bs) (hz : bs.length = n) (hn : n ≤ 1000000) : BS w (.slice (some ⟨g, 0, none⟩) n n) n bs := by
  refine ⟨_, n, rfl, by simpa using hz, Nat.le_refl _, by omega, fun h => by simp at h, fun _ => ⟨g, 0, rfl, fun j hj => ?_⟩⟩
  rw [Nat.zero_add, cell_of_row w g j _ _ _ h]
  simp [kl]
theorem kbool_parts : (Tryz.prog.info? 4).map (fun i => (i.zero, i.size, i.bytes)) = some (some (.bool false), 1, 1) := by kernel_rfl
theorem kbool_size : (Tryz.prog.info? 4).map (·.size) = some 1 := by kernel_rfl
theorem make_kbools_run (k : Nat) (hk : (k : Int) ≤ 1000000000) (w : World) :
    (Instr.makeSlice 75 (.int .i64 (k : Int)) (.int .i64 (k : Int))).run Tryz.prog w = .ok (.slice (some ⟨w.heap.size, 0, none⟩) k k) (w.alloc (.cells (kl (List.replicate k false)).toArray 4)) := by
  obtain ⟨i, hi, hz0, hz1, hz2⟩ := info_parts kbool_parts
  have h := run_make (P := Tryz.prog) w 75 4 i _ Tryz.underlying75 hi hz0 .i64 .i64 k k (by omega) (by omega) (by rw [hz2]; omega) (by omega)
  simp only [Int.toNat_natCast, hz1, Nat.mul_one] at h
  rw [h]
  have : madeCells (Value.bool false).cells k = (kl (List.replicate k false)).toArray := by
    rw [show (Value.bool false).cells = #[.bool false] from rfl, ← Array.toList_inj, toList_madeCells_one]
    simp [kl]
  rw [this]
theorem wpl_put_kb {w : World} {ops : Array Oper} {rest : List Oper} {o : Oper} {a : Act} {Q : Exit → Act → World → Prop} (hgd : o.guard = none) (x y : Operand) (ho : o.op = .store 4 x y)
    (g i : Nat) (bs : List Bool) (b : Bool) (h : KB w g bs) (hi : i < bs.length) (hx : a.eval x = .pointer (some ⟨g, i, none⟩)) (hy : a.eval y = .bool b)
    (hK : ∀ w', Hid (KB w' g (bs.set i b)) → Hid (w.grownBy w' (some g)) → wpList Tryz.prog ops Q rest (a.put o.dst undef) w') : wpList Tryz.prog ops Q (o :: rest) a w := by
  refine wpList_plain hgd fun K hk => ?_
  have hc : w.cell? ⟨g, i, none⟩ = some (.bool (bs.getD i false)) := by
    rw [cell_of_row w g i _ _ _ h]; simp [kl, List.getD, hi]
  have hr : (storeVar 4 ⟨g, i, none⟩ (.bool b)).run Tryz.prog w = .ok () (w.setCells g i [.bool b]) := by
    have := run_storeCells_cells (P := Tryz.prog) g i [Value.bool b] 0 w (fun j hj => by simp at hj; subst hj; simp [hc]) (fun j hj => Joins.unfrozen_of_block h _) (fun u hu => by simp at hu; subst hu; rfl)
    obtain ⟨n, hn, hs⟩ := Option.map_eq_some_iff.1 kbool_size
    simp only [Nat.add_zero] at this
    simp [storeVar, sizeOf, typeInfo, hn, show (Value.bool b).cells = #[.bool b] from rfl, hs, this]
  unfold Oper.wp execOp
  simp only [ho, hx, hy, Instr.storeAt, Instr.sureAddr, Sem.run_bind, Sem.run_pure, Result.andThen_ok, hr]
  refine hk _ _ (hK _ ?_ (grown_setCells _ _ _ _))
  unfold KB
  have h1 := heap_setCells g 4 (0, 0) [Value.bool b] i w (kl bs) (by rw [kl_length]; simp; omega) h
  have h2 : splice (kl bs) i [Value.bool b] = kl (bs.set i b) := by
    refine List.ext_getElem? fun q => ?_
    rw [splice_get _ _ _ (by rw [kl_length]; simp; omega)]
    unfold kl
    rw [List.map_set]
    by_cases h3 : q < i
    · rw [if_pos h3, List.getElem?_set_ne (by omega)]
    · rw [if_neg h3]
      by_cases h4 : q = i
      · subst h4
        rw [if_pos (by simp), List.getElem?_set_self (by simpa using hi), Nat.sub_self]; rfl
      · rw [if_neg (by simp; omega), List.getElem?_set_ne (by omega)]
  rwa [h2] at h1
end Go.Proofs.YtnmplnemnfonfaaGreatDoor
namespace Go.Proofs.YtnmplnemnfonfaaGreatDoor
open Go.RowKit
def qF (len i : Nat) : Nat := min (i * 52) len
def qN (len i : Nat) : Nat := min (qF len i + 52) len - qF len i
set_option maxRecDepth 8000 in
set_option maxHeartbeats 800000 in
theorem part_any (a : Option Addr) (len cap i : Nat) (hlc : len ≤ cap) (hl : len ≤ 1000000) (hi : i ≤ 1000) (w : World) :
    Calls Tryz.prog 86 #[.slice a len cap, .int .i64 (i : Int)] w fun e w' => e = .returned (sliced a (qF len i) (qF len i + qN len i) (qF len i + qN len i) 1) ∧ w' = w := by
  have h1 : ((qF len i : Nat) : Int) = min ((i : Int) * 52) (len : Int) := by unfold qF; omega
  have h2 : ((qF len i + qN len i : Nat) : Int) = min (((qF len i : Nat) : Int) + 52) (len : Int) := by unfold qN; have : qF len i ≤ len := by unfold qF; omega
                                                                                                        omega
  generalize qF len i = f at *
  generalize qN len i = n at *
  have hfn : f + n ≤ len := by omega
  rw [h1] at h2
  obtain ⟨v, hv⟩ : ∃ v, sliced a f (f + n) (f + n) 1 = v := ⟨_, rfl⟩
  rw [hv]
  have HV := Lib.hid hv
  clear hv
  by_cases c1 : (len : Int) < (i : Int) * 52
  · have h4 : (len : Int) < len + 52 := by omega
    obtain rfl : f = len := by omega
    obtain rfl : n = 0 := by omega
    clear h1 h2
    go_enter Tryz.func86, Tryz.ntmps86
    go_wp2
    go_ret
    exact ⟨by rw [← HV.out]; simp [sliced], rfl⟩
  · obtain rfl : f = i * 52 := by omega
    by_cases c2 : (len : Int) < (i : Int) * 52 + 52
    · obtain ⟨m, rfl⟩ : ∃ m, len = i * 52 + m := ⟨len - i * 52, by omega⟩
      obtain rfl : n = m := by omega
      clear h1 h2
      by_cases h0 : n = 0
      · subst h0
        go_enter Tryz.func86, Tryz.ntmps86
        go_wp2
        go_ret
        exact ⟨by rw [← HV.out]; simp [sliced], rfl⟩
      · go_enter Tryz.func86, Tryz.ntmps86
        go_wp2
        go_ret
        exact ⟨by rw [← HV.out]; simp [sliced, h0], rfl⟩
    · obtain rfl : n = 52 := by omega
      clear h1 h2
      go_enter Tryz.func86, Tryz.ntmps86
      go_wp2
      go_ret
      exact ⟨by rw [← HV.out]; simp [sliced], rfl⟩
end Go.Proofs.YtnmplnemnfonfaaGreatDoor
