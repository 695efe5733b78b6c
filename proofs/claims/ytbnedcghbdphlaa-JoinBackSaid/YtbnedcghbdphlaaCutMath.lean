/-
  LAYER 14 (cut): where pieces stand (plain mathematics): step by step (pS: the place, fS: how many bytes stand), how many steps (cnt), how many bytes fit (roomI), and why the two agree. No condition.
-/
import Derived.Test.YtbnedcghbdphlaaSpanRef
namespace Go.Proofs.Ytbnedcghbdphlaa
/-- a piece -/
structure PC where
  at_ : Int
  kind : Int
  from_ : Int
  to : Int
deriving DecidableEq
/-- a place, and how many of n bytes stand ahead of it: a piece further -/
def nextS (n : Nat) (s : Nat × Nat) : Nat × Nat := (beginN s.1 + 11 + min (n - s.2) (leftN (beginN s.1) - 11), s.2 + min (n - s.2) (leftN (beginN s.1) - 11))
def stS (a n : Nat) : Nat → Nat × Nat
  | 0 => (a, 0)
  | i + 1 => nextS n (stS a n i)
def pS (a n i : Nat) : Nat := (stS a n i).1
def fS (a n i : Nat) : Nat := (stS a n i).2
def bS (a n i : Nat) : Nat := beginN (pS a n i)
theorem pS_zero (a n : Nat) : pS a n 0 = a := rfl
theorem fS_zero (a n : Nat) : fS a n 0 = 0 := rfl
theorem fS_next (a n i : Nat) : fS a n (i + 1) = fS a n i + min (n - fS a n i) (leftN (bS a n i) - 11) := rfl
theorem pS_next (a n i : Nat) : pS a n (i + 1) = bS a n i + 11 + min (n - fS a n i) (leftN (bS a n i) - 11) := rfl
/-- how many bytes fit from a place on; -1, if none -/
def roomI (a : Nat) : Int := if beginN a = 832 then -1 else (leftN (beginN a) : Int) - 11 + (((832 - beginN a - leftN (beginN a)) / 208 : Nat) : Int) * 197
theorem room_ge (a : Nat) (h : a ≤ 832) : -1 ≤ roomI a := by
  unfold roomI
  rcases begin_room a h with h8 | ⟨h1, _⟩
  · rw [if_pos h8]; omega
  · split
    · omega
    · omega
theorem room_le (a : Nat) (h : a ≤ 832) : roomI a ≤ 832 := by
  have hb := begin_le a h
  have hl := left_le _ hb
  unfold roomI
  split
  · omega
  · omega
/-- a piece's beginning, how much of its block is left behind the head, how much is left to say, and what that makes -/
theorem step_room (a b r k p : Nat) (ha : a ≤ 832) (hb : b = beginN a) (hne : b ≠ 832) (hk : k = min r (leftN b - 11)) (hp : p = b + 11 + k) :
    11 ≤ leftN b ∧ b + leftN b ≤ 832 ∧ p ≤ 832 ∧ (k = r → (r : Int) ≤ roomI a) ∧ (k < r → ((r : Int) ≤ roomI a ↔ ((r - k : Nat) : Int) ≤ roomI p)) := by
  have hbl := begin_le a ha
  have h11 : 11 ≤ leftN b := by
    rcases begin_room a ha with h8 | ⟨h1, _⟩
    · exact absurd h8 (hb ▸ hne)
    · rw [hb]; exact h1
  have hl := left_le b (by omega)
  have e : leftN b = 208 - b % 208 := if_neg hne
  have er : roomI a = (leftN b : Int) - 11 + (((832 - b - leftN b) / 208 : Nat) : Int) * 197 := by
    unfold roomI
    rw [← hb, if_neg hne]
  refine ⟨h11, hl, by omega, fun h => by rw [er]; omega, fun h => ?_⟩
  have hkl : k = leftN b - 11 := by omega
  have hpb : p = b + leftN b := by omega
  have hp208 : p % 208 = 0 := by omega
  have hbp : beginN p = p := if_neg (by omega)
  rw [er]
  unfold roomI
  rw [hbp]
  by_cases h8 : p = 832
  · rw [if_pos h8]; omega
  · rw [if_neg h8]
    have e2 : leftN p = 208 := by
      have : leftN p = 208 - p % 208 := if_neg h8
      omega
    rw [e2]
    omega
def Fit (a n : Nat) : Prop := (n : Int) ≤ roomI a
/-- i pieces stand -/
structure Run (a n i : Nat) : Prop where
  p_le : pS a n i ≤ 832
  p_ge : 11 * i ≤ pS a n i
  f_le : fS a n i ≤ n
  low : ∀ j, 0 < j → j < i → fS a n j < n
  fit : (i = 0 ∨ fS a n i < n) → (Fit a n ↔ ((n - fS a n i : Nat) : Int) ≤ roomI (pS a n i))
  full : 0 < i → fS a n i = n → Fit a n
theorem Run.zero {a n : Nat} (ha : a ≤ 832) : Run a n 0 where
  p_le := ha
  p_ge := by omega
  f_le := Nat.zero_le _
  low := fun j h0 h => by omega
  fit := fun _ => by rw [fS_zero, pS_zero]; exact Iff.rfl
  full := fun h => absurd h (by omega)
theorem Run.begin_le {a n i : Nat} (h : Run a n i) : bS a n i ≤ 832 := Go.Proofs.Ytbnedcghbdphlaa.begin_le _ h.p_le
theorem Run.stop {a n i : Nat} (h : Run a n i) (hi : i = 0 ∨ fS a n i < n) (hb : bS a n i = 832) : ¬ Fit a n := by
  rw [h.fit hi]
  have e : roomI (pS a n i) = -1 := if_pos hb
  rw [e]
  omega
/-- a piece that has room -/
structure Step (a n i : Nat) : Prop where
  l11 : 11 ≤ leftN (bS a n i)
  lle : bS a n i + leftN (bS a n i) ≤ 832
  f_ge : fS a n i ≤ fS a n (i + 1)
  f_le : fS a n (i + 1) ≤ n
  fits : 11 + (fS a n (i + 1) - fS a n i) ≤ leftN (bS a n i)
  p_eq : pS a n (i + 1) = bS a n i + 11 + (fS a n (i + 1) - fS a n i)
  f_eq : fS a n (i + 1) = min (fS a n i + leftN (bS a n i) - 11) n
theorem Run.step {a n i : Nat} (h : Run a n i) (hb : bS a n i ≠ 832) : Step a n i := by
  obtain ⟨h1, h2, _⟩ := step_room (pS a n i) (bS a n i) (n - fS a n i) _ _ h.p_le rfl hb rfl rfl
  have hf := fS_next a n i
  have hp := pS_next a n i
  have hl := h.f_le
  exact ⟨h1, h2, by omega, by omega, by omega, by omega, by omega⟩
theorem Run.next {a n i : Nat} (h : Run a n i) (hi : i = 0 ∨ fS a n i < n) (hb : bS a n i ≠ 832) : Run a n (i + 1) := by
  obtain ⟨h1, h2, h3, h4, h5⟩ := step_room (pS a n i) (bS a n i) (n - fS a n i) _ _ h.p_le rfl hb rfl rfl
  have hf := fS_next a n i
  have hp := pS_next a n i
  rw [← hp] at h3 h5
  have hl := h.f_le
  have hbp : pS a n i ≤ bS a n i := by unfold bS beginN; split <;> omega
  have hpg := h.p_ge
  refine ⟨h3, by omega, by omega, fun j h0 hj => ?_, fun hlt => ?_, fun _ hfull => ?_⟩
  · by_cases hji : j = i
    · subst hji
      rcases hi with rfl | hi
      · omega
      · exact hi
    · exact h.low j h0 (by omega)
  · have hlt : fS a n (i + 1) < n := by omega
    rw [h.fit hi, h5 (by omega), show n - fS a n i - min (n - fS a n i) (leftN (bS a n i) - 11) = n - fS a n (i + 1) from by omega]
  · rw [h.fit hi]
    exact h4 (by omega)
theorem Run.go {a n i : Nat} (h : Run a n i) (hi : i = 0 ∨ fS a n i < n) (hf : Fit a n) : bS a n i ≠ 832 := fun hb => h.stop hi hb hf
/-- so many pieces -/
def Cuts (a n m : Nat) : Prop := 0 < m ∧ fS a n m = n ∧ (∀ j, 0 < j → j < m → fS a n j < n) ∧ ∀ j, j ≤ m → Run a n j
theorem cuts_one {a n m k : Nat} (h : Cuts a n m) (g : Cuts a n k) : m = k := by
  obtain ⟨h1, h2, h3, _⟩ := h
  obtain ⟨g1, g2, g3, _⟩ := g
  rcases Nat.lt_trichotomy m k with h | h | h
  · have := g3 m h1 h; omega
  · exact h
  · have := h3 k g1 h; omega
open Classical in
noncomputable def cnt (a n : Nat) : Nat := if h : ∃ m, Cuts a n m then h.choose else 0
theorem cnt_eq {a n m : Nat} (h : Cuts a n m) : cnt a n = m := by
  have hx : ∃ m, Cuts a n m := ⟨m, h⟩
  unfold cnt
  rw [dif_pos hx]
  exact cuts_one hx.choose_spec h
theorem cuts_from {a n : Nat} (hf : Fit a n) : ∀ (q i : Nat), 833 ≤ q + 11 * i → (i = 0 ∨ fS a n i < n) → (∀ j, j ≤ i → Run a n j) → ∃ m, Cuts a n m
  | 0, i, hq, _, h => by have := (h i (Nat.le_refl _)).p_ge; have := (h i (Nat.le_refl _)).p_le; omega
  | q + 1, i, hq, hi, h => by
    have hr := h i (Nat.le_refl _)
    have hn := hr.next hi (hr.go hi hf)
    have h2 : ∀ j, j ≤ i + 1 → Run a n j := fun j hj => by
      by_cases hji : j = i + 1
      · subst hji; exact hn
      · exact h j (by omega)
    by_cases hlt : fS a n (i + 1) < n
    · exact cuts_from hf q (i + 1) (by omega) (.inr hlt) h2
    · exact ⟨i + 1, by omega, by have := hn.f_le; omega, hn.low, h2⟩
theorem cuts_cnt {a n : Nat} (ha : a ≤ 832) (hf : Fit a n) : Cuts a n (cnt a n) := by
  have h0 : ∀ j, j ≤ 0 → Run a n j := by
    intro j hj
    have e : j = 0 := by omega
    rw [e]
    exact Run.zero ha
  obtain ⟨m, hm⟩ := cuts_from hf 833 0 (by omega) (.inl rfl) h0
  rw [cnt_eq hm]; exact hm
/-- where the walk stops -/
theorem Run.end_ {a n i : Nat} (ha : a ≤ 832) (h : Run a n i) (h0 : 0 < i) (hn : fS a n i = n) : Fit a n ∧ cnt a n = i := by
  have hf := h.full h0 hn
  refine ⟨hf, ?_⟩
  obtain ⟨c1, c2, c3, c4⟩ := cuts_cnt ha hf
  rcases Nat.lt_trichotomy (cnt a n) i with hlt | he | hlt
  · have := h.low _ c1 hlt; omega
  · exact he
  · have := c3 i h0 hlt; omega
def kindN : Bool → Bool → Int
  | true, true => 1
  | true, false => 2
  | false, true => 4
  | false, false => 3
/-- the i-th piece -/
def pcS (a n i : Nat) : PC := ⟨bS a n i, kindN (decide (i = 0)) (decide (fS a n (i + 1) = n)), fS a n i, fS a n (i + 1)⟩
/-- the first i pieces -/
def firstP (a n i : Nat) : List PC := (List.range i).map (pcS a n)
theorem firstP_len (a n i : Nat) : (firstP a n i).length = i := by simp [firstP]
theorem firstP_next (a n i : Nat) : firstP a n i ++ [pcS a n i] = firstP a n (i + 1) := by simp [firstP, List.range_succ]
theorem firstP_get (a n i j : Nat) (h : j < i) : (firstP a n i)[j]? = some (pcS a n j) := by simp [firstP, h]
/-- the reference's pieces, ahead of its last words -/
def pc3 (a n i : Nat) : PC := ⟨bS a n i, 3, fS a n i, fS a n (i + 1)⟩
def firstR (a n i : Nat) : List PC := (List.range i).map (pc3 a n)
theorem firstR_len (a n i : Nat) : (firstR a n i).length = i := by simp [firstR]
theorem firstR_next (a n i : Nat) : firstR a n i ++ [pc3 a n i] = firstR a n (i + 1) := by simp [firstR, List.range_succ]
theorem firstR_get (a n i j : Nat) (h : j < i) : (firstR a n i)[j]? = some (pc3 a n j) := by simp [firstR, h]
theorem last_iff {a n m : Nat} (h : Cuts a n m) {j : Nat} (hj : j < m) : fS a n (j + 1) = n ↔ j + 1 = m := by
  obtain ⟨h1, h2, h3, _⟩ := h
  constructor
  · intro e
    by_cases hlt : j + 1 < m
    · have := h3 (j + 1) (by omega) hlt; omega
    · omega
  · intro e; rw [e]; exact h2
theorem kinds_one {a n : Nat} (h : Cuts a n 1) : firstP a n 1 = [{ pc3 a n 0 with kind := 1 }] := by
  have := (last_iff h (j := 0) (by omega)).2 rfl
  simp [firstP, pcS, pc3, this, kindN]
theorem kinds_more {a n m : Nat} (h : Cuts a n m) (h1 : 1 < m) : firstP a n m = ((firstR a n m).set 0 { pc3 a n 0 with kind := 2 }).set (m - 1) { pc3 a n (m - 1) with kind := 4 } := by
  refine List.ext_getElem? fun j => ?_
  by_cases hj : j < m
  · rw [firstP_get _ _ _ _ hj]
    have hl := last_iff h hj
    by_cases h2 : j = m - 1
    · subst h2
      rw [List.getElem?_set_self (by rw [List.length_set, firstR_len]; exact hj)]
      have h3 : fS a n (m - 1 + 1) = n := hl.2 (by omega)
      have h0 : ¬ (m - 1 = 0) := by omega
      simp only [pcS, pc3, decide_eq_true h3, decide_eq_false h0, kindN]
    · rw [List.getElem?_set_ne (Ne.symm h2)]
      have h3 : ¬ fS a n (j + 1) = n := fun e => h2 (by have := hl.1 e; omega)
      by_cases h0 : j = 0
      · subst h0
        rw [List.getElem?_set_self (by rw [firstR_len]; exact hj)]
        simp only [pcS, pc3, decide_eq_false h3, decide_true, kindN]
      · rw [List.getElem?_set_ne (Ne.symm h0), firstR_get _ _ _ _ hj]
        simp only [pcS, pc3, decide_eq_false h3, decide_eq_false h0, kindN]
  · rw [List.getElem?_eq_none (by rw [firstP_len]; omega), List.getElem?_eq_none (by rw [List.length_set, List.length_set, firstR_len]; omega)]
/-! what Cut tells, of any place and any number -/
def fitI (a n : Int) : Bool := decide (0 ≤ n ∧ n ≤ roomI (nr a))
noncomputable def pcsI (a n : Int) : List PC := if fitI a n = true then firstP (nr a) n.toNat (cnt (nr a) n.toNat) else []
noncomputable def endI (a n : Int) : Nat := if fitI a n = true then pS (nr a) n.toNat (cnt (nr a) n.toNat) else 0
theorem fit_nat (a : Int) (n : Nat) : fitI a n = true ↔ Fit (nr a) n := by unfold fitI Fit; simp
theorem fitI_neg (a n : Int) (h : n < 0) : fitI a n = false := by unfold fitI; rw [decide_eq_false]; omega
theorem told_no {a n : Int} (h : fitI a n = false) : pcsI a n = [] ∧ endI a n = 0 := by unfold pcsI endI; rw [h]; exact ⟨rfl, rfl⟩
theorem told_yes {a : Int} {n m : Nat} (h : Cuts (nr a) n m) (hf : Fit (nr a) n) : fitI a n = true ∧ pcsI a n = firstP (nr a) n m ∧ endI a n = pS (nr a) n m := by
  have h1 := (fit_nat a n).2 hf
  unfold pcsI endI
  rw [h1, if_pos rfl, if_pos rfl, Int.toNat_natCast, cnt_eq h]
  exact ⟨rfl, rfl, rfl⟩
/-- the pieces of a record that fits -/
theorem told_of {a n : Int} (h : fitI a n = true) : ∃ k m : Nat, n = (k : Int) ∧ k ≤ 832 ∧ m ≤ 75 ∧ Cuts (nr a) k m ∧ Fit (nr a) k := by
  have h0 : 0 ≤ n ∧ n ≤ roomI (nr a) := of_decide_eq_true h
  have hr := room_le _ (nr_le a)
  obtain ⟨k, rfl⟩ : ∃ k : Nat, n = (k : Int) := ⟨n.toNat, by omega⟩
  have hf : Fit (nr a) k := h0.2
  have hc := cuts_cnt (nr_le a) hf
  have hl := (hc.2.2.2 _ (Nat.le_refl _)).p_le
  have hg := (hc.2.2.2 _ (Nat.le_refl _)).p_ge
  exact ⟨k, _, rfl, by omega, by omega, hc, hf⟩
end Go.Proofs.Ytbnedcghbdphlaa
