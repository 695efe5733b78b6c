/-
  TEXTS JOINED: CutMath, FR, CutPc, CutCode, CutList, CutGather, CutGo, CutCut. Each one's own words stand at its head.
-/
import Derived.Test.YtjlnceldnbpapaaDoorJSpan
import Derived.Test.YtjlnceldnbpapaaDoorBase
import Derived.Test.YtjlnceldnbpapaaDoorBelow
import Derived.Test.YtjlnceldnbpapaaDoorList
import Derived.Test.YtjlnceldnbpapaaDoorKeep
import Derived.Deep.MidRow
import Derived.Laws.StructEq
import Derived.Lib.MinMax
/-
  LAYER 14 (cut): where pieces stand (plain mathematics): step by step (pS: the place, fS: how many bytes stand), how many steps (cnt), how many bytes fit (roomI), and why the two agree. No condition.
-/
namespace Go.Proofs.YtjlnceldnbpapaaDoor
/-- a piece -/
structure PC where
  at_ : Int
  kind : Int
  from_ : Int
  to : Int
deriving DecidableEq
/-- a place, and how many of n bytes stand ahead of it: a piece further -/
def nextS (n : Nat) (s : Nat × Nat) : Nat × Nat := (beginN s.1 + 11 + min (n - s.2) (leftN (beginN s.1) - 11), s.2 + min (n - s.2) (leftN (beginN s.1) - 11))
def stS (a n : Nat) : Nat → Nat × Nat
  | 0 => (a, 0)
  | i + 1 => nextS n (stS a n i)
def pS (a n i : Nat) : Nat := (stS a n i).1
def fS (a n i : Nat) : Nat := (stS a n i).2
def bS (a n i : Nat) : Nat := beginN (pS a n i)
theorem pS_zero (a n : Nat) : pS a n 0 = a := rfl
theorem fS_zero (a n : Nat) : fS a n 0 = 0 := rfl
theorem fS_next (a n i : Nat) : fS a n (i + 1) = fS a n i + min (n - fS a n i) (leftN (bS a n i) - 11) := rfl
theorem pS_next (a n i : Nat) : pS a n (i + 1) = bS a n i + 11 + min (n - fS a n i) (leftN (bS a n i) - 11) := rfl
/-- how many bytes fit from a place on; -1, if none -/
def roomI (a : Nat) : Int := if beginN a = 832 then -1 else (leftN (beginN a) : Int) - 11 + (((832 - beginN a - leftN (beginN a)) / 208 : Nat) : Int) * 197
theorem room_ge (a : Nat) (h : a ≤ 832) : -1 ≤ roomI a := by
  unfold roomI
  rcases begin_room a h with h8 | ⟨h1, _⟩
  · rw [if_pos h8]; omega
  · split
    · omega
    · omega
theorem room_le (a : Nat) (h : a ≤ 832) : roomI a ≤ 832 := by
  have hb := begin_le a h
  have hl := left_le _ hb
  unfold roomI
  split
  · omega
  · omega
/-- a piece's beginning, how much of its block is left behind the head, how much is left to say, and what that makes -/
theorem step_room (a b r k p : Nat) (ha : a ≤ 832) (hb : b = beginN a) (hne : b ≠ 832) (hk : k = min r (leftN b - 11)) (hp : p = b + 11 + k) :
    11 ≤ leftN b ∧ b + leftN b ≤ 832 ∧ p ≤ 832 ∧ (k = r → (r : Int) ≤ roomI a) ∧ (k < r → ((r : Int) ≤ roomI a ↔ ((r - k : Nat) : Int) ≤ roomI p)) := by
  have hbl := begin_le a ha
  have h11 : 11 ≤ leftN b := by
    rcases begin_room a ha with h8 | ⟨h1, _⟩
    · exact absurd h8 (hb ▸ hne)
    · rw [hb]; exact h1
  have hl := left_le b (by omega)
  have e : leftN b = 208 - b % 208 := if_neg hne
  have er : roomI a = (leftN b : Int) - 11 + (((832 - b - leftN b) / 208 : Nat) : Int) * 197 := by
    unfold roomI
    rw [← hb, if_neg hne]
  refine ⟨h11, hl, by omega, fun h => by rw [er]; omega, fun h => ?_⟩
  have hkl : k = leftN b - 11 := by omega
  have hpb : p = b + leftN b := by omega
  have hp208 : p % 208 = 0 := by omega
  have hbp : beginN p = p := if_neg (by omega)
  rw [er]
  unfold roomI
  rw [hbp]
  by_cases h8 : p = 832
  · rw [if_pos h8]; omega
  · rw [if_neg h8]
    have e2 : leftN p = 208 := by
      have : leftN p = 208 - p % 208 := if_neg h8
      omega
    rw [e2]
    omega
def Fit (a n : Nat) : Prop := (n : Int) ≤ roomI a
/-- i pieces stand -/
structure Run (a n i : Nat) : Prop where
  p_le : pS a n i ≤ 832
  p_ge : 11 * i ≤ pS a n i
  f_le : fS a n i ≤ n
  low : ∀ j, 0 < j → j < i → fS a n j < n
  fit : (i = 0 ∨ fS a n i < n) → (Fit a n ↔ ((n - fS a n i : Nat) : Int) ≤ roomI (pS a n i))
  full : 0 < i → fS a n i = n → Fit a n
theorem Run.zero {a n : Nat} (ha : a ≤ 832) : Run a n 0 where
  p_le := ha
  p_ge := by omega
  f_le := Nat.zero_le _
  low := fun j h0 h => by omega
  fit := fun _ => by rw [fS_zero, pS_zero]; exact Iff.rfl
  full := fun h => absurd h (by omega)
theorem Run.begin_le {a n i : Nat} (h : Run a n i) : bS a n i ≤ 832 := Go.Proofs.YtjlnceldnbpapaaDoor.begin_le _ h.p_le
theorem Run.stop {a n i : Nat} (h : Run a n i) (hi : i = 0 ∨ fS a n i < n) (hb : bS a n i = 832) : ¬ Fit a n := by
  rw [h.fit hi]
  have e : roomI (pS a n i) = -1 := if_pos hb
  rw [e]
  omega
/-- a piece that has room -/
structure Step (a n i : Nat) : Prop where
  l11 : 11 ≤ leftN (bS a n i)
  lle : bS a n i + leftN (bS a n i) ≤ 832
  f_ge : fS a n i ≤ fS a n (i + 1)
  f_le : fS a n (i + 1) ≤ n
  fits : 11 + (fS a n (i + 1) - fS a n i) ≤ leftN (bS a n i)
  p_eq : pS a n (i + 1) = bS a n i + 11 + (fS a n (i + 1) - fS a n i)
  f_eq : fS a n (i + 1) = min (fS a n i + leftN (bS a n i) - 11) n
theorem Run.step {a n i : Nat} (h : Run a n i) (hb : bS a n i ≠ 832) : Step a n i := by
  obtain ⟨h1, h2, _⟩ := step_room (pS a n i) (bS a n i) (n - fS a n i) _ _ h.p_le rfl hb rfl rfl
  have hf := fS_next a n i
  have hp := pS_next a n i
  have hl := h.f_le
  exact ⟨h1, h2, by omega, by omega, by omega, by omega, by omega⟩
theorem Run.next {a n i : Nat} (h : Run a n i) (hi : i = 0 ∨ fS a n i < n) (hb : bS a n i ≠ 832) : Run a n (i + 1) := by
  obtain ⟨h1, h2, h3, h4, h5⟩ := step_room (pS a n i) (bS a n i) (n - fS a n i) _ _ h.p_le rfl hb rfl rfl
  have hf := fS_next a n i
  have hp := pS_next a n i
  rw [← hp] at h3 h5
  have hl := h.f_le
  have hbp : pS a n i ≤ bS a n i := by unfold bS beginN; split <;> omega
  have hpg := h.p_ge
  refine ⟨h3, by omega, by omega, fun j h0 hj => ?_, fun hlt => ?_, fun _ hfull => ?_⟩
  · by_cases hji : j = i
    · subst hji
      rcases hi with rfl | hi
      · omega
      · exact hi
    · exact h.low j h0 (by omega)
  · have hlt : fS a n (i + 1) < n := by omega
    rw [h.fit hi, h5 (by omega), show n - fS a n i - min (n - fS a n i) (leftN (bS a n i) - 11) = n - fS a n (i + 1) from by omega]
  · rw [h.fit hi]
    exact h4 (by omega)
theorem Run.go {a n i : Nat} (h : Run a n i) (hi : i = 0 ∨ fS a n i < n) (hf : Fit a n) : bS a n i ≠ 832 := fun hb => h.stop hi hb hf
/-- so many pieces -/
def Cuts (a n m : Nat) : Prop := 0 < m ∧ fS a n m = n ∧ (∀ j, 0 < j → j < m → fS a n j < n) ∧ ∀ j, j ≤ m → Run a n j
theorem cuts_one {a n m k : Nat} (h : Cuts a n m) (g : Cuts a n k) : m = k := by
  obtain ⟨h1, h2, h3, _⟩ := h
  obtain ⟨g1, g2, g3, _⟩ := g
  rcases Nat.lt_trichotomy m k with h | h | h
  · have := g3 m h1 h; omega
  · exact h
  · have := h3 k g1 h; omega
open Classical in
noncomputable def cnt (a n : Nat) : Nat := if h : ∃ m, Cuts a n m then h.choose else 0
theorem cnt_eq {a n m : Nat} (h : Cuts a n m) : cnt a n = m := by
  have hx : ∃ m, Cuts a n m := ⟨m, h⟩
  unfold cnt
  rw [dif_pos hx]
  exact cuts_one hx.choose_spec h
theorem cuts_from {a n : Nat} (hf : Fit a n) : ∀ (q i : Nat), 833 ≤ q + 11 * i → (i = 0 ∨ fS a n i < n) → (∀ j, j ≤ i → Run a n j) → ∃ m, Cuts a n m
  | 0, i, hq, _, h => by have := (h i (Nat.le_refl _)).p_ge; have := (h i (Nat.le_refl _)).p_le; omega
  | q + 1, i, hq, hi, h => by
    have hr := h i (Nat.le_refl _)
    have hn := hr.next hi (hr.go hi hf)
    have h2 : ∀ j, j ≤ i + 1 → Run a n j := fun j hj => by
      by_cases hji : j = i + 1
      · subst hji; exact hn
      · exact h j (by omega)
    by_cases hlt : fS a n (i + 1) < n
    · exact cuts_from hf q (i + 1) (by omega) (.inr hlt) h2
    · exact ⟨i + 1, by omega, by have := hn.f_le; omega, hn.low, h2⟩
theorem cuts_cnt {a n : Nat} (ha : a ≤ 832) (hf : Fit a n) : Cuts a n (cnt a n) := by
  have h0 : ∀ j, j ≤ 0 → Run a n j := by
    intro j hj
    have e : j = 0 := by omega
    rw [e]
    exact Run.zero ha
  obtain ⟨m, hm⟩ := cuts_from hf 833 0 (by omega) (.inl rfl) h0
  rw [cnt_eq hm]; exact hm
/-- where the walk stops -/
theorem Run.end_ {a n i : Nat} (ha : a ≤ 832) (h : Run a n i) (h0 : 0 < i) (hn : fS a n i = n) : Fit a n ∧ cnt a n = i := by
  have hf := h.full h0 hn
  refine ⟨hf, ?_⟩
  obtain ⟨c1, c2, c3, c4⟩ := cuts_cnt ha hf
  rcases Nat.lt_trichotomy (cnt a n) i with hlt | he | hlt
  · have := h.low _ c1 hlt; omega
  · exact he
  · have := c3 i h0 hlt; omega
def kindN : Bool → Bool → Int
  | true, true => 1
  | true, false => 2
  | false, true => 4
  | false, false => 3
/-- the i-th piece -/
def pcS (a n i : Nat) : PC := ⟨bS a n i, kindN (decide (i = 0)) (decide (fS a n (i + 1) = n)), fS a n i, fS a n (i + 1)⟩
/-- the first i pieces -/
def firstP (a n i : Nat) : List PC := (List.range i).map (pcS a n)
theorem firstP_len (a n i : Nat) : (firstP a n i).length = i := by simp [firstP]
theorem firstP_next (a n i : Nat) : firstP a n i ++ [pcS a n i] = firstP a n (i + 1) := by simp [firstP, List.range_succ]
theorem firstP_get (a n i j : Nat) (h : j < i) : (firstP a n i)[j]? = some (pcS a n j) := by simp [firstP, h]
/-- the reference's pieces, ahead of its last words -/
def pc3 (a n i : Nat) : PC := ⟨bS a n i, 3, fS a n i, fS a n (i + 1)⟩
def firstR (a n i : Nat) : List PC := (List.range i).map (pc3 a n)
theorem firstR_len (a n i : Nat) : (firstR a n i).length = i := by simp [firstR]
theorem firstR_next (a n i : Nat) : firstR a n i ++ [pc3 a n i] = firstR a n (i + 1) := by simp [firstR, List.range_succ]
theorem firstR_get (a n i j : Nat) (h : j < i) : (firstR a n i)[j]? = some (pc3 a n j) := by simp [firstR, h]
theorem last_iff {a n m : Nat} (h : Cuts a n m) {j : Nat} (hj : j < m) : fS a n (j + 1) = n ↔ j + 1 = m := by
  obtain ⟨h1, h2, h3, _⟩ := h
  constructor
  · intro e
    by_cases hlt : j + 1 < m
    · have := h3 (j + 1) (by omega) hlt; omega
    · omega
  · intro e; rw [e]; exact h2
theorem kinds_one {a n : Nat} (h : Cuts a n 1) : firstP a n 1 = [{ pc3 a n 0 with kind := 1 }] := by
  have := (last_iff h (j := 0) (by omega)).2 rfl
  simp [firstP, pcS, pc3, this, kindN]
theorem kinds_more {a n m : Nat} (h : Cuts a n m) (h1 : 1 < m) : firstP a n m = ((firstR a n m).set 0 { pc3 a n 0 with kind := 2 }).set (m - 1) { pc3 a n (m - 1) with kind := 4 } := by
  refine List.ext_getElem? fun j => ?_
  by_cases hj : j < m
  · rw [firstP_get _ _ _ _ hj]
    have hl := last_iff h hj
    by_cases h2 : j = m - 1
    · subst h2
      rw [List.getElem?_set_self (by rw [List.length_set, firstR_len]; exact hj)]
      have h3 : fS a n (m - 1 + 1) = n := hl.2 (by omega)
      have h0 : ¬ (m - 1 = 0) := by omega
      simp only [pcS, pc3, decide_eq_true h3, decide_eq_false h0, kindN]
    · rw [List.getElem?_set_ne (Ne.symm h2)]
      have h3 : ¬ fS a n (j + 1) = n := fun e => h2 (by have := hl.1 e; omega)
      by_cases h0 : j = 0
      · subst h0
        rw [List.getElem?_set_self (by rw [firstR_len]; exact hj)]
        simp only [pcS, pc3, decide_eq_false h3, decide_true, kindN]
      · rw [List.getElem?_set_ne (Ne.symm h0), firstR_get _ _ _ _ hj]
        simp only [pcS, pc3, decide_eq_false h3, decide_eq_false h0, kindN]
  · rw [List.getElem?_eq_none (by rw [firstP_len]; omega), List.getElem?_eq_none (by rw [List.length_set, List.length_set, firstR_len]; omega)]
/-! what Cut tells, of any place and any number -/
def fitI (a n : Int) : Bool := decide (0 ≤ n ∧ n ≤ roomI (nr a))
noncomputable def pcsI (a n : Int) : List PC := if fitI a n = true then firstP (nr a) n.toNat (cnt (nr a) n.toNat) else []
noncomputable def endI (a n : Int) : Nat := if fitI a n = true then pS (nr a) n.toNat (cnt (nr a) n.toNat) else 0
theorem fit_nat (a : Int) (n : Nat) : fitI a n = true ↔ Fit (nr a) n := by unfold fitI Fit; simp
theorem fitI_neg (a n : Int) (h : n < 0) : fitI a n = false := by unfold fitI; rw [decide_eq_false]; omega
theorem told_no {a n : Int} (h : fitI a n = false) : pcsI a n = [] ∧ endI a n = 0 := by unfold pcsI endI; rw [h]; exact ⟨rfl, rfl⟩
theorem told_yes {a : Int} {n m : Nat} (h : Cuts (nr a) n m) (hf : Fit (nr a) n) : fitI a n = true ∧ pcsI a n = firstP (nr a) n m ∧ endI a n = pS (nr a) n m := by
  have h1 := (fit_nat a n).2 hf
  unfold pcsI endI
  rw [h1, if_pos rfl, if_pos rfl, Int.toNat_natCast, cnt_eq h]
  exact ⟨rfl, rfl, rfl⟩
/-- the pieces of a record that fits -/
theorem told_of {a n : Int} (h : fitI a n = true) : ∃ k m : Nat, n = (k : Int) ∧ k ≤ 832 ∧ m ≤ 75 ∧ Cuts (nr a) k m ∧ Fit (nr a) k := by
  have h0 : 0 ≤ n ∧ n ≤ roomI (nr a) := of_decide_eq_true h
  have hr := room_le _ (nr_le a)
  obtain ⟨k, rfl⟩ : ∃ k : Nat, n = (k : Int) := ⟨n.toNat, by omega⟩
  have hf : Fit (nr a) k := h0.2
  have hc := cuts_cnt (nr_le a) hf
  have hl := (hc.2.2.2 _ (Nat.le_refl _)).p_le
  have hg := (hc.2.2.2 _ (Nat.le_refl _)).p_ge
  exact ⟨k, _, rfl, by omega, by omega, hc, hf⟩
end Go.Proofs.YtjlnceldnbpapaaDoor
/-
  A FRAGMENT (layer 13), as a plain thing. No condition.
-/
namespace Go.Proofs.YtjlnceldnbpapaaDoor
/-- a fragment -/
structure FR where
  kind : Int
  epoch : Int
  data : List Int
deriving instance DecidableEq for FR
end Go.Proofs.YtjlnceldnbpapaaDoor
/-
  THE PIECES OF A RECORD, AND THEIR FRAGMENTS (layer 14), as plain things. No condition.
-/
namespace Go.Proofs.YtjlnceldnbpapaaDoor
theorem Cuts.at_ {a n m j : Nat} (hc : Cuts a n m) (hf : Fit a n) (hj : j < m) : Run a n j ∧ Step a n j := by
  have hr := hc.2.2.2 j (by omega)
  have hi : j = 0 ∨ fS a n j < n := by
    by_cases h0 : j = 0
    · exact .inl h0
    · exact .inr (hc.2.2.1 j (by omega) hj)
  exact ⟨hr, hr.step (hr.go hi hf)⟩
/-- which bytes a piece has -/
theorem pc_ok {x n : Int} {i : Nat} {c : PC} (h : (pcsI x n)[i]? = some c) : ∃ l k : Nat, c.from_ = (l : Int) ∧ c.to = ((l + k : Nat) : Int) ∧ ((l + k : Nat) : Int) ≤ n ∧ l + k ≤ 832 := by
  cases hq : fitI x n with
  | false => rw [(told_no hq).1] at h; simp at h
  | true =>
    obtain ⟨k, m, rfl, hk, hm, hc, hf⟩ := told_of hq
    rw [(told_yes hc hf).2.1] at h
    have hi : i < m := by have := (List.getElem?_eq_some_iff.1 h).1; rwa [firstP_len] at this
    rw [firstP_get _ _ _ _ hi] at h
    obtain rfl := Option.some.inj h
    obtain ⟨_, hs⟩ := hc.at_ hf hi
    have h1 := hs.f_ge
    have h2 := hs.f_le
    exact ⟨fS (nr x) k i, fS (nr x) k (i + 1) - fS (nr x) k i, rfl, by show ((fS (nr x) k (i + 1) : Nat) : Int) = _; omega, by omega, by omega⟩
theorem pcs_len (x n : Int) : (pcsI x n).length ≤ 75 := by
  cases hq : fitI x n with
  | false => rw [(told_no hq).1]; simp
  | true =>
    obtain ⟨k, m, rfl, hk, hm, hc, hf⟩ := told_of hq
    rw [(told_yes hc hf).2.1, firstP_len]; exact hm
/-- a piece's fragment -/
def frOf (ep : Int) (zs : List Int) (c : PC) : FR := ⟨c.kind, ep, (zs.drop c.from_.toNat).take (c.to.toNat - c.from_.toNat)⟩
theorem frOf_data {ep : Int} {zs : List Int} {c : PC} {l k : Nat} (h1 : c.from_ = (l : Int)) (h2 : c.to = ((l + k : Nat) : Int)) : frOf ep zs c = ⟨c.kind, ep, (zs.drop l).take k⟩ := by
  unfold frOf
  rw [h1, h2, Int.toNat_natCast, Int.toNat_natCast, Nat.add_sub_cancel_left]
end Go.Proofs.YtjlnceldnbpapaaDoor
/-
  WHAT THE PROGRAM'S OWN kind, Room, Fits OF LAYER 14 (cut) ANSWER. No condition.
-/
namespace Go.Proofs.YtjlnceldnbpapaaDoor
open Go.RowKit
set_option maxRecDepth 8000 in
theorem kind_any (x y : Bool) (w : World) : Calls Tryd.prog 50 #[.bool x, .bool y] w fun e w' => e = .returned (.int .i64 (kindN x y)) ∧ w' = w := by
  cases x <;> cases y <;>
  · go_enter Tryd.func50, Tryd.ntmps50
    go_wp2
    go_ret
    exact ⟨rfl, rfl⟩
set_option maxRecDepth 8000 in
theorem room_any (n : Int) (h : I63 n) (w : World) : Calls Tryd.prog 61 #[.int .i64 n] w fun e w' => e = .returned (.int .i64 (roomI (nr n))) ∧ Below w.heap.size w w' := by
  have hle := nr_le n
  have hbl := begin_le _ hle
  have hll := left_le _ hbl
  have H1 : Hid (∀ w, Calls Tryd.prog 33 #[.int .i64 n] w fun e w' => e = .returned (.int .i64 (beginN (nr n) : Int)) ∧ Below w.heap.size w w') := fun w => begin_any n h w
  have hbr := begin_room _ hle
  obtain ⟨r, hr⟩ : ∃ r, roomI (nr n) = r := ⟨_, rfl⟩
  rw [hr]
  unfold roomI at hr
  generalize nr n = a at *
  generalize beginN a = b at *
  have H2 : Hid (∀ w, Calls Tryd.prog 49 #[.int .i64 (b : Int)] w fun e w' => e = .returned (.int .i64 (leftN b : Int)) ∧ Below w.heap.size w w') := fun w => by
    have := left_any b (by unfold I63; omega) w; rwa [nr_nat _ hbl] at this
  generalize leftN b = l at *
  clear h
  by_cases h8 : b = 832
  · subst h8
    rw [if_pos rfl] at hr
    subst hr
    go_enter Tryd.func61, Tryd.ntmps61
    go_wp2_with (first
      | (go_at_call 33; (with_reducible refine (H1.out _).mono ?_); rintro e w1 ⟨rfl, hb⟩; have HB1 := Lib.hid hb; clear hb))
    go_ret
    exact ⟨rfl, HB1.out⟩
  · rw [if_neg h8] at hr
    have hb8 : ¬ (b : Int) = 832 := by omega
    have hdv : ((832 : Int) - b - l).tdiv 208 = (((832 - b - l) / 208 : Nat) : Int) := by rw [Int.tdiv_eq_ediv_of_nonneg (by omega)]; omega
    obtain ⟨q, hq⟩ : ∃ q, (832 - b - l) / 208 = q := ⟨_, rfl⟩
    rw [hq] at hdv hr
    have hq4 : (q : Int) ≤ 4 := by omega
    have hl11 : (11 : Int) ≤ l := by omega
    have hsum : (b : Int) + l ≤ 832 := by omega
    have HR := Lib.hid hr
    clear hr hq hbr hll
    go_enter Tryd.func61, Tryd.ntmps61
    go_wp2_with (first
      | (go_at_call 33; (with_reducible refine (H1.out _).mono ?_); rintro e w1 ⟨rfl, hb⟩; have HB1 := Lib.hid hb; clear hb)
      | (go_at_call 49; (with_reducible refine (H2.out _).mono ?_); rintro e w2 ⟨rfl, hb⟩; have HB2 := Lib.hid (bch HB1.out hb); clear hb))
    go_ret
    exact ⟨ret_int (by rw [← HR.out]), HB2.out⟩
set_option maxRecDepth 8000 in
theorem fits_any (a n : Int) (ha : I63 a) (w : World) : Calls Tryd.prog 47 #[.int .i64 a, .int .i64 n] w fun e w' => e = .returned (.bool (fitI a n)) ∧ Below w.heap.size w w' := by
  have H1 : Hid (∀ w, Calls Tryd.prog 61 #[.int .i64 a] w fun e w' => e = .returned (.int .i64 (roomI (nr a))) ∧ Below w.heap.size w w') := fun w => room_any a ha w
  by_cases h0 : n < 0
  · rw [fitI_neg a n h0]
    clear ha
    go_enter Tryd.func47, Tryd.ntmps47
    go_wp2
    go_ret
    exact ⟨rfl, Below.refl _ _⟩
  · have h0' : 0 ≤ n := by omega
    have he : fitI a n = decide (n ≤ roomI (nr a)) := by unfold fitI; simp [h0']
    rw [he]
    generalize roomI (nr a) = r at *
    by_cases hc : n ≤ r
    · rw [decide_eq_true hc]
      clear ha he
      go_enter Tryd.func47, Tryd.ntmps47
      go_wp2_with (first
        | (go_at_call 61; (with_reducible refine (H1.out _).mono ?_); rintro e w1 ⟨rfl, hb⟩; have HB1 := Lib.hid hb; clear hb))
      go_ret
      exact ⟨by first | rfl | exact ret_bool (decide_eq_true hc), HB1.out⟩
    · rw [decide_eq_false hc]
      clear ha he
      go_enter Tryd.func47, Tryd.ntmps47
      go_wp2_with (first
        | (go_at_call 61; (with_reducible refine (H1.out _).mono ?_); rintro e w1 ⟨rfl, hb⟩; have HB1 := Lib.hid hb; clear hb))
      go_ret
      exact ⟨by first | rfl | exact ret_bool (decide_eq_false (by omega)), HB1.out⟩
end Go.Proofs.YtjlnceldnbpapaaDoor
/-
  LISTS OF PIECES: where they lie, how one is loaded, whether two are the same; appends to a list that a call makes. No condition.
-/
namespace Go.Proofs.YtjlnceldnbpapaaDoor
open Go.RowKit
abbrev pL (p : PC) : List Value := [.int .i64 p.at_, .int .i64 p.kind, .int .i64 p.from_, .int .i64 p.to]
abbrev pV (p : PC) : Value := .agg #[.int .i64 p.at_, .int .i64 p.kind, .int .i64 p.from_, .int .i64 p.to]
def pF (l : List PC) : List Value := (l.map pL).flatten
theorem pF_length (l : List PC) : (pF l).length = l.length * 4 := by
  have := flat_length 4 (l.map pL) (fun e he => by obtain ⟨o, _, rfl⟩ := List.mem_map.1 he; rfl)
  simpa [pF] using this
theorem pF_snoc (l : List PC) (c : PC) : pF (l ++ [c]) = pF l ++ pL c := by simp [pF]
theorem pF_nil : pF [] = [] := rfl
/-- a slice of pieces -/
def PS (w : World) (v : Value) (l : List PC) : Prop := CS 4 w v l.length (pF l)
theorem PS.kin {w w' : World} (hb : Kin w w') {v : Value} {l : List PC} (h : PS w v l) : PS w' v l := CS.kin hb h
theorem PS.keep {w w' : World} {v : Value} {l : List PC} (h : PS w v l) (hb : Below w.heap.size w w') : PS w' v l := h.kin (Kin.below hb)
theorem PS.form {w : World} {v : Value} {l : List PC} (h : PS w v l) : ∃ a cap, v = .slice a l.length cap ∧ l.length ≤ cap ∧ cap ≤ 9223372036854775807 ∧ (a = none → cap = 0) := CS.form h
theorem PS.at_ {w : World} {a : Option Addr} {n cap : Nat} {l : List PC} (h : PS w (.slice a n cap) l) (i : Nat) (o : PC) (ho : l[i]? = some o) :
    ∃ b off, a = some ⟨b, off, none⟩ ∧ w.rangeAt b (off + i * 4) (pL o) := by
  obtain ⟨hi, _⟩ := List.getElem?_eq_some_iff.1 ho
  have hn : n = l.length := by obtain ⟨_, _, hv, _⟩ := id h; simp at hv; exact hv.2.1
  subst hn
  obtain ⟨b, off, rfl, hc⟩ := CS.at_ h i hi
  refine ⟨b, off, rfl, fun j v hv => ?_⟩
  have hj : j < 4 := (List.getElem?_eq_some_iff.1 hv).1
  have h7 := flat_get 4 (l.map pL) i j (fun e he => by obtain ⟨o, _, rfl⟩ := List.mem_map.1 he; rfl) hj (pL o) (by simp [ho])
  exact ((hc j hj).trans h7).trans hv
theorem PS.own {w : World} {base : Nat} {e : TypeId} {v : Value} {l : List PC} (h : w.ownsRow base e 4 v l.length (pF l)) : PS w v l := CS.own h
theorem PS.nil (w : World) : PS w (.slice none 0 0) [] := ⟨none, 0, rfl, rfl, Nat.le_refl _, by omega, fun _ => rfl, fun h => absurd h (by simp)⟩
/-- the cells of a piece, one by one -/
theorem pc_cells {w : World} {b o : Nat} {c : PC} (h : w.rangeAt b o (pL c)) : w.cell? ⟨b, o, none⟩ = some (.int .i64 c.at_) ∧ w.cell? ⟨b, o + 1, none⟩ = some (.int .i64 c.kind) ∧ w.cell? ⟨b, o + 2, none⟩ = some (.int .i64 c.from_) ∧ w.cell? ⟨b, o + 3, none⟩ = some (.int .i64 c.to) :=
  ⟨h 0 _ rfl, h 1 _ rfl, h 2 _ rfl, h 3 _ rfl⟩
theorem pc_info : (Tryd.prog.info? 60).map (·.size) = some 4 := by kernel_rfl
theorem rangeAt_keep {w w' : World} (hb : Below w.heap.size w w') {b o : Nat} {cs : List Value} (h : w.rangeAt b o cs) : w'.rangeAt b o cs := fun j v hv => cell_keep hb (h j v hv)
theorem exec_load_pc {a : Act} {o : Oper} {w : World} {b off : Nat} {c : PC} (x : Operand) (ho : o.op = .load 60 x) (hx : a.eval x = .pointer (some ⟨b, off, none⟩)) (h : w.rangeAt b off (pL c)) :
    (execOp a.eval o).run Tryd.prog w = .ok (.value (pV c)) w := by
  unfold execOp
  simp only [ho, hx, Instr.loadAt, Instr.sureAddr, Sem.run_bind, Sem.run_pure, Result.andThen_ok, run_loadVar_mid w b off 60 (pL c) _ h Tryd.underlying60 rfl pc_info]
theorem wpl_load_pc {w : World} {ops : Array Oper} {rest : List Oper} {o : Oper} {a : Act} {Q : Exit → Act → World → Prop} (hgd : o.guard = none) {b off : Nat} {c : PC} (x : Operand) (ho : o.op = .load 60 x) (hx : a.eval x = .pointer (some ⟨b, off, none⟩)) (h : w.rangeAt b off (pL c))
    (hk : wpList Tryd.prog ops Q rest (a.put o.dst (pV c)) w) : wpList Tryd.prog ops Q (o :: rest) a w :=
  wpList_load_mid hgd 60 x ho b off hx (pL c) _ h Tryd.underlying60 rfl pc_info hk
set_option linter.unusedSimpArgs false in
theorem run_eq_pc (c d : PC) (w : World) : (Op.equalIn 10000 60 (pV c) (pV d)).run Tryd.prog w = .ok (decide (c = d)) w := by
  have hp : Tryd.prog.stoodInHeld 60 = false := by kernel_rfl
  rw [run_equalIn_struct w 9999 60 _ _ (by simp only [Program.fieldsOf, Tryd.underlying60]) hp]
  simp only [Program.fieldsOf, Tryd.underlying60]
  obtain ⟨k, s, t, u⟩ := c
  obtain ⟨k', s', t', u'⟩ := d
  have e : decide ((⟨k, s, t, u⟩ : PC) = ⟨k', s', t', u'⟩) = (decide (k = k') && (decide (s = s') && (decide (t = t') && decide (u = u')))) := by
    rw [Bool.eq_iff_iff]; simp [PC.mk.injEq]
  rw [e]
  by_cases h1 : k = k'
  · by_cases h2 : s = s'
    · by_cases h3 : t = t'
      · by_cases h4 : u = u'
        · simp [go_sem, h1, h2, h3, h4]
        · simp [go_sem, h1, h2, h3, h4]
      · simp [go_sem, h1, h2, h3]
    · simp [go_sem, h1, h2]
  · simp [go_sem, h1]
theorem run_neq_pc (c d : PC) (w : World) : (binOp .neq 60 (pV c) (pV d)).run Tryd.prog w = .ok (.bool (!decide (c = d))) w := by
  rw [run_neq_struct, run_eq_pc]; rfl
theorem pc_guard : Tryd.prog.eqGuardType Tryd.prog.depth 60 = false := by kernel_rfl
theorem exec_neq_pc {a : Act} {o : Oper} {w : World} {c d : PC} (x y : Operand) (u : TypeId) (ho : o.op = .binOp .neq 60 x y u) (hx : a.eval x = pV c) (hy : a.eval y = pV d) :
    (execOp a.eval o).run Tryd.prog w = .ok (.value (.bool (!decide (c = d)))) w := by
  unfold execOp
  simp only [ho, hx, hy, Sem.run_bind, run_eqGuard_agg w .neq 60 x y _ _ pc_guard, Result.andThen_ok, run_neq_pc, Sem.run_pure]
theorem pc_parts : (Tryd.prog.info? 60).map (fun i => (i.zero, i.size, i.bytes)) = some (some (.agg #[.int .i64 0, .int .i64 0, .int .i64 0, .int .i64 0]), 4, 32) := by kernel_rfl
section
variable {w : World} {ops : Array Oper} {rest : List Oper} {o : Oper} {a : Act} {Q : Exit → Act → World → Prop}
theorem blk_news {g : Nat} {c : PC} (hblk : w.heap[g]? = some (.cells (pL c).toArray 60 (0, 0))) (j : Nat) (u : Value) (hj : (pL c)[j]? = some u) : w.cell? ((⟨g, 0, none⟩ : Addr).add j) = some u := by
  have hc : w.cell? ⟨g, j, none⟩ = some u := by rw [cell_of_row _ g j _ _ _ hblk]; simpa using hj
  by_cases h0 : j = 0
  · subst h0; simpa [Addr.add] using hc
  · simpa [Addr.add, h0] using hc
/-- append of one piece to a row of pieces that the call made -/
theorem wpl_app_pc (hgd : o.guard = none) (s x : Operand)
    (ho : o.op = .call { callee := .builtin .append, args := #[s, x], argTypes := #[46, 46] })
    (base : Nat) (v : Value) (n : Nat) (l : List PC) (hs : a.eval s = v) (hown : Hid (w.ownsRow base 60 4 v n (pF l)))
    (g : Nat) (c : PC) (hx : a.eval x = .slice (some ⟨g, 0, none⟩) 1 1) (hblk : w.heap[g]? = some (.cells (pL c).toArray 60 (0, 0))) (hn : n ≤ 1000000)
    (B : Nat) (W : World) (hb : Hid (Below B W w)) (hB : B ≤ base) (hbase : base ≤ w.heap.size)
    (h : ∀ v' w', Hid (w'.ownsRow base 60 4 v' (n + 1) (pF (l ++ [c]))) → Hid (Below B W w') → Hid (w.grownBy w' v.ownBlock) → wpList Tryd.prog ops Q rest (a.put o.dst v') w') : wpList Tryd.prog ops Q (o :: rest) a w := by
  obtain ⟨i, hi, hz0, hz1, hz2⟩ := info_parts pc_parts
  refine wpList_append_own_wide w hgd s x 46 ho base 60 i _ 4 32 Tryd.underlying46 hi hz0 hz1 hz2 rfl (by omega) v n (pF l) hs hown.out ⟨g, 0, none⟩ 1 1 (pL c) hx (by simp) (blk_news hblk) (by simp [Value.oneCell']) (by unfold maxLen; omega) (by omega) hbase ?_
  intro v' w' h1 h2 _
  exact h v' w' (by rw [pF_snoc]; exact h1) (hb.out.grown h2 (by omega) (fun q hq => by have := (hown.out.lt q hq).1; omega)) h2
/-- the same, in a statement whose order is open -/
theorem wp_app_pc {K : Act → World → Prop} (s x : Operand)
    (ho : o.op = .call { callee := .builtin .append, args := #[s, x], argTypes := #[46, 46] })
    (base : Nat) (v : Value) (n : Nat) (l : List PC) (hs : a.eval s = v) (hown : w.ownsRow base 60 4 v n (pF l))
    (g : Nat) (c : PC) (hx : a.eval x = .slice (some ⟨g, 0, none⟩) 1 1) (hblk : w.heap[g]? = some (.cells (pL c).toArray 60 (0, 0))) (hn : n ≤ 1000000) (hbase : base ≤ w.heap.size)
    (h : ∀ v' w', Hid (w'.ownsRow base 60 4 v' (n + 1) (pF (l ++ [c]))) → Hid (w.grownBy w' v.ownBlock) → K (a.put o.dst v') w') : Oper.wp Tryd.prog o a w K Q := by
  obtain ⟨i, hi, hz0, hz1, hz2⟩ := info_parts pc_parts
  refine wp_append_own_wide w s x 46 ho base 60 i _ 4 32 Tryd.underlying46 hi hz0 hz1 hz2 rfl (by omega) v n (pF l) hs hown ⟨g, 0, none⟩ 1 1 (pL c) hx (by simp) (blk_news hblk) (by simp [Value.oneCell']) (by unfold maxLen; omega) (by omega) hbase ?_
  intro v' w' h1 h2 _
  exact h v' w' (by rw [pF_snoc]; exact h1) h2
end
end Go.Proofs.YtjlnceldnbpapaaDoor
/-
  THE CLOSURE OF Cut (layer 14): it goes on by one piece. GS: where the four variables that it captures lie, and the list under way. No condition.
-/
namespace Go.Proofs.YtjlnceldnbpapaaDoor
open Go.RowKit
/-- the captured variables: the place (g0), from (g1), n (g2), the list (g3); the list's row is the call's own -/
structure GS (B : Nat) (W w : World) (g0 g1 g2 g3 : Nat) (p f n : Int) (v : Value) (m : Nat) (l : List PC) : Prop where
  below : Below B W w
  base : B ≤ W.heap.size
  ge : B ≤ g0 ∧ B ≤ g1 ∧ B ≤ g2 ∧ B ≤ g3
  ne : g0 ≠ g1 ∧ g0 ≠ g2 ∧ g0 ≠ g3 ∧ g1 ≠ g2 ∧ g1 ≠ g3 ∧ g2 ≠ g3
  k0 : w.heap[g0]? = some (.cells #[.int .i64 p] 3 (0, 0))
  k1 : w.heap[g1]? = some (.cells #[.int .i64 f] 3 (0, 0))
  k2 : w.heap[g2]? = some (.cells #[.int .i64 n] 3 (0, 0))
  k3 : w.heap[g3]? = some (.cells #[v] 46 (0, 0))
  own : w.ownsRow B 60 4 v m (pF l)
section
variable {B : Nat} {W w w' : World} {g0 g1 g2 g3 : Nat} {p f n : Int} {v : Value} {m : Nat} {l : List PC}
theorem GS.keep (h : GS B W w g0 g1 g2 g3 p f n v m l) (hb : Below w.heap.size w w') : GS B W w' g0 g1 g2 g3 p f n v m l :=
  have lt {g : Nat} {o : Obj} (hk : w.heap[g]? = some o) : g < w.heap.size := (Array.getElem?_eq_some_iff.1 hk).1
  ⟨h.below.trans (hb.mono (Nat.le_trans h.base h.below.size)), h.base, h.ge, h.ne, (hb.block _ (lt h.k0)).trans h.k0, (hb.block _ (lt h.k1)).trans h.k1, (hb.block _ (lt h.k2)).trans h.k2, (hb.block _ (lt h.k3)).trans h.k3, own_keep h.own hb⟩
theorem GS.cells (h : GS B W w g0 g1 g2 g3 p f n v m l) : w.cell? ⟨g0, 0, none⟩ = some (.int .i64 p) ∧ w.cell? ⟨g1, 0, none⟩ = some (.int .i64 f) ∧ w.cell? ⟨g2, 0, none⟩ = some (.int .i64 n) ∧ w.cell? ⟨g3, 0, none⟩ = some v :=
  ⟨cell_of_row w g0 0 _ _ _ h.k0, cell_of_row w g1 0 _ _ _ h.k1, cell_of_row w g2 0 _ _ _ h.k2, cell_of_row w g3 0 _ _ _ h.k3⟩
theorem GS.frozen (h : GS B W w g0 g1 g2 g3 p f n v m l) : w.frozen? ⟨g0, 0, none⟩ = false ∧ w.frozen? ⟨g1, 0, none⟩ = false ∧ w.frozen? ⟨g3, 0, none⟩ = false :=
  ⟨Joins.unfrozen_of_block h.k0 0, Joins.unfrozen_of_block h.k1 0, Joins.unfrozen_of_block h.k3 0⟩
/-- the list's row is none of the variables -/
theorem own_not {g : Nat} {c : Array Value} {t : TypeId} (hk : w.heap[g]? = some (.cells c t (0, 0))) (ht : t ≠ 60) (h : w.ownsRow B 60 4 v m (pF l)) : some g ≠ v.ownBlock := by
  intro e
  rcases h.2 with ⟨rfl, _⟩ | ⟨q, cap, cur, rfl, _, hcur, _⟩
  · simp [Value.ownBlock] at e
  · simp only [Value.ownBlock, Option.some.injEq] at e
    subst e
    rw [hk] at hcur
    simp only [Option.some.injEq, Obj.cells.injEq] at hcur
    exact ht hcur.2.1
theorem set_apart {g b : Nat} {o : Option Obj} (hk : w.heap[g]? = o) (hne : g ≠ b) (x : Value) : (w.setCell ⟨b, 0, none⟩ x).heap[g]? = o := (heap_setCell_other w ⟨b, 0, none⟩ g x hne).trans hk
theorem grown_set (w : World) (g : Nat) (x : Value) : w.grownBy (w.setCell ⟨g, 0, none⟩ x) (some g) := ⟨rfl, rfl, rfl, by simp, fun i _ hne => heap_setCell_other w ⟨g, 0, none⟩ i x (fun e => hne (by rw [e]))⟩
theorem GS.set0 (h : GS B W w g0 g1 g2 g3 p f n v m l) (p' : Int) : GS B W (w.setCell ⟨g0, 0, none⟩ (.int .i64 p')) g0 g1 g2 g3 p' f n v m l := by
  have hne := h.ne
  exact ⟨bset h.below h.ge.1 h.base 0 _, h.base, h.ge, hne, Joins.block_setCell h.k0 _, set_apart h.k1 (Ne.symm hne.1) _, set_apart h.k2 (Ne.symm hne.2.1) _, set_apart h.k3 (Ne.symm hne.2.2.1) _,
    own_over h.own (grown_set w g0 _) (fun g hg e => own_not h.k0 (by decide) h.own (by rw [hg, e]))⟩
theorem GS.set1 (h : GS B W w g0 g1 g2 g3 p f n v m l) (f' : Int) : GS B W (w.setCell ⟨g1, 0, none⟩ (.int .i64 f')) g0 g1 g2 g3 p f' n v m l := by
  have hne := h.ne
  exact ⟨bset h.below h.ge.2.1 h.base 0 _, h.base, h.ge, hne, set_apart h.k0 hne.1 _, Joins.block_setCell h.k1 _, set_apart h.k2 (Ne.symm hne.2.2.2.1) _, set_apart h.k3 (Ne.symm hne.2.2.2.2.1) _,
    own_over h.own (grown_set w g1 _) (fun g hg e => own_not h.k1 (by decide) h.own (by rw [hg, e]))⟩
/-- the list has grown, and the variable is told -/
theorem GS.turn (h : GS B W w g0 g1 g2 g3 p f n v m l) {v' : Value} {m' : Nat} {l' : List PC} (ho : w'.ownsRow B 60 4 v' m' (pF l')) (hg : w.grownBy w' v.ownBlock) :
    GS B W (w'.setCell ⟨g3, 0, none⟩ v') g0 g1 g2 g3 p f n v' m' l' := by
  have hne := h.ne
  have lt {g : Nat} {o : Obj} (hk : w.heap[g]? = some o) : g < w.heap.size := (Array.getElem?_eq_some_iff.1 hk).1
  have k0 := (hg.block _ (lt h.k0) (own_not h.k0 (by decide) h.own)).trans h.k0
  have k1 := (hg.block _ (lt h.k1) (own_not h.k1 (by decide) h.own)).trans h.k1
  have k2 := (hg.block _ (lt h.k2) (own_not h.k2 (by decide) h.own)).trans h.k2
  have k3 := (hg.block _ (lt h.k3) (own_not h.k3 (by decide) h.own)).trans h.k3
  have hb : Below B W w' := h.below.grown hg (Nat.le_trans h.base h.below.size) (fun q hq => (h.own.lt q hq).1)
  exact ⟨bset hb h.ge.2.2.2 h.base 0 _, h.base, h.ge, hne, set_apart k0 hne.2.2.1 _, set_apart k1 hne.2.2.2.2.1 _, set_apart k2 hne.2.2.2.2.2 _, Joins.block_setCell k3 _,
    own_over ho (grown_set w' g3 _) (fun g hg e => own_not k3 (by decide) ho (by rw [hg, e]))⟩
/-- .. what is seen ahead of that -/
theorem GS.mid (h : GS B W w g0 g1 g2 g3 p f n v m l) (hg : w.grownBy w' v.ownBlock) : w'.cell? ⟨g0, 0, none⟩ = some (.int .i64 p) ∧ w'.cell? ⟨g1, 0, none⟩ = some (.int .i64 f) ∧ w'.cell? ⟨g2, 0, none⟩ = some (.int .i64 n) ∧ w'.cell? ⟨g3, 0, none⟩ = some v ∧ w'.frozen? ⟨g3, 0, none⟩ = false := by
  have lt {g : Nat} {o : Obj} (hk : w.heap[g]? = some o) : g < w.heap.size := (Array.getElem?_eq_some_iff.1 hk).1
  have k0 := (hg.block _ (lt h.k0) (own_not h.k0 (by decide) h.own)).trans h.k0
  have k1 := (hg.block _ (lt h.k1) (own_not h.k1 (by decide) h.own)).trans h.k1
  have k2 := (hg.block _ (lt h.k2) (own_not h.k2 (by decide) h.own)).trans h.k2
  have k3 := (hg.block _ (lt h.k3) (own_not h.k3 (by decide) h.own)).trans h.k3
  exact ⟨cell_of_row w' g0 0 _ _ _ k0, cell_of_row w' g1 0 _ _ _ k1, cell_of_row w' g2 0 _ _ _ k2, cell_of_row w' g3 0 _ _ _ k3, Joins.unfrozen_of_block k3 0⟩
end
end Go.Proofs.YtjlnceldnbpapaaDoor
/-
  THE CLOSURE OF Cut (layer 14), walked: it lays one piece more, and tells whether some bytes are left. A piece must have room.
-/
namespace Go.Proofs.YtjlnceldnbpapaaDoor
open Go.RowKit
theorem dec_cast (i : Nat) : decide ((i : Int) = 0) = decide (i = 0) := by rw [Bool.eq_iff_iff]; simp
theorem dec_cast2 (x y : Nat) : decide ((x : Int) = (y : Int)) = decide (x = y) := by rw [Bool.eq_iff_iff, decide_eq_true_iff, decide_eq_true_iff]; omega
set_option maxRecDepth 8000 in
set_option maxHeartbeats 4000000 in
theorem gather_any (B : Nat) (W w : World) (g0 g1 g2 g3 : Nat) (p : Int) (v : Value) (a n i : Nat) (hp : I63 p) (hpn : nr p = pS a n i) (hs : Step a n i) (hn : n ≤ 832) (hi : i ≤ 1000)
    (h : GS B W w g0 g1 g2 g3 p (fS a n i : Nat) (n : Nat) v i (firstP a n i)) :
    Calls Tryd.prog 48 #[.pointer (some ⟨g0, 0, none⟩), .pointer (some ⟨g1, 0, none⟩), .pointer (some ⟨g2, 0, none⟩), .pointer (some ⟨g3, 0, none⟩)] w fun e w' =>
      e = .returned (.bool (decide (fS a n (i + 1) < n))) ∧ ∃ v', GS B W w' g0 g1 g2 g3 (pS a n (i + 1) : Nat) (fS a n (i + 1) : Nat) (n : Nat) v' (i + 1) (firstP a n (i + 1)) := by
  have hb1 : beginN (nr p) = bS a n i := by rw [hpn]; rfl
  have H1 : Hid (∀ w, Calls Tryd.prog 33 #[.int .i64 p] w fun e w' => e = .returned (.int .i64 (bS a n i : Int)) ∧ Below w.heap.size w w') := fun w => by
    have := begin_any p hp w; rwa [hb1] at this
  obtain ⟨s1, s2, s3, s4, s5, s6, s7⟩ := hs
  have H2 : Hid (∀ w, Calls Tryd.prog 49 #[.int .i64 (bS a n i : Int)] w fun e w' => e = .returned (.int .i64 (leftN (bS a n i) : Int)) ∧ Below w.heap.size w w') := fun w => by
    have := left_any (bS a n i) (by unfold I63; omega) w; rwa [nr_nat _ (by omega)] at this
  have HPC : Hid (pcS a n i = ⟨bS a n i, kindN (decide (i = 0)) (decide (fS a n (i + 1) = n)), fS a n i, fS a n (i + 1)⟩) := rfl
  have HFN := Lib.hid (firstP_next a n i)
  obtain ⟨c, hc⟩ : ∃ c, pcS a n i = c := ⟨_, rfl⟩
  rw [hc] at HPC HFN
  clear hc hpn hb1
  generalize bS a n i = b at *
  generalize fS a n (i + 1) = f1 at *
  generalize fS a n i = f at *
  generalize pS a n (i + 1) = p1 at *
  generalize leftN b = lf at *
  generalize firstP a n (i + 1) = l1 at *
  generalize firstP a n i = l0 at *
  obtain ⟨va, vc, rfl⟩ := own_form h.own
  have HG := Lib.hid h
  obtain ⟨c0, c1, c2, c3⟩ := h.cells
  obtain ⟨z0, z1, z3⟩ := h.frozen
  clear h
  have HMIN : Hid (min ((f : Int) + lf - 11) n = f1) := Lib.hid (by omega)
  have HW1 : Hid (IntKind.i64.wrap ((f : Int) + lf) = (f : Int) + lf) := Lib.hid (IntWalk.i64_in _ (by omega))
  have HW2 : Hid (IntKind.i64.wrap ((f : Int) + lf - 11) = (f : Int) + lf - 11) := Lib.hid (IntWalk.i64_in _ (by omega))
  have hbl : (b : Int) ≤ 821 := by omega
  have hf1 : (f1 : Int) ≤ 832 := by omega
  have hff : (f : Int) ≤ f1 := by omega
  have HP1 : Hid ((b : Int) + 11 + f1 - f = p1) := Lib.hid (by omega)
  clear s1 s2 s3 s4 s5 s6 s7 hn
  go_enter Tryd.func48, Tryd.ntmps48
  go_wp2_with (first
    | (go_at_call 33; (with_reducible refine (H1.out _).mono ?_); rintro e w1 ⟨rfl, hb⟩; have HG1 := Lib.hid (HG.out.keep hb); obtain ⟨d0, d1, d2, d3⟩ := HG1.out.cells; obtain ⟨y0, y1, y3⟩ := HG1.out.frozen; clear hb))
  obtain ⟨w2, hw2⟩ : ∃ q, w1.setCell ⟨g0, 0, none⟩ (.int .i64 (b : Int)) = q := ⟨_, rfl⟩
  rw [hw2]
  have HG2 : Hid (GS B W w2 g0 g1 g2 g3 b f n (.slice va i vc) i l0) := Lib.hid (by rw [← hw2]; exact HG1.out.set0 b)
  clear hw2 c0 c1 c2 c3 z0 z1 z3 d0 d1 d2 d3 y0 y1 y3 HG HG1 H1
  refine wp_region_held_drew (S := (fun w' => w'.cell? ⟨g0, 0, none⟩ = some (.int .i64 (b : Int)) ∧ w'.cell? ⟨g1, 0, none⟩ = some (.int .i64 (f : Int)) ∧ w'.cell? ⟨g2, 0, none⟩ = some (.int .i64 (n : Int)))) (by kernel_rfl) (let c := (HG2.out.keep ((Below.refl _ _).drew)).cells; ⟨c.1, c.2.1, c.2.2.1⟩) (fun hS => ?_)
  refine wpAnyH_take (i := 0) (oi := ({ dst := some 8, op := Op.load 3 (Operand.tmp 1), type := 3, pos := "cut.go:21", after := #[], guard := none } : Oper)) (v := ?_) rfl (by kernel_rfl) (by kernel_rfl) (by kernel_rfl) (fun _ _ _ h => h) (Or.inl ⟨by rfl, ?_⟩) hS ?_
  rotate_left
  · (intro w hSw; (try dsimp only at hSw); go_simp; try with_reducible rfl)
  (try simp only [Act.put, List.setIfInBounds_toArray, List.set_cons_zero, List.set_cons_succ])
  refine wpAnyH_take (i := 1) (oi := ({ dst := some 9, op := Op.load 3 (Operand.tmp 0), type := 3, pos := "cut.go:21", after := #[], guard := none } : Oper)) (v := ?_) rfl (by kernel_rfl) (by kernel_rfl) (by kernel_rfl) (fun _ _ _ h => h) (Or.inl ⟨by rfl, ?_⟩) hS ?_
  rotate_left
  · (intro w hSw; (try dsimp only at hSw); go_simp; try with_reducible rfl)
  (try simp only [Act.put, List.setIfInBounds_toArray, List.set_cons_zero, List.set_cons_succ])
  refine wpAnyH_take (i := 5) (oi := ({ dst := some 13, op := Op.load 3 (Operand.tmp 2), type := 3, pos := "cut.go:21", after := #[], guard := none } : Oper)) (v := ?_) rfl (by kernel_rfl) (by kernel_rfl) (by kernel_rfl) (fun _ _ _ h => h) (Or.inl ⟨by rfl, ?_⟩) hS ?_
  rotate_left
  · (intro w hSw; (try dsimp only at hSw); go_simp; try with_reducible rfl)
  (try simp only [Act.put, List.setIfInBounds_toArray, List.set_cons_zero, List.set_cons_succ])
  refine rg_one 2 ({ dst := some 10, op := Op.call { callee := Callee.value (Operand.func 49), args := #[Operand.tmp 9], argTypes := #[3] }, type := 3, pos := "cut.go:21", after := #[{ on := 1, ground := Ground.data }], guard := none } : Oper) (by kernel_rfl) rfl (fun K hK => ?_)
  go_simp
  (go_at_call 49; (with_reducible refine (H2.out _).mono ?_); rintro e w3 ⟨rfl, hb⟩; have HG3 := Lib.hid ((HG2.out.keep ((Below.refl _ _).drew)).keep hb); have hN := (let c := HG3.out.cells; (⟨c.1, c.2.1, c.2.2.1⟩ : w3.cell? ⟨g0, 0, none⟩ = some (.int .i64 (b : Int)) ∧ w3.cell? ⟨g1, 0, none⟩ = some (.int .i64 (f : Int)) ∧ w3.cell? ⟨g2, 0, none⟩ = some (.int .i64 (n : Int)))); clear hb)
  refine hK.out _ _ ?_ (fun hS1 => ?_)
  · (exact hN)
  clear hK K hS; have hS := hS1; clear hS1
  (try simp only [Act.put, List.setIfInBounds_toArray, List.set_cons_zero, List.set_cons_succ])
  refine wpAnyH_take (i := 3) (oi := ({ dst := some 11, op := Op.binOp BinOp.add 3 (Operand.tmp 8) (Operand.tmp 10) 3, type := 3, pos := "cut.go:21", after := #[{ on := 0, ground := Ground.data }, { on := 2, ground := Ground.data }], guard := none } : Oper)) (v := .int .i64 ((f : Int) + lf)) rfl (by kernel_rfl) (by kernel_rfl) (by kernel_rfl) (fun _ _ _ h => h) (Or.inl ⟨by rfl, ?_⟩) hS ?_
  · (intro w hSw; (try dsimp only at hSw); have z := HW1.out; go_simp; (try exact z))
  (try simp only [Act.put, List.setIfInBounds_toArray, List.set_cons_zero, List.set_cons_succ])
  refine wpAnyH_take (i := 4) (oi := ({ dst := some 12, op := Op.binOp BinOp.sub 3 (Operand.tmp 11) (Operand.const (Value.int IntKind.i64 11)) 3, type := 3, pos := "cut.go:21", after := #[{ on := 3, ground := Ground.data }], guard := none } : Oper)) (v := .int .i64 ((f : Int) + lf - 11)) rfl (by kernel_rfl) (by kernel_rfl) (by kernel_rfl) (fun _ _ _ h => h) (Or.inl ⟨by rfl, ?_⟩) hS ?_
  · (intro w hSw; (try dsimp only at hSw); have z := HW2.out; go_simp; (try exact z))
  (try simp only [Act.put, List.setIfInBounds_toArray, List.set_cons_zero, List.set_cons_succ])
  refine wpAnyH_take (i := 6) (oi := ({ dst := some 14, op := Op.call { callee := Callee.builtin Builtin.min, args := #[Operand.tmp 12, Operand.tmp 13], argTypes := #[3, 3] }, type := 3, pos := "cut.go:21", after := #[{ on := 4, ground := Ground.data }, { on := 5, ground := Ground.data }], guard := none } : Oper)) (v := .int .i64 (f1 : Int)) rfl (by kernel_rfl) (by kernel_rfl) (by kernel_rfl) (fun _ _ _ h => h) (Or.inl ⟨by rfl, ?_⟩) hS ?_
  · (intro w hSw; (try dsimp only at hSw); have z := HMIN.out; go_simp; (try exact z))
  (try simp only [Act.put, List.setIfInBounds_toArray, List.set_cons_zero, List.set_cons_succ])
  refine wpAnyH_take (i := 7) (oi := ({ dst := some 5, op := Op.assign (Operand.tmp 14), type := 3, pos := "cut.go:21", after := #[{ on := 6, ground := Ground.data }, { on := 2, ground := Ground.chain }, { on := 0, ground := Ground.phase }, { on := 1, ground := Ground.phase }, { on := 2, ground := Ground.phase }, { on := 3, ground := Ground.phase }, { on := 4, ground := Ground.phase }, { on := 5, ground := Ground.phase }, { on := 6, ground := Ground.phase }], guard := none } : Oper)) (v := ?_) rfl (by kernel_rfl) (by kernel_rfl) (by kernel_rfl) (fun _ _ _ h => h) (Or.inl ⟨by rfl, ?_⟩) hS ?_
  rotate_left
  · (intro w hSw; (try dsimp only at hSw); go_simp; try with_reducible rfl)
  (try simp only [Act.put, List.setIfInBounds_toArray, List.set_cons_zero, List.set_cons_succ])
  refine wpAnyH_done (by kernel_rfl) ?_ _
  clear hS hN HG2 H2
  have HG4 := Lib.hid (HG3.out.keep ((Below.refl _ _).drew))
  have e3 := HG3.out.cells.2.2.2
  have d3 := HG4.out.cells.2.2.2
  obtain ⟨kd, hkd⟩ : ∃ kd, kindN (decide (i = 0)) (decide (f1 = n)) = kd := ⟨_, rfl⟩
  have HK : Hid (∀ w, Calls Tryd.prog 50 #[.bool (decide (i = 0)), .bool (decide (f1 = n))] w fun e w' => e = .returned (.int .i64 kd) ∧ w' = w) := fun w => by rw [← hkd]; exact kind_any _ _ w
  rw [hkd] at HPC
  clear hkd
  go_wp2_with fail
  refine wp_region_held_drew (S := (fun w' => w'.cell? ⟨g0, 0, none⟩ = some (.int .i64 (b : Int)) ∧ w'.cell? ⟨g1, 0, none⟩ = some (.int .i64 (f : Int)) ∧ w'.cell? ⟨g2, 0, none⟩ = some (.int .i64 (n : Int)))) (by kernel_rfl) (let c := HG4.out.cells; ⟨c.1, c.2.1, c.2.2.1⟩) (fun hS => ?_)
  refine wpAnyH_take (i := 1) (oi := ({ dst := some 16, op := Op.load 3 (Operand.tmp 0), type := 3, pos := "cut.go:22", after := #[], guard := none } : Oper)) (v := ?_) rfl (by kernel_rfl) (by kernel_rfl) (by kernel_rfl) (fun _ _ _ h => h) (Or.inl ⟨by rfl, ?_⟩) hS ?_
  rotate_left
  · (intro w hSw; (try dsimp only at hSw); go_simp; try with_reducible rfl)
  (try simp only [Act.put, List.setIfInBounds_toArray, List.set_cons_zero, List.set_cons_succ])
  refine wpAnyH_take (i := 5) (oi := ({ dst := some 20, op := Op.move (Operand.tmp 5), type := 3, pos := "cut.go:22", after := #[], guard := none } : Oper)) (v := ?_) rfl (by kernel_rfl) (by kernel_rfl) (by kernel_rfl) (fun _ _ _ h => h) (Or.inl ⟨by rfl, ?_⟩) hS ?_
  rotate_left
  · (intro w hSw; (try dsimp only at hSw); go_simp; try with_reducible rfl)
  (try simp only [Act.put, List.setIfInBounds_toArray, List.set_cons_zero, List.set_cons_succ])
  refine wpAnyH_take (i := 6) (oi := ({ dst := some 21, op := Op.load 3 (Operand.tmp 2), type := 3, pos := "cut.go:22", after := #[], guard := none } : Oper)) (v := ?_) rfl (by kernel_rfl) (by kernel_rfl) (by kernel_rfl) (fun _ _ _ h => h) (Or.inl ⟨by rfl, ?_⟩) hS ?_
  rotate_left
  · (intro w hSw; (try dsimp only at hSw); go_simp; try with_reducible rfl)
  (try simp only [Act.put, List.setIfInBounds_toArray, List.set_cons_zero, List.set_cons_succ])
  refine wpAnyH_take (i := 7) (oi := ({ dst := some 22, op := Op.binOp BinOp.eql 3 (Operand.tmp 20) (Operand.tmp 21) 3, type := 4, pos := "cut.go:22", after := #[{ on := 5, ground := Ground.data }, { on := 6, ground := Ground.data }], guard := none } : Oper)) (v := .bool (decide (f1 = n))) rfl (by kernel_rfl) (by kernel_rfl) (by kernel_rfl) (fun _ _ _ h => h) (Or.inl ⟨by rfl, ?_⟩) hS ?_
  · (intro w hSw; (try dsimp only at hSw); have z := dec_cast2 f1 n; go_simp; (try exact z))
  (try simp only [Act.put, List.setIfInBounds_toArray, List.set_cons_zero, List.set_cons_succ])
  refine wpAnyH_take (i := 9) (oi := ({ dst := some 24, op := Op.load 3 (Operand.tmp 1), type := 3, pos := "cut.go:22", after := #[], guard := none } : Oper)) (v := ?_) rfl (by kernel_rfl) (by kernel_rfl) (by kernel_rfl) (fun _ _ _ h => h) (Or.inl ⟨by rfl, ?_⟩) hS ?_
  rotate_left
  · (intro w hSw; (try dsimp only at hSw); go_simp; try with_reducible rfl)
  (try simp only [Act.put, List.setIfInBounds_toArray, List.set_cons_zero, List.set_cons_succ])
  refine wpAnyH_take (i := 10) (oi := ({ dst := some 25, op := Op.move (Operand.tmp 5), type := 3, pos := "cut.go:22", after := #[], guard := none } : Oper)) (v := ?_) rfl (by kernel_rfl) (by kernel_rfl) (by kernel_rfl) (fun _ _ _ h => h) (Or.inl ⟨by rfl, ?_⟩) hS ?_
  rotate_left
  · (intro w hSw; (try dsimp only at hSw); go_simp; try with_reducible rfl)
  (try simp only [Act.put, List.setIfInBounds_toArray, List.set_cons_zero, List.set_cons_succ])
  refine rg_both 0 2 ({ dst := some 15, op := Op.load 46 (Operand.tmp 3), type := 46, pos := "cut.go:22", after := #[], guard := none } : Oper) ({ dst := some 17, op := Op.load 46 (Operand.tmp 3), type := 46, pos := "cut.go:22", after := #[], guard := none } : Oper) (by kernel_rfl) rfl rfl (fun K hK => ?_) (fun K hK => ?_)
  · skip
    go_simp
    refine hK.out _ _ ?_ (fun hS1 => ?_)
    · (first | exact hN | exact hS)
    clear hK K hS; have hS := hS1; clear hS1
    (try simp only [Act.put, List.setIfInBounds_toArray, List.set_cons_zero, List.set_cons_succ])
    refine rg_one 2 ({ dst := some 17, op := Op.load 46 (Operand.tmp 3), type := 46, pos := "cut.go:22", after := #[], guard := none } : Oper) (by kernel_rfl) rfl (fun K hK => ?_)
    go_simp
    refine hK.out _ _ ?_ (fun hS1 => ?_)
    · (first | exact hN | exact hS)
    clear hK K hS; have hS := hS1; clear hS1
    (try simp only [Act.put, List.setIfInBounds_toArray, List.set_cons_zero, List.set_cons_succ])
    refine wpAnyH_take (i := 3) (oi := ({ dst := some 18, op := Op.call { callee := Callee.builtin Builtin.len, args := #[Operand.tmp 17], argTypes := #[46] }, type := 3, pos := "cut.go:22", after := #[{ on := 2, ground := Ground.data }], guard := none } : Oper)) (v := ?_) rfl (by kernel_rfl) (by kernel_rfl) (by kernel_rfl) (fun _ _ _ h => h) (Or.inl ⟨by rfl, ?_⟩) hS ?_
    rotate_left
    · (intro w hSw; (try dsimp only at hSw); go_simp; try with_reducible rfl)
    (try simp only [Act.put, List.setIfInBounds_toArray, List.set_cons_zero, List.set_cons_succ])
    refine wpAnyH_take (i := 4) (oi := ({ dst := some 19, op := Op.binOp BinOp.eql 3 (Operand.tmp 18) (Operand.const (Value.int IntKind.i64 0)) 3, type := 4, pos := "cut.go:22", after := #[{ on := 3, ground := Ground.data }], guard := none } : Oper)) (v := .bool (decide (i = 0))) rfl (by kernel_rfl) (by kernel_rfl) (by kernel_rfl) (fun _ _ _ h => h) (Or.inl ⟨by rfl, ?_⟩) hS ?_
    · (intro w hSw; (try dsimp only at hSw); have z := dec_cast i; go_simp; (try exact z))
    (try simp only [Act.put, List.setIfInBounds_toArray, List.set_cons_zero, List.set_cons_succ])
    refine rg_one 8 ({ dst := some 23, op := Op.call { callee := Callee.value (Operand.func 50), args := #[Operand.tmp 19, Operand.tmp 22], argTypes := #[4, 4] }, type := 3, pos := "cut.go:22", after := #[{ on := 4, ground := Ground.data }, { on := 7, ground := Ground.data }], guard := none } : Oper) (by kernel_rfl) rfl (fun K hK => ?_)
    go_simp
    (go_at_call 50; (with_reducible refine (HK.out _).mono ?_); rintro e w' ⟨rfl, rfl⟩)
    refine hK.out _ _ ?_ (fun hS1 => ?_)
    · (first | exact hN | exact hS)
    clear hK K hS; have hS := hS1; clear hS1
    (try simp only [Act.put, List.setIfInBounds_toArray, List.set_cons_zero, List.set_cons_succ])
    refine wpAnyH_take (i := 11) (oi := ({ dst := some 26, op := Op.build 60 #[(0, Operand.tmp 16), (1, Operand.tmp 23), (2, Operand.tmp 24), (3, Operand.tmp 25)], type := 60, pos := "cut.go:22", after := #[{ on := 1, ground := Ground.data }, { on := 8, ground := Ground.data }, { on := 9, ground := Ground.data }, { on := 10, ground := Ground.data }], guard := none } : Oper)) (v := .agg #[.int .i64 (b : Int), .int .i64 kd, .int .i64 (f : Int), .int .i64 (f1 : Int)]) rfl (by kernel_rfl) (by kernel_rfl) (by kernel_rfl) (fun _ _ _ h => h) (Or.inl ⟨by rfl, ?_⟩) hS ?_
    · (intro w hSw; (try dsimp only at hSw); go_simp)
    (try simp only [Act.put, List.setIfInBounds_toArray, List.set_cons_zero, List.set_cons_succ])
    refine rg_one 12 ({ dst := some 27, op := Op.buildSlice 46 1 #[(0, Operand.tmp 26)], type := 46, pos := "cut.go:22", after := #[{ on := 11, ground := Ground.data }], guard := none } : Oper) (by kernel_rfl) rfl (fun K hK => ?_)
    go_simp
    (obtain ⟨w5, hw5⟩ : ∃ q, (w3.alloc (.cells #[.int .i64 (b : Int), .int .i64 kd, .int .i64 (f : Int), .int .i64 (f1 : Int)] 60)).drew = q := ⟨_, rfl⟩; rw [hw5]; have HG5 : Hid (GS B W w5 g0 g1 g2 g3 b f n (.slice va i vc) i l0) := Lib.hid (by rw [← hw5]; exact HG3.out.keep (bdrew0 w3 _)); have HL5 : Hid (w5.heap[w3.heap.size]? = some (.cells (pL c).toArray 60 (0, 0))) := Lib.hid (by rw [← hw5, HPC.out]; exact heap_alloc_last w3 _); have d5 := HG5.out.cells.2.2.2; have hN := (let c := HG5.out.cells; (⟨c.1, c.2.1, c.2.2.1⟩ : (w5.cell? ⟨g0, 0, none⟩ = some (.int .i64 (b : Int)) ∧ w5.cell? ⟨g1, 0, none⟩ = some (.int .i64 (f : Int)) ∧ w5.cell? ⟨g2, 0, none⟩ = some (.int .i64 (n : Int))))); clear hw5)
    refine hK.out _ _ ?_ (fun hS1 => ?_)
    · (first | exact hN | exact hS)
    clear hK K hS; have hS := hS1; clear hS1
    (try simp only [Act.put, List.setIfInBounds_toArray, List.set_cons_zero, List.set_cons_succ])
    refine rg_one 13 ({ dst := some 28, op := Op.call { callee := Callee.builtin Builtin.append, args := #[Operand.tmp 15, Operand.tmp 27], argTypes := #[46, 46] }, type := 46, pos := "cut.go:22", after := #[{ on := 0, ground := Ground.data }, { on := 12, ground := Ground.data }, { on := 8, ground := Ground.chain }], guard := none } : Oper) (by kernel_rfl) rfl (fun K hK => ?_)
    (rw [if_pos (by rfl)]; refine wp_app_pc (.tmp 15) (.tmp 27) rfl B (.slice va i vc) i l0 rfl HG5.out.own w3.heap.size c rfl HL5.out (by omega) (Nat.le_trans HG5.out.base HG5.out.below.size) ?_; intro v6 w6 HO6 HQ6; rw [HFN.out] at HO6; obtain ⟨a6, c6, rfl⟩ := own_form HO6.out; obtain ⟨q0, q1, q2, q3, q4⟩ := HG5.out.mid HQ6.out; clear hN; have hN := (⟨q0, q1, q2⟩ : (w6.cell? ⟨g0, 0, none⟩ = some (.int .i64 (b : Int)) ∧ w6.cell? ⟨g1, 0, none⟩ = some (.int .i64 (f : Int)) ∧ w6.cell? ⟨g2, 0, none⟩ = some (.int .i64 (n : Int)))))
    refine hK.out _ _ ?_ (fun hS1 => ?_)
    · (first | exact hN | exact hS)
    clear hK K hS; have hS := hS1; clear hS1
    (try simp only [Act.put, List.setIfInBounds_toArray, List.set_cons_zero, List.set_cons_succ])
    refine rg_one 14 ({ dst := none, op := Op.store 46 (Operand.tmp 3) (Operand.tmp 28), type := 0, pos := "cut.go:22", after := #[{ on := 13, ground := Ground.data }, { on := 13, ground := Ground.chain }, { on := 0, ground := Ground.phase }, { on := 1, ground := Ground.phase }, { on := 2, ground := Ground.phase }, { on := 3, ground := Ground.phase }, { on := 4, ground := Ground.phase }, { on := 5, ground := Ground.phase }, { on := 6, ground := Ground.phase }, { on := 7, ground := Ground.phase }, { on := 8, ground := Ground.phase }, { on := 9, ground := Ground.phase }, { on := 10, ground := Ground.phase }, { on := 11, ground := Ground.phase }, { on := 12, ground := Ground.phase }, { on := 13, ground := Ground.phase }], guard := none } : Oper) (by kernel_rfl) rfl (fun K hK => ?_)
    go_simp
    (obtain ⟨w7, hw7⟩ : ∃ q, w6.setCell ⟨g3, 0, none⟩ (.slice a6 (i + 1) c6) = q := ⟨_, rfl⟩; rw [hw7]; have HG7 : Hid (GS B W w7 g0 g1 g2 g3 b f n (.slice a6 (i + 1) c6) (i + 1) l1) := Lib.hid (by rw [← hw7]; exact HG5.out.turn HO6.out HQ6.out); clear hN; have hN := (let c := HG7.out.cells; (⟨c.1, c.2.1, c.2.2.1⟩ : (w7.cell? ⟨g0, 0, none⟩ = some (.int .i64 (b : Int)) ∧ w7.cell? ⟨g1, 0, none⟩ = some (.int .i64 (f : Int)) ∧ w7.cell? ⟨g2, 0, none⟩ = some (.int .i64 (n : Int))))); clear hw7 q0 q1 q2 q3 q4 d5)
    refine hK.out _ _ ?_ (fun hS1 => ?_)
    · (first | exact hN | exact hS)
    clear hK K hS; have hS := hS1; clear hS1
    (try simp only [Act.put])
    refine wpAnyH_done (by kernel_rfl) ?_ _
    clear hS hN HG3 HG4 e3 d3 HK HL5
    obtain ⟨r0, r1, r2, r3⟩ := HG7.out.cells
    obtain ⟨t0, t1, t3⟩ := HG7.out.frozen
    have ne01 : ¬ g0 = g1 := HG7.out.ne.1
    have ne10 : ¬ g1 = g0 := fun e => ne01 e.symm
    have ne02 : ¬ g0 = g2 := HG7.out.ne.2.1
    have ne12 : ¬ g1 = g2 := HG7.out.ne.2.2.2.1
    go_wp2
    go_ret
    rw [HP1.out]
    exact ⟨rfl, _, (HG7.out.set0 p1).set1 f1⟩
  · skip
    go_simp
    refine hK.out _ _ ?_ (fun hS1 => ?_)
    · (first | exact hN | exact hS)
    clear hK K hS; have hS := hS1; clear hS1
    (try simp only [Act.put, List.setIfInBounds_toArray, List.set_cons_zero, List.set_cons_succ])
    refine wpAnyH_take (i := 3) (oi := ({ dst := some 18, op := Op.call { callee := Callee.builtin Builtin.len, args := #[Operand.tmp 17], argTypes := #[46] }, type := 3, pos := "cut.go:22", after := #[{ on := 2, ground := Ground.data }], guard := none } : Oper)) (v := ?_) rfl (by kernel_rfl) (by kernel_rfl) (by kernel_rfl) (fun _ _ _ h => h) (Or.inl ⟨by rfl, ?_⟩) hS ?_
    rotate_left
    · (intro w hSw; (try dsimp only at hSw); go_simp; try with_reducible rfl)
    (try simp only [Act.put, List.setIfInBounds_toArray, List.set_cons_zero, List.set_cons_succ])
    refine wpAnyH_take (i := 4) (oi := ({ dst := some 19, op := Op.binOp BinOp.eql 3 (Operand.tmp 18) (Operand.const (Value.int IntKind.i64 0)) 3, type := 4, pos := "cut.go:22", after := #[{ on := 3, ground := Ground.data }], guard := none } : Oper)) (v := .bool (decide (i = 0))) rfl (by kernel_rfl) (by kernel_rfl) (by kernel_rfl) (fun _ _ _ h => h) (Or.inl ⟨by rfl, ?_⟩) hS ?_
    · (intro w hSw; (try dsimp only at hSw); have z := dec_cast i; go_simp; (try exact z))
    (try simp only [Act.put, List.setIfInBounds_toArray, List.set_cons_zero, List.set_cons_succ])
    refine rg_both 0 8 ({ dst := some 15, op := Op.load 46 (Operand.tmp 3), type := 46, pos := "cut.go:22", after := #[], guard := none } : Oper) ({ dst := some 23, op := Op.call { callee := Callee.value (Operand.func 50), args := #[Operand.tmp 19, Operand.tmp 22], argTypes := #[4, 4] }, type := 3, pos := "cut.go:22", after := #[{ on := 4, ground := Ground.data }, { on := 7, ground := Ground.data }], guard := none } : Oper) (by kernel_rfl) rfl rfl (fun K hK => ?_) (fun K hK => ?_)
    · skip
      go_simp
      refine hK.out _ _ ?_ (fun hS1 => ?_)
      · (first | exact hN | exact hS)
      clear hK K hS; have hS := hS1; clear hS1
      (try simp only [Act.put, List.setIfInBounds_toArray, List.set_cons_zero, List.set_cons_succ])
      refine rg_one 8 ({ dst := some 23, op := Op.call { callee := Callee.value (Operand.func 50), args := #[Operand.tmp 19, Operand.tmp 22], argTypes := #[4, 4] }, type := 3, pos := "cut.go:22", after := #[{ on := 4, ground := Ground.data }, { on := 7, ground := Ground.data }], guard := none } : Oper) (by kernel_rfl) rfl (fun K hK => ?_)
      go_simp
      (go_at_call 50; (with_reducible refine (HK.out _).mono ?_); rintro e w' ⟨rfl, rfl⟩)
      refine hK.out _ _ ?_ (fun hS1 => ?_)
      · (first | exact hN | exact hS)
      clear hK K hS; have hS := hS1; clear hS1
      (try simp only [Act.put, List.setIfInBounds_toArray, List.set_cons_zero, List.set_cons_succ])
      refine wpAnyH_take (i := 11) (oi := ({ dst := some 26, op := Op.build 60 #[(0, Operand.tmp 16), (1, Operand.tmp 23), (2, Operand.tmp 24), (3, Operand.tmp 25)], type := 60, pos := "cut.go:22", after := #[{ on := 1, ground := Ground.data }, { on := 8, ground := Ground.data }, { on := 9, ground := Ground.data }, { on := 10, ground := Ground.data }], guard := none } : Oper)) (v := .agg #[.int .i64 (b : Int), .int .i64 kd, .int .i64 (f : Int), .int .i64 (f1 : Int)]) rfl (by kernel_rfl) (by kernel_rfl) (by kernel_rfl) (fun _ _ _ h => h) (Or.inl ⟨by rfl, ?_⟩) hS ?_
      · (intro w hSw; (try dsimp only at hSw); go_simp)
      (try simp only [Act.put, List.setIfInBounds_toArray, List.set_cons_zero, List.set_cons_succ])
      refine rg_one 12 ({ dst := some 27, op := Op.buildSlice 46 1 #[(0, Operand.tmp 26)], type := 46, pos := "cut.go:22", after := #[{ on := 11, ground := Ground.data }], guard := none } : Oper) (by kernel_rfl) rfl (fun K hK => ?_)
      go_simp
      (obtain ⟨w5, hw5⟩ : ∃ q, (w3.alloc (.cells #[.int .i64 (b : Int), .int .i64 kd, .int .i64 (f : Int), .int .i64 (f1 : Int)] 60)).drew = q := ⟨_, rfl⟩; rw [hw5]; have HG5 : Hid (GS B W w5 g0 g1 g2 g3 b f n (.slice va i vc) i l0) := Lib.hid (by rw [← hw5]; exact HG3.out.keep (bdrew0 w3 _)); have HL5 : Hid (w5.heap[w3.heap.size]? = some (.cells (pL c).toArray 60 (0, 0))) := Lib.hid (by rw [← hw5, HPC.out]; exact heap_alloc_last w3 _); have d5 := HG5.out.cells.2.2.2; have hN := (let c := HG5.out.cells; (⟨c.1, c.2.1, c.2.2.1⟩ : (w5.cell? ⟨g0, 0, none⟩ = some (.int .i64 (b : Int)) ∧ w5.cell? ⟨g1, 0, none⟩ = some (.int .i64 (f : Int)) ∧ w5.cell? ⟨g2, 0, none⟩ = some (.int .i64 (n : Int))))); clear hw5)
      refine hK.out _ _ ?_ (fun hS1 => ?_)
      · (first | exact hN | exact hS)
      clear hK K hS; have hS := hS1; clear hS1
      (try simp only [Act.put, List.setIfInBounds_toArray, List.set_cons_zero, List.set_cons_succ])
      refine rg_one 13 ({ dst := some 28, op := Op.call { callee := Callee.builtin Builtin.append, args := #[Operand.tmp 15, Operand.tmp 27], argTypes := #[46, 46] }, type := 46, pos := "cut.go:22", after := #[{ on := 0, ground := Ground.data }, { on := 12, ground := Ground.data }, { on := 8, ground := Ground.chain }], guard := none } : Oper) (by kernel_rfl) rfl (fun K hK => ?_)
      (rw [if_pos (by rfl)]; refine wp_app_pc (.tmp 15) (.tmp 27) rfl B (.slice va i vc) i l0 rfl HG5.out.own w3.heap.size c rfl HL5.out (by omega) (Nat.le_trans HG5.out.base HG5.out.below.size) ?_; intro v6 w6 HO6 HQ6; rw [HFN.out] at HO6; obtain ⟨a6, c6, rfl⟩ := own_form HO6.out; obtain ⟨q0, q1, q2, q3, q4⟩ := HG5.out.mid HQ6.out; clear hN; have hN := (⟨q0, q1, q2⟩ : (w6.cell? ⟨g0, 0, none⟩ = some (.int .i64 (b : Int)) ∧ w6.cell? ⟨g1, 0, none⟩ = some (.int .i64 (f : Int)) ∧ w6.cell? ⟨g2, 0, none⟩ = some (.int .i64 (n : Int)))))
      refine hK.out _ _ ?_ (fun hS1 => ?_)
      · (first | exact hN | exact hS)
      clear hK K hS; have hS := hS1; clear hS1
      (try simp only [Act.put, List.setIfInBounds_toArray, List.set_cons_zero, List.set_cons_succ])
      refine rg_one 14 ({ dst := none, op := Op.store 46 (Operand.tmp 3) (Operand.tmp 28), type := 0, pos := "cut.go:22", after := #[{ on := 13, ground := Ground.data }, { on := 13, ground := Ground.chain }, { on := 0, ground := Ground.phase }, { on := 1, ground := Ground.phase }, { on := 2, ground := Ground.phase }, { on := 3, ground := Ground.phase }, { on := 4, ground := Ground.phase }, { on := 5, ground := Ground.phase }, { on := 6, ground := Ground.phase }, { on := 7, ground := Ground.phase }, { on := 8, ground := Ground.phase }, { on := 9, ground := Ground.phase }, { on := 10, ground := Ground.phase }, { on := 11, ground := Ground.phase }, { on := 12, ground := Ground.phase }, { on := 13, ground := Ground.phase }], guard := none } : Oper) (by kernel_rfl) rfl (fun K hK => ?_)
      go_simp
      (obtain ⟨w7, hw7⟩ : ∃ q, w6.setCell ⟨g3, 0, none⟩ (.slice a6 (i + 1) c6) = q := ⟨_, rfl⟩; rw [hw7]; have HG7 : Hid (GS B W w7 g0 g1 g2 g3 b f n (.slice a6 (i + 1) c6) (i + 1) l1) := Lib.hid (by rw [← hw7]; exact HG5.out.turn HO6.out HQ6.out); clear hN; have hN := (let c := HG7.out.cells; (⟨c.1, c.2.1, c.2.2.1⟩ : (w7.cell? ⟨g0, 0, none⟩ = some (.int .i64 (b : Int)) ∧ w7.cell? ⟨g1, 0, none⟩ = some (.int .i64 (f : Int)) ∧ w7.cell? ⟨g2, 0, none⟩ = some (.int .i64 (n : Int))))); clear hw7 q0 q1 q2 q3 q4 d5)
      refine hK.out _ _ ?_ (fun hS1 => ?_)
      · (first | exact hN | exact hS)
      clear hK K hS; have hS := hS1; clear hS1
      (try simp only [Act.put])
      refine wpAnyH_done (by kernel_rfl) ?_ _
      clear hS hN HG3 HG4 e3 d3 HK HL5
      obtain ⟨r0, r1, r2, r3⟩ := HG7.out.cells
      obtain ⟨t0, t1, t3⟩ := HG7.out.frozen
      have ne01 : ¬ g0 = g1 := HG7.out.ne.1
      have ne10 : ¬ g1 = g0 := fun e => ne01 e.symm
      have ne02 : ¬ g0 = g2 := HG7.out.ne.2.1
      have ne12 : ¬ g1 = g2 := HG7.out.ne.2.2.2.1
      go_wp2
      go_ret
      rw [HP1.out]
      exact ⟨rfl, _, (HG7.out.set0 p1).set1 f1⟩
    · skip
      go_simp
      (go_at_call 50; (with_reducible refine (HK.out _).mono ?_); rintro e w' ⟨rfl, rfl⟩)
      refine hK.out _ _ ?_ (fun hS1 => ?_)
      · (first | exact hN | exact hS)
      clear hK K hS; have hS := hS1; clear hS1
      (try simp only [Act.put, List.setIfInBounds_toArray, List.set_cons_zero, List.set_cons_succ])
      refine wpAnyH_take (i := 11) (oi := ({ dst := some 26, op := Op.build 60 #[(0, Operand.tmp 16), (1, Operand.tmp 23), (2, Operand.tmp 24), (3, Operand.tmp 25)], type := 60, pos := "cut.go:22", after := #[{ on := 1, ground := Ground.data }, { on := 8, ground := Ground.data }, { on := 9, ground := Ground.data }, { on := 10, ground := Ground.data }], guard := none } : Oper)) (v := .agg #[.int .i64 (b : Int), .int .i64 kd, .int .i64 (f : Int), .int .i64 (f1 : Int)]) rfl (by kernel_rfl) (by kernel_rfl) (by kernel_rfl) (fun _ _ _ h => h) (Or.inl ⟨by rfl, ?_⟩) hS ?_
      · (intro w hSw; (try dsimp only at hSw); go_simp)
      (try simp only [Act.put, List.setIfInBounds_toArray, List.set_cons_zero, List.set_cons_succ])
      refine rg_both 0 12 ({ dst := some 15, op := Op.load 46 (Operand.tmp 3), type := 46, pos := "cut.go:22", after := #[], guard := none } : Oper) ({ dst := some 27, op := Op.buildSlice 46 1 #[(0, Operand.tmp 26)], type := 46, pos := "cut.go:22", after := #[{ on := 11, ground := Ground.data }], guard := none } : Oper) (by kernel_rfl) rfl rfl (fun K hK => ?_) (fun K hK => ?_)
      · skip
        go_simp
        refine hK.out _ _ ?_ (fun hS1 => ?_)
        · (first | exact hN | exact hS)
        clear hK K hS; have hS := hS1; clear hS1
        (try simp only [Act.put, List.setIfInBounds_toArray, List.set_cons_zero, List.set_cons_succ])
        refine rg_one 12 ({ dst := some 27, op := Op.buildSlice 46 1 #[(0, Operand.tmp 26)], type := 46, pos := "cut.go:22", after := #[{ on := 11, ground := Ground.data }], guard := none } : Oper) (by kernel_rfl) rfl (fun K hK => ?_)
        go_simp
        (obtain ⟨w5, hw5⟩ : ∃ q, (w3.alloc (.cells #[.int .i64 (b : Int), .int .i64 kd, .int .i64 (f : Int), .int .i64 (f1 : Int)] 60)).drew = q := ⟨_, rfl⟩; rw [hw5]; have HG5 : Hid (GS B W w5 g0 g1 g2 g3 b f n (.slice va i vc) i l0) := Lib.hid (by rw [← hw5]; exact HG3.out.keep (bdrew0 w3 _)); have HL5 : Hid (w5.heap[w3.heap.size]? = some (.cells (pL c).toArray 60 (0, 0))) := Lib.hid (by rw [← hw5, HPC.out]; exact heap_alloc_last w3 _); have d5 := HG5.out.cells.2.2.2; have hN := (let c := HG5.out.cells; (⟨c.1, c.2.1, c.2.2.1⟩ : (w5.cell? ⟨g0, 0, none⟩ = some (.int .i64 (b : Int)) ∧ w5.cell? ⟨g1, 0, none⟩ = some (.int .i64 (f : Int)) ∧ w5.cell? ⟨g2, 0, none⟩ = some (.int .i64 (n : Int))))); clear hw5)
        refine hK.out _ _ ?_ (fun hS1 => ?_)
        · (first | exact hN | exact hS)
        clear hK K hS; have hS := hS1; clear hS1
        (try simp only [Act.put, List.setIfInBounds_toArray, List.set_cons_zero, List.set_cons_succ])
        refine rg_one 13 ({ dst := some 28, op := Op.call { callee := Callee.builtin Builtin.append, args := #[Operand.tmp 15, Operand.tmp 27], argTypes := #[46, 46] }, type := 46, pos := "cut.go:22", after := #[{ on := 0, ground := Ground.data }, { on := 12, ground := Ground.data }, { on := 8, ground := Ground.chain }], guard := none } : Oper) (by kernel_rfl) rfl (fun K hK => ?_)
        (rw [if_pos (by rfl)]; refine wp_app_pc (.tmp 15) (.tmp 27) rfl B (.slice va i vc) i l0 rfl HG5.out.own w3.heap.size c rfl HL5.out (by omega) (Nat.le_trans HG5.out.base HG5.out.below.size) ?_; intro v6 w6 HO6 HQ6; rw [HFN.out] at HO6; obtain ⟨a6, c6, rfl⟩ := own_form HO6.out; obtain ⟨q0, q1, q2, q3, q4⟩ := HG5.out.mid HQ6.out; clear hN; have hN := (⟨q0, q1, q2⟩ : (w6.cell? ⟨g0, 0, none⟩ = some (.int .i64 (b : Int)) ∧ w6.cell? ⟨g1, 0, none⟩ = some (.int .i64 (f : Int)) ∧ w6.cell? ⟨g2, 0, none⟩ = some (.int .i64 (n : Int)))))
        refine hK.out _ _ ?_ (fun hS1 => ?_)
        · (first | exact hN | exact hS)
        clear hK K hS; have hS := hS1; clear hS1
        (try simp only [Act.put, List.setIfInBounds_toArray, List.set_cons_zero, List.set_cons_succ])
        refine rg_one 14 ({ dst := none, op := Op.store 46 (Operand.tmp 3) (Operand.tmp 28), type := 0, pos := "cut.go:22", after := #[{ on := 13, ground := Ground.data }, { on := 13, ground := Ground.chain }, { on := 0, ground := Ground.phase }, { on := 1, ground := Ground.phase }, { on := 2, ground := Ground.phase }, { on := 3, ground := Ground.phase }, { on := 4, ground := Ground.phase }, { on := 5, ground := Ground.phase }, { on := 6, ground := Ground.phase }, { on := 7, ground := Ground.phase }, { on := 8, ground := Ground.phase }, { on := 9, ground := Ground.phase }, { on := 10, ground := Ground.phase }, { on := 11, ground := Ground.phase }, { on := 12, ground := Ground.phase }, { on := 13, ground := Ground.phase }], guard := none } : Oper) (by kernel_rfl) rfl (fun K hK => ?_)
        go_simp
        (obtain ⟨w7, hw7⟩ : ∃ q, w6.setCell ⟨g3, 0, none⟩ (.slice a6 (i + 1) c6) = q := ⟨_, rfl⟩; rw [hw7]; have HG7 : Hid (GS B W w7 g0 g1 g2 g3 b f n (.slice a6 (i + 1) c6) (i + 1) l1) := Lib.hid (by rw [← hw7]; exact HG5.out.turn HO6.out HQ6.out); clear hN; have hN := (let c := HG7.out.cells; (⟨c.1, c.2.1, c.2.2.1⟩ : (w7.cell? ⟨g0, 0, none⟩ = some (.int .i64 (b : Int)) ∧ w7.cell? ⟨g1, 0, none⟩ = some (.int .i64 (f : Int)) ∧ w7.cell? ⟨g2, 0, none⟩ = some (.int .i64 (n : Int))))); clear hw7 q0 q1 q2 q3 q4 d5)
        refine hK.out _ _ ?_ (fun hS1 => ?_)
        · (first | exact hN | exact hS)
        clear hK K hS; have hS := hS1; clear hS1
        (try simp only [Act.put])
        refine wpAnyH_done (by kernel_rfl) ?_ _
        clear hS hN HG3 HG4 e3 d3 HK HL5
        obtain ⟨r0, r1, r2, r3⟩ := HG7.out.cells
        obtain ⟨t0, t1, t3⟩ := HG7.out.frozen
        have ne01 : ¬ g0 = g1 := HG7.out.ne.1
        have ne10 : ¬ g1 = g0 := fun e => ne01 e.symm
        have ne02 : ¬ g0 = g2 := HG7.out.ne.2.1
        have ne12 : ¬ g1 = g2 := HG7.out.ne.2.2.2.1
        go_wp2
        go_ret
        rw [HP1.out]
        exact ⟨rfl, _, (HG7.out.set0 p1).set1 f1⟩
      · skip
        go_simp
        (obtain ⟨w5, hw5⟩ : ∃ q, (w3.alloc (.cells #[.int .i64 (b : Int), .int .i64 kd, .int .i64 (f : Int), .int .i64 (f1 : Int)] 60)).drew = q := ⟨_, rfl⟩; rw [hw5]; have HG5 : Hid (GS B W w5 g0 g1 g2 g3 b f n (.slice va i vc) i l0) := Lib.hid (by rw [← hw5]; exact HG3.out.keep (bdrew0 w3 _)); have HL5 : Hid (w5.heap[w3.heap.size]? = some (.cells (pL c).toArray 60 (0, 0))) := Lib.hid (by rw [← hw5, HPC.out]; exact heap_alloc_last w3 _); have d5 := HG5.out.cells.2.2.2; have hN := (let c := HG5.out.cells; (⟨c.1, c.2.1, c.2.2.1⟩ : (w5.cell? ⟨g0, 0, none⟩ = some (.int .i64 (b : Int)) ∧ w5.cell? ⟨g1, 0, none⟩ = some (.int .i64 (f : Int)) ∧ w5.cell? ⟨g2, 0, none⟩ = some (.int .i64 (n : Int))))); clear hw5)
        refine hK.out _ _ ?_ (fun hS1 => ?_)
        · (first | exact hN | exact hS)
        clear hK K hS; have hS := hS1; clear hS1
        (try simp only [Act.put, List.setIfInBounds_toArray, List.set_cons_zero, List.set_cons_succ])
        refine rg_one 0 ({ dst := some 15, op := Op.load 46 (Operand.tmp 3), type := 46, pos := "cut.go:22", after := #[], guard := none } : Oper) (by kernel_rfl) rfl (fun K hK => ?_)
        go_simp
        refine hK.out _ _ ?_ (fun hS1 => ?_)
        · (first | exact hN | exact hS)
        clear hK K hS; have hS := hS1; clear hS1
        (try simp only [Act.put, List.setIfInBounds_toArray, List.set_cons_zero, List.set_cons_succ])
        refine rg_one 13 ({ dst := some 28, op := Op.call { callee := Callee.builtin Builtin.append, args := #[Operand.tmp 15, Operand.tmp 27], argTypes := #[46, 46] }, type := 46, pos := "cut.go:22", after := #[{ on := 0, ground := Ground.data }, { on := 12, ground := Ground.data }, { on := 8, ground := Ground.chain }], guard := none } : Oper) (by kernel_rfl) rfl (fun K hK => ?_)
        (rw [if_pos (by rfl)]; refine wp_app_pc (.tmp 15) (.tmp 27) rfl B (.slice va i vc) i l0 rfl HG5.out.own w3.heap.size c rfl HL5.out (by omega) (Nat.le_trans HG5.out.base HG5.out.below.size) ?_; intro v6 w6 HO6 HQ6; rw [HFN.out] at HO6; obtain ⟨a6, c6, rfl⟩ := own_form HO6.out; obtain ⟨q0, q1, q2, q3, q4⟩ := HG5.out.mid HQ6.out; clear hN; have hN := (⟨q0, q1, q2⟩ : (w6.cell? ⟨g0, 0, none⟩ = some (.int .i64 (b : Int)) ∧ w6.cell? ⟨g1, 0, none⟩ = some (.int .i64 (f : Int)) ∧ w6.cell? ⟨g2, 0, none⟩ = some (.int .i64 (n : Int)))))
        refine hK.out _ _ ?_ (fun hS1 => ?_)
        · (first | exact hN | exact hS)
        clear hK K hS; have hS := hS1; clear hS1
        (try simp only [Act.put, List.setIfInBounds_toArray, List.set_cons_zero, List.set_cons_succ])
        refine rg_one 14 ({ dst := none, op := Op.store 46 (Operand.tmp 3) (Operand.tmp 28), type := 0, pos := "cut.go:22", after := #[{ on := 13, ground := Ground.data }, { on := 13, ground := Ground.chain }, { on := 0, ground := Ground.phase }, { on := 1, ground := Ground.phase }, { on := 2, ground := Ground.phase }, { on := 3, ground := Ground.phase }, { on := 4, ground := Ground.phase }, { on := 5, ground := Ground.phase }, { on := 6, ground := Ground.phase }, { on := 7, ground := Ground.phase }, { on := 8, ground := Ground.phase }, { on := 9, ground := Ground.phase }, { on := 10, ground := Ground.phase }, { on := 11, ground := Ground.phase }, { on := 12, ground := Ground.phase }, { on := 13, ground := Ground.phase }], guard := none } : Oper) (by kernel_rfl) rfl (fun K hK => ?_)
        go_simp
        (obtain ⟨w7, hw7⟩ : ∃ q, w6.setCell ⟨g3, 0, none⟩ (.slice a6 (i + 1) c6) = q := ⟨_, rfl⟩; rw [hw7]; have HG7 : Hid (GS B W w7 g0 g1 g2 g3 b f n (.slice a6 (i + 1) c6) (i + 1) l1) := Lib.hid (by rw [← hw7]; exact HG5.out.turn HO6.out HQ6.out); clear hN; have hN := (let c := HG7.out.cells; (⟨c.1, c.2.1, c.2.2.1⟩ : (w7.cell? ⟨g0, 0, none⟩ = some (.int .i64 (b : Int)) ∧ w7.cell? ⟨g1, 0, none⟩ = some (.int .i64 (f : Int)) ∧ w7.cell? ⟨g2, 0, none⟩ = some (.int .i64 (n : Int))))); clear hw7 q0 q1 q2 q3 q4 d5)
        refine hK.out _ _ ?_ (fun hS1 => ?_)
        · (first | exact hN | exact hS)
        clear hK K hS; have hS := hS1; clear hS1
        (try simp only [Act.put])
        refine wpAnyH_done (by kernel_rfl) ?_ _
        clear hS hN HG3 HG4 e3 d3 HK HL5
        obtain ⟨r0, r1, r2, r3⟩ := HG7.out.cells
        obtain ⟨t0, t1, t3⟩ := HG7.out.frozen
        have ne01 : ¬ g0 = g1 := HG7.out.ne.1
        have ne10 : ¬ g1 = g0 := fun e => ne01 e.symm
        have ne02 : ¬ g0 = g2 := HG7.out.ne.2.1
        have ne12 : ¬ g1 = g2 := HG7.out.ne.2.2.2.1
        go_wp2
        go_ret
        rw [HP1.out]
        exact ⟨rfl, _, (HG7.out.set0 p1).set1 f1⟩
end Go.Proofs.YtjlnceldnbpapaaDoor
/-
  WHAT THE PROGRAM'S OWN Cut OF LAYER 14 ANSWERS, of any place and any number. No condition.
-/
namespace Go.Proofs.YtjlnceldnbpapaaDoor
open Go.RowKit
theorem mf_run (fn : Fn) (first cap : Array Value) (w : World) : (Instr.makeFunc fn first cap).run Tryd.prog w = .ok (.func fn first cap) w := rfl
/-- how far a place in a cell is from the body's end -/
def mz : Option Value → Nat
  | some (.int _ x) => (832 - x).toNat
  | _ => 0
/-- the variables, just made -/
theorem GS.start (w w1 : World) (x n : Int) (hb : Below ((w.alloc (.cells #[.int .i64 x] 3)).alloc (.cells #[.int .i64 n] 3)).heap.size ((w.alloc (.cells #[.int .i64 x] 3)).alloc (.cells #[.int .i64 n] 3)) w1) :
    GS w.heap.size w ((w1.alloc (.cells #[.slice none 0 0] 46)).alloc (.cells #[.int .i64 0] 3)) w.heap.size (w1.heap.size + 1) (w.heap.size + 1) w1.heap.size x 0 n (.slice none 0 0) 0 [] := by
  obtain ⟨v1, hv1⟩ : ∃ q, w.alloc (.cells #[.int .i64 x] 3) = q := ⟨_, rfl⟩
  have e1 : v1.heap.size = w.heap.size + 1 := by rw [← hv1]; simp
  have a0 : v1.heap[w.heap.size]? = some (.cells #[.int .i64 x] 3 (0, 0)) := by rw [← hv1]; exact heap_alloc_last w _
  have b1 : Below w.heap.size w v1 := by rw [← hv1]; exact balloc w _
  rw [hv1] at hb
  obtain ⟨v2, hv2⟩ : ∃ q, v1.alloc (.cells #[.int .i64 n] 3) = q := ⟨_, rfl⟩
  have e2 : v2.heap.size = w.heap.size + 2 := by rw [← hv2]; simp [e1]
  have a1 : v2.heap[w.heap.size]? = some (.cells #[.int .i64 x] 3 (0, 0)) := by rw [← hv2]; exact ((balloc v1 _).block _ (by omega)).trans a0
  have a2 : v2.heap[w.heap.size + 1]? = some (.cells #[.int .i64 n] 3 (0, 0)) := by rw [← hv2, ← e1]; exact heap_alloc_last v1 _
  have b2 : Below w.heap.size w v2 := by rw [← hv2]; exact bch b1 (balloc v1 _)
  rw [hv2] at hb
  have hs1 := hb.size
  have a3 := (hb.block w.heap.size (by omega)).trans a1
  have a4 := (hb.block (w.heap.size + 1) (by omega)).trans a2
  obtain ⟨v3, hv3⟩ : ∃ q, w1.alloc (.cells #[.slice none 0 0] 46) = q := ⟨_, rfl⟩
  have e3 : v3.heap.size = w1.heap.size + 1 := by rw [← hv3]; simp
  have hb3 : Below w1.heap.size w1 v3 := by rw [← hv3]; exact balloc w1 _
  have a5 := (hb3.block w.heap.size (by omega)).trans a3
  have a6 := (hb3.block (w.heap.size + 1) (by omega)).trans a4
  have a7 : v3.heap[w1.heap.size]? = some (.cells #[.slice none 0 0] 46 (0, 0)) := by rw [← hv3]; exact heap_alloc_last w1 _
  rw [hv3]
  have hb4 := balloc v3 (.cells #[.int .i64 0] 3)
  refine ⟨bch (bch (bch b2 hb) hb3) hb4, Nat.le_refl _, by omega, by omega, (hb4.block _ (by omega)).trans a5, ?_, (hb4.block _ (by omega)).trans a6, (hb4.block _ (by omega)).trans a7, World.ownsRow_nil _ _ _ _⟩
  rw [← e3]
  exact heap_alloc_last v3 _
set_option maxRecDepth 8000 in
set_option maxHeartbeats 4000000 in
theorem cut_no (x n : Int) (hx : I63 x) (hf : fitI x n = false) (w : World) : Calls Tryd.prog 32 #[.int .i64 x, .int .i64 n] w fun e w' => e = .returned (.tuple #[.slice none 0 0, .int .i64 0, .bool false]) ∧ Below w.heap.size w w' := by
  have H1 : Hid (∀ w, Calls Tryd.prog 47 #[.int .i64 x, .int .i64 n] w fun e w' => e = .returned (.bool false) ∧ Below w.heap.size w w') := fun w => by
    have := fits_any x n hx w; rwa [hf] at this
  clear hf hx
  go_enter Tryd.func32, Tryd.ntmps32
  go_wp2_with (first
    | (go_at_call 47; (with_reducible refine (H1.out _).mono ?_); rintro e w1 ⟨rfl, hb⟩; have HB1 := Lib.hid (bch (bch (balloc w _) (balloc _ _)) hb); clear hb))
  go_ret3
  exact ⟨rfl, HB1.out⟩
set_option maxRecDepth 8000 in
set_option maxHeartbeats 4000000 in
theorem cut_yes (x : Int) (n m : Nat) (hx : I63 x) (hn : n ≤ 832) (hc : Cuts (nr x) n m) (hft : Fit (nr x) n) (w : World) : Calls Tryd.prog 32 #[.int .i64 x, .int .i64 (n : Int)] w fun e w' =>
    ∃ v, e = .returned (.tuple #[v, .int .i64 (pS (nr x) n m : Int), .bool true]) ∧ w'.ownsRow w.heap.size 60 4 v m (pF (firstP (nr x) n m)) ∧ Below w.heap.size w w' := by
  have H1 : Hid (∀ w, Calls Tryd.prog 47 #[.int .i64 x, .int .i64 (n : Int)] w fun e w' => e = .returned (.bool true) ∧ Below w.heap.size w w') := fun w => by
    have := fits_any x n hx w; rwa [(fit_nat x n).2 hft] at this
  have HA := Lib.hid (nr_le x)
  have HX := Lib.hid hx
  have HF := Lib.hid hft
  have HC := Lib.hid hc
  have HN := Lib.hid hn
  obtain ⟨a, ha⟩ : ∃ a, nr x = a := ⟨_, rfl⟩
  have HAX := Lib.hid ha
  rw [ha] at HA HC HF
  rw [ha]
  clear ha hft hc hn hx
  have hmf := mf_run
  go_enter Tryd.func32, Tryd.ntmps32
  go_wp2_with (first
    | (go_at_call 47; (with_reducible refine (H1.out _).mono ?_); rintro e w1 ⟨rfl, hb⟩; have HB0 := Lib.hid hb; clear hb))
  have HG0 : Hid (GS w.heap.size w ((w1.alloc (.cells #[.slice none 0 0] 46)).alloc (.cells #[.int .i64 0] 3)) w.heap.size (w1.heap.size + 1) (w.heap.size + 1) w1.heap.size x 0 (n : Int) (.slice none 0 0) 0 []) := Lib.hid (GS.start w w1 x n HB0.out)
  obtain ⟨w2, hw2⟩ : ∃ q, (w1.alloc (.cells #[.slice none 0 0] 46)).alloc (.cells #[.int .i64 0] 3) = q := ⟨_, rfl⟩
  rw [hw2] at HG0 ⊢
  obtain ⟨g2, hg2⟩ : ∃ g, w.heap.size + 1 = g := ⟨_, rfl⟩
  obtain ⟨g3, hg3⟩ : ∃ g, w1.heap.size = g := ⟨_, rfl⟩
  obtain ⟨g1, hg1⟩ : ∃ g, w1.heap.size + 1 = g := ⟨_, rfl⟩
  rw [hg1, hg2, hg3] at HG0 ⊢
  clear hw2 hg2 hg3 hg1 HB0 H1
  go_loopw [] (fun wr => ∃ (i : Nat) (p : Int) (v : Value), Hid (I63 p ∧ nr p = pS a n i ∧ Run a n i ∧ (i = 0 ∨ fS a n i < n)) ∧ Hid (GS w.heap.size w wr w.heap.size g1 g2 g3 p (fS a n i : Nat) (n : Int) v i (firstP a n i))) (fun wr => mz (wr.cell? ⟨w.heap.size, 0, none⟩))
  case atStart => exact ⟨0, x, _, ⟨HX.out, HAX.out, Run.zero HA.out, .inl rfl⟩, HG0⟩
  case round =>
    obtain ⟨i, p, v, HR, HG⟩ := hrel
    obtain ⟨hp, hpn, hr, hi⟩ := HR.out
    have hb := hr.go hi HF.out
    have hst := hr.step hb
    have hrn := hr.next hi hb
    have hi7 : i ≤ 1000 := by have := hr.p_ge; have := hr.p_le; omega
    have HGT := Lib.hid (gather_any w.heap.size w wr w.heap.size g1 g2 g3 p v a n i hp hpn hst HN.out hi7 HG.out)
    have HM : Hid ((832 - (pS a n (i + 1) : Int)).toNat < (832 - p).toNat) := Lib.hid (by
      have h1 := hst.p_eq
      have h2 := hrn.p_le
      have h3 : pS a n i ≤ bS a n i := by unfold bS beginN; split <;> omega
      have h4 : p ≤ (nr p : Int) ∨ 832 ≤ p := by unfold nr; omega
      have h5 := hr.begin_le
      rcases h4 with h4 | h4
      · omega
      · have h6 : nr p = 832 := by unfold nr; omega
        omega)
    have HRN := Lib.hid hrn
    have HCN : Hid (¬ fS a n (i + 1) < n → i + 1 = m) := Lib.hid (fun hlt => by
      have := (hrn.end_ HA.out (by omega) (by have := hrn.f_le; omega)).2
      rw [cnt_eq HC.out] at this
      exact this.symm)
    clear hp hpn hr hi hb hst hrn hi7
    by_cases hlt : fS a n (i + 1) < n
    · have HLT := Lib.hid hlt
      rw [decide_eq_true hlt] at HGT
      clear hlt HCN
      go_wp2_with (first
        | (go_at_call 48; (with_reducible refine (HGT.out).mono ?_); rintro e w3 ⟨rfl, v3, hg⟩; have HG3 := Lib.hid hg; clear hg))
      go_roundw
      case rel => exact ⟨i + 1, _, v3, Lib.hid ⟨by unfold I63; have := HRN.out.p_le; omega, nr_nat _ HRN.out.p_le, HRN.out, .inr HLT.out⟩, HG3⟩
      case measure =>
        have h1 := HG.out.cells.1
        have h2 := HG3.out.cells.1
        rw [h1, h2]
        exact HM.out
    · have hm := HCN.out hlt
      subst hm
      rw [decide_eq_false hlt] at HGT
      clear hlt HCN
      go_wp2_with (first
        | (go_at_call 48; (with_reducible refine (HGT.out).mono ?_); rintro e w3 ⟨rfl, v3, hg⟩; have HG3 := Lib.hid hg; clear hg))
      obtain ⟨a3, c3, rfl⟩ := own_form HG3.out.own
      have d0 := HG3.out.cells.1
      have d3 := HG3.out.cells.2.2.2
      refine wp_region_held_drew (S := (fun w' => w'.cell? ⟨w.heap.size, 0, none⟩ = some (.int .i64 (pS a n (i + 1) : Int)) ∧ w'.cell? ⟨g3, 0, none⟩ = some (.slice a3 (i + 1) c3))) (by kernel_rfl) (let c := (HG3.out.keep ((Below.refl _ _).drew)).cells; ⟨c.1, c.2.2.2⟩) (fun hS => ?_)
      refine wpAnyH_take (i := 0) (oi := ({ dst := some 17, op := Op.load 46 (Operand.tmp 7), type := 46, pos := "cut.go:28", after := #[], guard := none } : Oper)) (v := ?_) rfl (by kernel_rfl) (by kernel_rfl) (by kernel_rfl) (fun _ _ _ h => h) (Or.inl ⟨by rfl, ?_⟩) hS ?_
      rotate_left
      · (intro w hSw; (try dsimp only at hSw); go_simp; try with_reducible rfl)
      (try simp only [Act.put, List.setIfInBounds_toArray, List.set_cons_zero, List.set_cons_succ])
      refine wpAnyH_take (i := 1) (oi := ({ dst := some 18, op := Op.load 3 (Operand.tmp 2), type := 3, pos := "cut.go:28", after := #[{ on := 2, ground := Ground.gcOnly Departure.lateStores }], guard := none } : Oper)) (v := ?_) rfl (by kernel_rfl) (by kernel_rfl) (by kernel_rfl) (fun _ _ _ h => h) (Or.inl ⟨by rfl, ?_⟩) hS ?_
      rotate_left
      · (intro w hSw; (try dsimp only at hSw); go_simp; try with_reducible rfl)
      (try simp only [Act.put, List.setIfInBounds_toArray, List.set_cons_zero, List.set_cons_succ])
      refine wpAnyH_take (i := 2) (oi := ({ dst := some 4, op := Op.assign (Operand.tmp 17), type := 46, pos := "cut.go:28", after := #[{ on := 0, ground := Ground.data }, { on := 0, ground := Ground.phase }, { on := 1, ground := Ground.textOnly Departure.lateStores }], guard := none } : Oper)) (v := ?_) rfl (by kernel_rfl) (by kernel_rfl) (by kernel_rfl) (fun _ _ _ h => h) (Or.inl ⟨by rfl, ?_⟩) hS ?_
      rotate_left
      · (intro w hSw; (try dsimp only at hSw); go_simp; try with_reducible rfl)
      (try simp only [Act.put, List.setIfInBounds_toArray, List.set_cons_zero, List.set_cons_succ])
      refine wpAnyH_take (i := 3) (oi := ({ dst := some 5, op := Op.assign (Operand.tmp 18), type := 3, pos := "cut.go:28", after := #[{ on := 1, ground := Ground.data }, { on := 2, ground := Ground.chain }, { on := 0, ground := Ground.phase }, { on := 1, ground := Ground.phase }, { on := 2, ground := Ground.phase }], guard := none } : Oper)) (v := ?_) rfl (by kernel_rfl) (by kernel_rfl) (by kernel_rfl) (fun _ _ _ h => h) (Or.inl ⟨by rfl, ?_⟩) hS ?_
      rotate_left
      · (intro w hSw; (try dsimp only at hSw); go_simp; try with_reducible rfl)
      (try simp only [Act.put, List.setIfInBounds_toArray, List.set_cons_zero, List.set_cons_succ])
      refine wpAnyH_take (i := 4) (oi := ({ dst := some 6, op := Op.assign (Operand.const (Value.bool true)), type := 4, pos := "cut.go:28", after := #[{ on := 3, ground := Ground.chain }, { on := 0, ground := Ground.phase }, { on := 1, ground := Ground.phase }, { on := 2, ground := Ground.phase }, { on := 3, ground := Ground.phase }], guard := none } : Oper)) (v := ?_) rfl (by kernel_rfl) (by kernel_rfl) (by kernel_rfl) (fun _ _ _ h => h) (Or.inl ⟨by rfl, ?_⟩) hS ?_
      rotate_left
      · (intro w hSw; (try dsimp only at hSw); go_simp; try with_reducible rfl)
      (try simp only [Act.put, List.setIfInBounds_toArray, List.set_cons_zero, List.set_cons_succ])
      refine wpAnyH_done (by kernel_rfl) ?_ _
      clear hS
      go_wp2
      go_ret3
      exact ⟨_, rfl, HG3.out.own.drew, HG3.out.below.drew⟩
/-- whatever comes in -/
theorem cut_any (x n : Int) (hx : I63 x) (w : World) : Calls Tryd.prog 32 #[.int .i64 x, .int .i64 n] w fun e w' =>
    ∃ v, e = .returned (.tuple #[v, .int .i64 (endI x n : Int), .bool (fitI x n)]) ∧ w'.ownsRow w.heap.size 60 4 v (pcsI x n).length (pF (pcsI x n)) ∧ Below w.heap.size w w' := by
  by_cases hf : fitI x n = true
  · obtain ⟨k, m, rfl, hk, _, hc, hft⟩ := told_of hf
    obtain ⟨h1, h2, h3⟩ := told_yes hc hft
    rw [h1, h2, h3, firstP_len]
    exact cut_yes x k m hx hk hc hft w
  · have hf : fitI x n = false := by simpa using hf
    obtain ⟨h1, h2⟩ := told_no hf
    rw [h1, h2, hf]
    exact (cut_no x n hx hf w).mono fun e w' ⟨he, hb⟩ => ⟨_, he, World.ownsRow_nil _ _ _ _, hb⟩
end Go.Proofs.YtjlnceldnbpapaaDoor
