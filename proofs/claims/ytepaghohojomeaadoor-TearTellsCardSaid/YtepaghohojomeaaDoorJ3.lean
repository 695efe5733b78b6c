/-
  TEXTS JOINED: SpanRef, CutMath, FR, CutPc, PutMath, IsB, CrcMath. Each one's own words stand at its head.
-/
import Derived.Test.YtepaghohojomeaaDoorJ1
import Derived.Test.YtepaghohojomeaaDoorJ0
/-
  LAYER 7 (span): where places lie (plain mathematics), and what the document's answers answer: the reference's Near, Where, Left, Begin. No condition.
-/
namespace Go.Proofs.YtepaghohojomeaaDoor
open Go.RowKit
/-- how much room of its block stands from a place on -/
def leftN (a : Nat) : Nat := if a = 832 then 0 else 208 - a % 208
/-- where what comes next begins -/
def beginN (a : Nat) : Nat := if 41 < a % 52 then (a / 52 + 1) * 52 else a
theorem begin_le (a : Nat) (h : a ≤ 832) : beginN a ≤ 832 := by unfold beginN; split <;> omega
theorem begin_again (a : Nat) : beginN (beginN a) = beginN a := by
  unfold beginN
  by_cases h : 41 < a % 52
  · rw [if_pos h, if_neg (by omega)]
  · rw [if_neg h, if_neg h]
theorem begin_room (a : Nat) (_h : a ≤ 832) : beginN a = 832 ∨ (11 ≤ leftN (beginN a) ∧ beginN a % 52 ≤ 41) := by
  by_cases h2 : beginN a = 832
  · exact .inl h2
  · refine .inr ?_
    by_cases h3 : 41 < a % 52
    · have e : beginN a = (a / 52 + 1) * 52 := if_pos h3
      rw [e] at h2 ⊢
      rw [leftN, if_neg h2]
      omega
    · have e : beginN a = a := if_neg h3
      rw [e] at h2 ⊢
      rw [leftN, if_neg h2]
      omega
theorem left_more (a p c : Nat) (ha : a ≤ 832) (hp : p = a + c) (hc : c ≤ leftN a) : c < leftN a ↔ (p < 832 ∧ (c = 0 ∨ p % 208 ≠ 0)) := by
  by_cases h : a = 832
  · have e : leftN a = 0 := if_pos h
    rw [e] at hc ⊢
    omega
  · have e : leftN a = 208 - a % 208 := if_neg h
    rw [e] at hc ⊢
    omega
theorem left_le (a : Nat) (ha : a ≤ 832) : a + leftN a ≤ 832 := by unfold leftN; split <;> omega
set_option maxRecDepth 8000 in
set_option maxHeartbeats 800000 in
theorem rwhere_any (n : Int) (h : I63 n) (w : World) : Calls Tryd.prog 57 #[.int .i64 n] w fun e w' => e = .returned (.tuple #[.int .i64 ((nr n / 52 : Nat) : Int), .int .i64 ((nr n % 52 : Nat) : Int)]) ∧ w' = w := by
  have hle := nr_le n
  have HN : Hid (∀ w, Calls Tryd.prog 56 #[.int .i64 n] w fun e w' => e = .returned (.int .i64 (nr n : Int)) ∧ w' = w) := fun w => near_any n h w
  generalize nr n = a at *
  go_enter Tryd.func57, Tryd.ntmps57
  go_wp2
  go_loop [4, 5, 6] (fun sv ov iv => ∃ i s o : Nat, iv = .int .i64 i ∧ sv = .int .i64 s ∧ ov = .int .i64 o ∧ i ≤ a ∧ Hid (s = i / 52 ∧ o = i % 52)) (fun _ _ iv => a - (intOf iv).toNat)
  case atStart => exact ⟨0, 0, 0, rfl, rfl, rfl, by omega, rfl, rfl⟩
  case round =>
    obtain ⟨i, s, o, rfl, rfl, rfl, hi, HSO⟩ := hrel
    by_cases hlt : (i : Int) < (a : Int)
    · have ho2 : (o : Int) ≤ 51 := by have := HSO.out; omega
      have hs2 : (s : Int) ≤ 20 := by have := HSO.out; omega
      by_cases h52 : (o : Int) + 1 = 52
      · go_wp2_with (first
          | (go_at_call 56; (with_reducible refine (HN.out _).mono ?_); rintro e w' ⟨rfl, rfl⟩))
        go_round
        case rel => exact ⟨i + 1, s + 1, 0, by go_num, by go_num, rfl, by omega, by have := HSO.out; exact ⟨by omega, by omega⟩⟩
        case measure => simp [intOf]; omega
      · go_wp2_with (first
          | (go_at_call 56; (with_reducible refine (HN.out _).mono ?_); rintro e w' ⟨rfl, rfl⟩))
        go_round
        case rel => exact ⟨i + 1, s, o + 1, by go_num, rfl, by go_num, by omega, by have := HSO.out; exact ⟨by omega, by omega⟩⟩
        case measure => simp [intOf]; omega
    · obtain rfl : i = a := by omega
      go_wp2_with (first
        | (go_at_call 56; (with_reducible refine (HN.out _).mono ?_); rintro e w' ⟨rfl, rfl⟩))
      go_ret2
      obtain ⟨hs, ho⟩ := HSO.out
      subst hs ho
      exact ⟨rfl, rfl⟩
set_option maxRecDepth 8000 in
set_option maxHeartbeats 800000 in
theorem rleft_any (n : Int) (h : I63 n) (w : World) : Calls Tryd.prog 35 #[.int .i64 n] w fun e w' => e = .returned (.int .i64 (leftN (nr n) : Int)) ∧ w' = w := by
  have hle := nr_le n
  have HN : Hid (∀ w, Calls Tryd.prog 56 #[.int .i64 n] w fun e w' => e = .returned (.int .i64 (nr n : Int)) ∧ w' = w) := fun w => near_any n h w
  generalize nr n = a at *
  go_enter Tryd.func35, Tryd.ntmps35
  go_wp2_with (first
    | (go_at_call 56; (with_reducible refine (HN.out _).mono ?_); rintro e w' ⟨rfl, rfl⟩))
  go_loop [0, 3] (fun av nv => ∃ p c : Nat, av = .int .i64 p ∧ nv = .int .i64 c ∧ p = a + c ∧ c ≤ leftN a) (fun av _ => 832 - (intOf av).toNat)
  case atStart => exact ⟨a, 0, rfl, rfl, by omega, by omega⟩
  case round =>
    obtain ⟨p, c, rfl, rfl, hp, hc⟩ := hrel
    have hl := left_le a hle
    have hm : (p : Int).tmod 208 = ((p % 208 : Nat) : Int) := by rw [Int.tmod_eq_emod_of_nonneg (by omega)]; omega
    have HL := Lib.hid (left_more a p c hle hp hc)
    obtain ⟨r, hr⟩ : ∃ r, p % 208 = r := ⟨_, rfl⟩
    rw [hr] at hm
    have HR := Lib.hid hr
    have HP := Lib.hid hp
    clear hr hp
    by_cases hlt : c < leftN a
    · obtain ⟨h1, h2⟩ := HL.out.1 hlt
      have h1' : (p : Int) < 832 := by omega
      rcases (by have := HR.out; omega : (c : Int) = 0 ∨ (¬ (c : Int) = 0 ∧ ¬ (r : Int) = 0)) with h0 | ⟨h0, hr0⟩
      · go_wp2
        go_round
        case rel => exact ⟨p + 1, c + 1, by go_num, by go_num, by have := HP.out; omega, by omega⟩
        case measure => simp [intOf]; omega
      · have hr1 : ((r : Int) != 0) = true := by simpa using hr0
        go_wp2
        go_round
        case rel => exact ⟨p + 1, c + 1, by go_num, by go_num, by have := HP.out; omega, by omega⟩
        case measure => simp [intOf]; omega
    · have hx := fun h => hlt (HL.out.2 h)
      have HC := Lib.hid (show (c : Int) = (leftN a : Int) from by omega)
      by_cases h8 : (p : Int) < 832
      · have h0 : ¬ (c : Int) = 0 := fun h => hx ⟨by omega, .inl (by omega)⟩
        have hr0 : (r : Int) = 0 := by
          by_cases h : r = 0
          · omega
          · exact absurd ⟨by omega, .inr (by rw [HR.out]; exact h)⟩ hx
        go_wp2
        go_ret
        exact ⟨ret_int HC.out, rfl⟩
      · go_wp2
        go_ret
        exact ⟨ret_int HC.out, rfl⟩
set_option maxRecDepth 8000 in
set_option maxHeartbeats 800000 in
theorem rbegin_any (n : Int) (h : I63 n) (w : World) : Calls Tryd.prog 30 #[.int .i64 n] w fun e w' => e = .returned (.int .i64 (beginN (nr n) : Int)) ∧ w' = w := by
  have hle := nr_le n
  have HN : Hid (∀ w, Calls Tryd.prog 56 #[.int .i64 n] w fun e w' => e = .returned (.int .i64 (nr n : Int)) ∧ w' = w) := fun w => near_any n h w
  have HW : Hid (∀ w, Calls Tryd.prog 57 #[.int .i64 (nr n : Int)] w fun e w' => e = .returned (.tuple #[.int .i64 ((nr n / 52 : Nat) : Int), .int .i64 ((nr n % 52 : Nat) : Int)]) ∧ w' = w) := fun w => by
    have := rwhere_any (nr n) (by unfold I63; omega) w
    rwa [nr_nat _ hle] at this
  generalize nr n = a at *
  obtain ⟨s, hs⟩ : ∃ s, a / 52 = s := ⟨_, rfl⟩
  obtain ⟨o, ho⟩ : ∃ o, a % 52 = o := ⟨_, rfl⟩
  rw [hs, ho] at HW
  have HS := Lib.hid hs
  have HO := Lib.hid ho
  clear hs ho
  go_enter Tryd.func30, Tryd.ntmps30
  go_wp2_with (first
    | (go_at_call 56; (with_reducible refine (HN.out _).mono ?_); rintro e w' ⟨rfl, rfl⟩)
    | (go_at_call 57; (with_reducible refine (HW.out _).mono ?_); rintro e w' ⟨rfl, rfl⟩))
  go_loop [0, 4] (fun av ov => ∃ p q : Nat, av = .int .i64 p ∧ ov = .int .i64 q ∧ p ≤ 832 ∧ q ≤ 52 ∧ Hid ((p = a ∧ q = o) ∨ (41 < o ∧ p = a + (q - o) ∧ o ≤ q ∧ p ≤ beginN a))) (fun av _ => 832 - (intOf av).toNat)
  case atStart => exact ⟨a, o, rfl, rfl, by omega, by have := HO.out; omega, .inl ⟨rfl, rfl⟩⟩
  case round =>
    obtain ⟨p, q, rfl, rfl, hp, hq, HR⟩ := hrel
    have HBE : Hid ((41 < o → beginN a = (s + 1) * 52) ∧ (¬ 41 < o → beginN a = a) ∧ a = s * 52 + o ∧ o < 52) := by
      have h1 := HS.out
      have h2 := HO.out
      refine ⟨fun h => ?_, fun h => ?_, by omega, by omega⟩
      · unfold beginN; rw [if_pos (by omega), h1]
      · unfold beginN; rw [if_neg (by omega)]
    by_cases h41 : 41 < (q : Int)
    · by_cases h52 : (q : Int) < 52
      · have h8 : (p : Int) < 832 := by
          obtain ⟨e1, e2, e3, e4⟩ := HBE.out
          have := begin_le a hle
          rcases HR.out with ⟨rfl, rfl⟩ | ⟨g1, g2, g3, g4⟩
          · have := e1 (by omega); omega
          · have := e1 g1; omega
        go_wp2
        go_round
        case rel =>
          refine ⟨p + 1, q + 1, by go_num, by go_num, by omega, by omega, .inr ?_⟩
          obtain ⟨e1, e2, e3, e4⟩ := HBE.out
          rcases HR.out with ⟨rfl, rfl⟩ | ⟨g1, g2, g3, g4⟩
          · have := e1 (by omega); omega
          · have := e1 g1; omega
        case measure => simp [intOf]; omega
      · have HD := Lib.hid (show (p : Int) = (beginN a : Int) from by
          obtain ⟨e1, e2, e3, e4⟩ := HBE.out
          rcases HR.out with ⟨rfl, rfl⟩ | ⟨g1, g2, g3, g4⟩
          · omega
          · have := e1 g1; omega)
        by_cases h8 : (p : Int) < 832
        · go_wp2
          go_ret
          exact ⟨ret_int HD.out, rfl⟩
        · go_wp2
          go_ret
          exact ⟨ret_int HD.out, rfl⟩
    · have HD := Lib.hid (show (p : Int) = (beginN a : Int) from by
        obtain ⟨e1, e2, e3, e4⟩ := HBE.out
        rcases HR.out with ⟨rfl, rfl⟩ | ⟨g1, g2, g3, g4⟩
        · have := e2 (by omega); omega
        · omega)
      by_cases h8 : (p : Int) < 832
      · go_wp2
        go_ret
        exact ⟨ret_int HD.out, rfl⟩
      · go_wp2
        go_ret
        exact ⟨ret_int HD.out, rfl⟩
end Go.Proofs.YtepaghohojomeaaDoor
/-
  LAYER 14 (cut): where pieces stand (plain mathematics): step by step (pS: the place, fS: how many bytes stand), how many steps (cnt), how many bytes fit (roomI), and why the two agree. No condition.
-/
namespace Go.Proofs.YtepaghohojomeaaDoor
/-- a piece -/
structure PC where
  at_ : Int
  kind : Int
  from_ : Int
  to : Int
deriving DecidableEq
/-- a place, and how many of n bytes stand ahead of it: a piece further -/
def nextS (n : Nat) (s : Nat × Nat) : Nat × Nat := (beginN s.1 + 11 + min (n - s.2) (leftN (beginN s.1) - 11), s.2 + min (n - s.2) (leftN (beginN s.1) - 11))
def stS (a n : Nat) : Nat → Nat × Nat
  | 0 => (a, 0)
  | i + 1 => nextS n (stS a n i)
def pS (a n i : Nat) : Nat := (stS a n i).1
def fS (a n i : Nat) : Nat := (stS a n i).2
def bS (a n i : Nat) : Nat := beginN (pS a n i)
theorem pS_zero (a n : Nat) : pS a n 0 = a := rfl
theorem fS_zero (a n : Nat) : fS a n 0 = 0 := rfl
theorem fS_next (a n i : Nat) : fS a n (i + 1) = fS a n i + min (n - fS a n i) (leftN (bS a n i) - 11) := rfl
theorem pS_next (a n i : Nat) : pS a n (i + 1) = bS a n i + 11 + min (n - fS a n i) (leftN (bS a n i) - 11) := rfl
/-- how many bytes fit from a place on; -1, if none -/
def roomI (a : Nat) : Int := if beginN a = 832 then -1 else (leftN (beginN a) : Int) - 11 + (((832 - beginN a - leftN (beginN a)) / 208 : Nat) : Int) * 197
theorem room_ge (a : Nat) (h : a ≤ 832) : -1 ≤ roomI a := by
  unfold roomI
  rcases begin_room a h with h8 | ⟨h1, _⟩
  · rw [if_pos h8]; omega
  · split
    · omega
    · omega
theorem room_le (a : Nat) (h : a ≤ 832) : roomI a ≤ 832 := by
  have hb := begin_le a h
  have hl := left_le _ hb
  unfold roomI
  split
  · omega
  · omega
/-- a piece's beginning, how much of its block is left behind the head, how much is left to say, and what that makes -/
theorem step_room (a b r k p : Nat) (ha : a ≤ 832) (hb : b = beginN a) (hne : b ≠ 832) (hk : k = min r (leftN b - 11)) (hp : p = b + 11 + k) :
    11 ≤ leftN b ∧ b + leftN b ≤ 832 ∧ p ≤ 832 ∧ (k = r → (r : Int) ≤ roomI a) ∧ (k < r → ((r : Int) ≤ roomI a ↔ ((r - k : Nat) : Int) ≤ roomI p)) := by
  have hbl := begin_le a ha
  have h11 : 11 ≤ leftN b := by
    rcases begin_room a ha with h8 | ⟨h1, _⟩
    · exact absurd h8 (hb ▸ hne)
    · rw [hb]; exact h1
  have hl := left_le b (by omega)
  have e : leftN b = 208 - b % 208 := if_neg hne
  have er : roomI a = (leftN b : Int) - 11 + (((832 - b - leftN b) / 208 : Nat) : Int) * 197 := by
    unfold roomI
    rw [← hb, if_neg hne]
  refine ⟨h11, hl, by omega, fun h => by rw [er]; omega, fun h => ?_⟩
  have hkl : k = leftN b - 11 := by omega
  have hpb : p = b + leftN b := by omega
  have hp208 : p % 208 = 0 := by omega
  have hbp : beginN p = p := if_neg (by omega)
  rw [er]
  unfold roomI
  rw [hbp]
  by_cases h8 : p = 832
  · rw [if_pos h8]; omega
  · rw [if_neg h8]
    have e2 : leftN p = 208 := by
      have : leftN p = 208 - p % 208 := if_neg h8
      omega
    rw [e2]
    omega
def Fit (a n : Nat) : Prop := (n : Int) ≤ roomI a
/-- i pieces stand -/
structure Run (a n i : Nat) : Prop where
  p_le : pS a n i ≤ 832
  p_ge : 11 * i ≤ pS a n i
  f_le : fS a n i ≤ n
  low : ∀ j, 0 < j → j < i → fS a n j < n
  fit : (i = 0 ∨ fS a n i < n) → (Fit a n ↔ ((n - fS a n i : Nat) : Int) ≤ roomI (pS a n i))
  full : 0 < i → fS a n i = n → Fit a n
theorem Run.zero {a n : Nat} (ha : a ≤ 832) : Run a n 0 where
  p_le := ha
  p_ge := by omega
  f_le := Nat.zero_le _
  low := fun j h0 h => by omega
  fit := fun _ => by rw [fS_zero, pS_zero]; exact Iff.rfl
  full := fun h => absurd h (by omega)
theorem Run.begin_le {a n i : Nat} (h : Run a n i) : bS a n i ≤ 832 := Go.Proofs.YtepaghohojomeaaDoor.begin_le _ h.p_le
theorem Run.stop {a n i : Nat} (h : Run a n i) (hi : i = 0 ∨ fS a n i < n) (hb : bS a n i = 832) : ¬ Fit a n := by
  rw [h.fit hi]
  have e : roomI (pS a n i) = -1 := if_pos hb
  rw [e]
  omega
/-- a piece that has room -/
structure Step (a n i : Nat) : Prop where
  l11 : 11 ≤ leftN (bS a n i)
  lle : bS a n i + leftN (bS a n i) ≤ 832
  f_ge : fS a n i ≤ fS a n (i + 1)
  f_le : fS a n (i + 1) ≤ n
  fits : 11 + (fS a n (i + 1) - fS a n i) ≤ leftN (bS a n i)
  p_eq : pS a n (i + 1) = bS a n i + 11 + (fS a n (i + 1) - fS a n i)
  f_eq : fS a n (i + 1) = min (fS a n i + leftN (bS a n i) - 11) n
theorem Run.step {a n i : Nat} (h : Run a n i) (hb : bS a n i ≠ 832) : Step a n i := by
  obtain ⟨h1, h2, _⟩ := step_room (pS a n i) (bS a n i) (n - fS a n i) _ _ h.p_le rfl hb rfl rfl
  have hf := fS_next a n i
  have hp := pS_next a n i
  have hl := h.f_le
  exact ⟨h1, h2, by omega, by omega, by omega, by omega, by omega⟩
theorem Run.next {a n i : Nat} (h : Run a n i) (hi : i = 0 ∨ fS a n i < n) (hb : bS a n i ≠ 832) : Run a n (i + 1) := by
  obtain ⟨h1, h2, h3, h4, h5⟩ := step_room (pS a n i) (bS a n i) (n - fS a n i) _ _ h.p_le rfl hb rfl rfl
  have hf := fS_next a n i
  have hp := pS_next a n i
  rw [← hp] at h3 h5
  have hl := h.f_le
  have hbp : pS a n i ≤ bS a n i := by unfold bS beginN; split <;> omega
  have hpg := h.p_ge
  refine ⟨h3, by omega, by omega, fun j h0 hj => ?_, fun hlt => ?_, fun _ hfull => ?_⟩
  · by_cases hji : j = i
    · subst hji
      rcases hi with rfl | hi
      · omega
      · exact hi
    · exact h.low j h0 (by omega)
  · have hlt : fS a n (i + 1) < n := by omega
    rw [h.fit hi, h5 (by omega), show n - fS a n i - min (n - fS a n i) (leftN (bS a n i) - 11) = n - fS a n (i + 1) from by omega]
  · rw [h.fit hi]
    exact h4 (by omega)
theorem Run.go {a n i : Nat} (h : Run a n i) (hi : i = 0 ∨ fS a n i < n) (hf : Fit a n) : bS a n i ≠ 832 := fun hb => h.stop hi hb hf
/-- so many pieces -/
def Cuts (a n m : Nat) : Prop := 0 < m ∧ fS a n m = n ∧ (∀ j, 0 < j → j < m → fS a n j < n) ∧ ∀ j, j ≤ m → Run a n j
theorem cuts_one {a n m k : Nat} (h : Cuts a n m) (g : Cuts a n k) : m = k := by
  obtain ⟨h1, h2, h3, _⟩ := h
  obtain ⟨g1, g2, g3, _⟩ := g
  rcases Nat.lt_trichotomy m k with h | h | h
  · have := g3 m h1 h; omega
  · exact h
  · have := h3 k g1 h; omega
open Classical in
noncomputable def cnt (a n : Nat) : Nat := if h : ∃ m, Cuts a n m then h.choose else 0
theorem cnt_eq {a n m : Nat} (h : Cuts a n m) : cnt a n = m := by
  have hx : ∃ m, Cuts a n m := ⟨m, h⟩
  unfold cnt
  rw [dif_pos hx]
  exact cuts_one hx.choose_spec h
theorem cuts_from {a n : Nat} (hf : Fit a n) : ∀ (q i : Nat), 833 ≤ q + 11 * i → (i = 0 ∨ fS a n i < n) → (∀ j, j ≤ i → Run a n j) → ∃ m, Cuts a n m
  | 0, i, hq, _, h => by have := (h i (Nat.le_refl _)).p_ge; have := (h i (Nat.le_refl _)).p_le; omega
  | q + 1, i, hq, hi, h => by
    have hr := h i (Nat.le_refl _)
    have hn := hr.next hi (hr.go hi hf)
    have h2 : ∀ j, j ≤ i + 1 → Run a n j := fun j hj => by
      by_cases hji : j = i + 1
      · subst hji; exact hn
      · exact h j (by omega)
    by_cases hlt : fS a n (i + 1) < n
    · exact cuts_from hf q (i + 1) (by omega) (.inr hlt) h2
    · exact ⟨i + 1, by omega, by have := hn.f_le; omega, hn.low, h2⟩
theorem cuts_cnt {a n : Nat} (ha : a ≤ 832) (hf : Fit a n) : Cuts a n (cnt a n) := by
  have h0 : ∀ j, j ≤ 0 → Run a n j := by
    intro j hj
    have e : j = 0 := by omega
    rw [e]
    exact Run.zero ha
  obtain ⟨m, hm⟩ := cuts_from hf 833 0 (by omega) (.inl rfl) h0
  rw [cnt_eq hm]; exact hm
/-- where the walk stops -/
theorem Run.end_ {a n i : Nat} (ha : a ≤ 832) (h : Run a n i) (h0 : 0 < i) (hn : fS a n i = n) : Fit a n ∧ cnt a n = i := by
  have hf := h.full h0 hn
  refine ⟨hf, ?_⟩
  obtain ⟨c1, c2, c3, c4⟩ := cuts_cnt ha hf
  rcases Nat.lt_trichotomy (cnt a n) i with hlt | he | hlt
  · have := h.low _ c1 hlt; omega
  · exact he
  · have := c3 i h0 hlt; omega
def kindN : Bool → Bool → Int
  | true, true => 1
  | true, false => 2
  | false, true => 4
  | false, false => 3
/-- the i-th piece -/
def pcS (a n i : Nat) : PC := ⟨bS a n i, kindN (decide (i = 0)) (decide (fS a n (i + 1) = n)), fS a n i, fS a n (i + 1)⟩
/-- the first i pieces -/
def firstP (a n i : Nat) : List PC := (List.range i).map (pcS a n)
theorem firstP_len (a n i : Nat) : (firstP a n i).length = i := by simp [firstP]
theorem firstP_next (a n i : Nat) : firstP a n i ++ [pcS a n i] = firstP a n (i + 1) := by simp [firstP, List.range_succ]
theorem firstP_get (a n i j : Nat) (h : j < i) : (firstP a n i)[j]? = some (pcS a n j) := by simp [firstP, h]
/-- the reference's pieces, ahead of its last words -/
def pc3 (a n i : Nat) : PC := ⟨bS a n i, 3, fS a n i, fS a n (i + 1)⟩
def firstR (a n i : Nat) : List PC := (List.range i).map (pc3 a n)
theorem firstR_len (a n i : Nat) : (firstR a n i).length = i := by simp [firstR]
theorem firstR_next (a n i : Nat) : firstR a n i ++ [pc3 a n i] = firstR a n (i + 1) := by simp [firstR, List.range_succ]
theorem firstR_get (a n i j : Nat) (h : j < i) : (firstR a n i)[j]? = some (pc3 a n j) := by simp [firstR, h]
theorem last_iff {a n m : Nat} (h : Cuts a n m) {j : Nat} (hj : j < m) : fS a n (j + 1) = n ↔ j + 1 = m := by
  obtain ⟨h1, h2, h3, _⟩ := h
  constructor
  · intro e
    by_cases hlt : j + 1 < m
    · have := h3 (j + 1) (by omega) hlt; omega
    · omega
  · intro e; rw [e]; exact h2
theorem kinds_one {a n : Nat} (h : Cuts a n 1) : firstP a n 1 = [{ pc3 a n 0 with kind := 1 }] := by
  have := (last_iff h (j := 0) (by omega)).2 rfl
  simp [firstP, pcS, pc3, this, kindN]
theorem kinds_more {a n m : Nat} (h : Cuts a n m) (h1 : 1 < m) : firstP a n m = ((firstR a n m).set 0 { pc3 a n 0 with kind := 2 }).set (m - 1) { pc3 a n (m - 1) with kind := 4 } := by
  refine List.ext_getElem? fun j => ?_
  by_cases hj : j < m
  · rw [firstP_get _ _ _ _ hj]
    have hl := last_iff h hj
    by_cases h2 : j = m - 1
    · subst h2
      rw [List.getElem?_set_self (by rw [List.length_set, firstR_len]; exact hj)]
      have h3 : fS a n (m - 1 + 1) = n := hl.2 (by omega)
      have h0 : ¬ (m - 1 = 0) := by omega
      simp only [pcS, pc3, decide_eq_true h3, decide_eq_false h0, kindN]
    · rw [List.getElem?_set_ne (Ne.symm h2)]
      have h3 : ¬ fS a n (j + 1) = n := fun e => h2 (by have := hl.1 e; omega)
      by_cases h0 : j = 0
      · subst h0
        rw [List.getElem?_set_self (by rw [firstR_len]; exact hj)]
        simp only [pcS, pc3, decide_eq_false h3, decide_true, kindN]
      · rw [List.getElem?_set_ne (Ne.symm h0), firstR_get _ _ _ _ hj]
        simp only [pcS, pc3, decide_eq_false h3, decide_eq_false h0, kindN]
  · rw [List.getElem?_eq_none (by rw [firstP_len]; omega), List.getElem?_eq_none (by rw [List.length_set, List.length_set, firstR_len]; omega)]
/-! what Cut tells, of any place and any number -/
def fitI (a n : Int) : Bool := decide (0 ≤ n ∧ n ≤ roomI (nr a))
noncomputable def pcsI (a n : Int) : List PC := if fitI a n = true then firstP (nr a) n.toNat (cnt (nr a) n.toNat) else []
noncomputable def endI (a n : Int) : Nat := if fitI a n = true then pS (nr a) n.toNat (cnt (nr a) n.toNat) else 0
theorem fit_nat (a : Int) (n : Nat) : fitI a n = true ↔ Fit (nr a) n := by unfold fitI Fit; simp
theorem fitI_neg (a n : Int) (h : n < 0) : fitI a n = false := by unfold fitI; rw [decide_eq_false]; omega
theorem told_no {a n : Int} (h : fitI a n = false) : pcsI a n = [] ∧ endI a n = 0 := by unfold pcsI endI; rw [h]; exact ⟨rfl, rfl⟩
theorem told_yes {a : Int} {n m : Nat} (h : Cuts (nr a) n m) (hf : Fit (nr a) n) : fitI a n = true ∧ pcsI a n = firstP (nr a) n m ∧ endI a n = pS (nr a) n m := by
  have h1 := (fit_nat a n).2 hf
  unfold pcsI endI
  rw [h1, if_pos rfl, if_pos rfl, Int.toNat_natCast, cnt_eq h]
  exact ⟨rfl, rfl, rfl⟩
/-- the pieces of a record that fits -/
theorem told_of {a n : Int} (h : fitI a n = true) : ∃ k m : Nat, n = (k : Int) ∧ k ≤ 832 ∧ m ≤ 75 ∧ Cuts (nr a) k m ∧ Fit (nr a) k := by
  have h0 : 0 ≤ n ∧ n ≤ roomI (nr a) := of_decide_eq_true h
  have hr := room_le _ (nr_le a)
  obtain ⟨k, rfl⟩ : ∃ k : Nat, n = (k : Int) := ⟨n.toNat, by omega⟩
  have hf : Fit (nr a) k := h0.2
  have hc := cuts_cnt (nr_le a) hf
  have hl := (hc.2.2.2 _ (Nat.le_refl _)).p_le
  have hg := (hc.2.2.2 _ (Nat.le_refl _)).p_ge
  exact ⟨k, _, rfl, by omega, by omega, hc, hf⟩
end Go.Proofs.YtepaghohojomeaaDoor
/-
  A FRAGMENT (layer 13), as a plain thing. No condition.
-/
namespace Go.Proofs.YtepaghohojomeaaDoor
/-- a fragment -/
structure FR where
  kind : Int
  epoch : Int
  data : List Int
deriving instance DecidableEq for FR
end Go.Proofs.YtepaghohojomeaaDoor
/-
  THE PIECES OF A RECORD, AND THEIR FRAGMENTS (layer 14), as plain things. No condition.
-/
namespace Go.Proofs.YtepaghohojomeaaDoor
theorem Cuts.at_ {a n m j : Nat} (hc : Cuts a n m) (hf : Fit a n) (hj : j < m) : Run a n j ∧ Step a n j := by
  have hr := hc.2.2.2 j (by omega)
  have hi : j = 0 ∨ fS a n j < n := by
    by_cases h0 : j = 0
    · exact .inl h0
    · exact .inr (hc.2.2.1 j (by omega) hj)
  exact ⟨hr, hr.step (hr.go hi hf)⟩
/-- which bytes a piece has -/
theorem pc_ok {x n : Int} {i : Nat} {c : PC} (h : (pcsI x n)[i]? = some c) : ∃ l k : Nat, c.from_ = (l : Int) ∧ c.to = ((l + k : Nat) : Int) ∧ ((l + k : Nat) : Int) ≤ n ∧ l + k ≤ 832 := by
  cases hq : fitI x n with
  | false => rw [(told_no hq).1] at h; simp at h
  | true =>
    obtain ⟨k, m, rfl, hk, hm, hc, hf⟩ := told_of hq
    rw [(told_yes hc hf).2.1] at h
    have hi : i < m := by have := (List.getElem?_eq_some_iff.1 h).1; rwa [firstP_len] at this
    rw [firstP_get _ _ _ _ hi] at h
    obtain rfl := Option.some.inj h
    obtain ⟨_, hs⟩ := hc.at_ hf hi
    have h1 := hs.f_ge
    have h2 := hs.f_le
    exact ⟨fS (nr x) k i, fS (nr x) k (i + 1) - fS (nr x) k i, rfl, by show ((fS (nr x) k (i + 1) : Nat) : Int) = _; omega, by omega, by omega⟩
theorem pcs_len (x n : Int) : (pcsI x n).length ≤ 75 := by
  cases hq : fitI x n with
  | false => rw [(told_no hq).1]; simp
  | true =>
    obtain ⟨k, m, rfl, hk, hm, hc, hf⟩ := told_of hq
    rw [(told_yes hc hf).2.1, firstP_len]; exact hm
/-- a piece's fragment -/
def frOf (ep : Int) (zs : List Int) (c : PC) : FR := ⟨c.kind, ep, (zs.drop c.from_.toNat).take (c.to.toNat - c.from_.toNat)⟩
theorem frOf_data {ep : Int} {zs : List Int} {c : PC} {l k : Nat} (h1 : c.from_ = (l : Int)) (h2 : c.to = ((l + k : Nat) : Int)) : frOf ep zs c = ⟨c.kind, ep, (zs.drop l).take k⟩ := by
  unfold frOf
  rw [h1, h2, Int.toNat_natCast, Int.toNat_natCast, Nat.add_sub_cancel_left]
end Go.Proofs.YtepaghohojomeaaDoor
/-
  PLAIN MATHEMATICS OF NUMBERS AS BYTES (of stage 1's XMath what XBase lacks). No condition.
-/
namespace Go.Proofs.YtepaghohojomeaaDoor
/-- zigzag -/
def zigI (n : Int) : Int := if n < 0 then -2 * n - 1 else 2 * n
def zagI (u : Int) : Int := if u % 2 = 1 then -(u / 2) - 1 else u / 2
theorem zag_zig (n : Int) : zagI (zigI n) = n := by unfold zagI zigI; split <;> split <;> omega
theorem zig_zag (u : Int) (h : 0 ≤ u) : zigI (zagI u) = u := by unfold zagI zigI; split <;> split <;> omega
theorem zig_U64 (n : Int) (h : I63 n) : U64 (zigI n) := by unfold I63 at h; unfold U64 zigI; split <;> omega
theorem zag_I63 (u : Int) (h : U64 u) : I63 (zagI u) := by unfold U64 at h; unfold I63 zagI; split <;> omega

/-- 2^k as a uint64 -/
def two (k : Nat) : Int := 2 ^ k % 18446744073709551616
theorem two_succ (k : Nat) : IntKind.u64.wrap (two k * 2) = two (k + 1) := by
  rw [Go.IntKind.wrap_u64]; unfold two; rw [Int.pow_succ]; omega
theorem two_zero : two 0 = 1 := by decide
theorem two_small (k : Nat) (h : k < 64) : two k = 2 ^ k := by
  unfold two
  have h1 := pow_split k 63 (by omega)
  have h2 := pow_pos' (63 - k)
  have h3 := pow_pos' k
  refine Int.emod_eq_of_lt (by omega) ?_
  have : (2 : Int) ^ k * 1 ≤ 2 ^ k * 2 ^ (63 - k) := Int.mul_le_mul_of_nonneg_left (by omega) (by omega)
  have e : (2 : Int) ^ 63 = 9223372036854775808 := by decide
  omega
theorem two_pos (k : Nat) (h : k < 64) : 1 ≤ two k := by rw [two_small k h]; have := pow_pos' k; omega
theorem two_bd (k : Nat) : 0 ≤ two k ∧ two k ≤ 18446744073709551615 := by unfold two; omega
theorem two_big (k : Nat) (h : 64 ≤ k) : two k = 0 := by
  unfold two
  rw [pow_split 64 k h]
  have e : (2 : Int) ^ 64 = 18446744073709551616 := by decide
  rw [e]; exact Int.mul_emod_right _ _

/-- the nearer one of 0 and m -/
def clampI (n m : Int) : Int := min (max n 0) m

/-- the lowest k bytes of n -/
def putL (n : Int) (k : Nat) : List Int := (List.range k).map fun i => n / 2 ^ (8 * i) % 256
theorem putL_length (n : Int) (k : Nat) : (putL n k).length = k := by simp [putL]
theorem putL_succ (n : Int) (k : Nat) : putL n (k + 1) = putL n k ++ [n / 2 ^ (8 * k) % 256] := by simp [putL, List.range_succ]
theorem putL_get (n : Int) (k j : Nat) (h : j < k) : (putL n k).getD j 0 = n / 2 ^ (8 * j) % 256 := by simp [putL, List.getD, h]
/-- the first j of them, zeros behind -/
def putP (n : Int) (j k : Nat) : List Int := (List.range k).map fun i => if i < j then n / 2 ^ (8 * i) % 256 else 0
theorem putP_zero (n : Int) (k : Nat) : putP n 0 k = List.replicate k 0 := by
  simp only [putP, Nat.not_lt_zero, if_false]
  exact List.ext_getElem (by simp) (by simp)
theorem putP_full (n : Int) (k : Nat) : putP n k k = putL n k := by
  unfold putP putL
  exact List.map_congr_left fun i hi => by simp [List.mem_range.1 hi]
theorem putP_succ (n : Int) (j k : Nat) : (putP n j k).set j (n / 2 ^ (8 * j) % 256) = putP n (j + 1) k := by
  apply List.ext_getElem
  · simp [putP]
  · intro i h1 h2
    simp only [putP, List.length_set, List.length_map, List.length_range] at h1
    rw [List.getElem_set]
    simp only [putP, List.getElem_map, List.getElem_range]
    split
    · subst_vars; simp
    · rename_i hne
      by_cases hlt : i < j
      · simp [hlt, Nat.lt_succ_of_lt hlt]
      · have : ¬ i < j + 1 := by omega
        simp [hlt, this]

/-- the number of the first k bytes of l -/
def getI (l : List Int) : Nat → Int
  | 0 => 0
  | k + 1 => getI l k + l.getD k 0 * 2 ^ (8 * k)
theorem getI_bd (l : List Int) (hl : Bytes l) (k : Nat) : 0 ≤ getI l k ∧ getI l k < 2 ^ (8 * k) := by
  induction k with
  | zero => simp [getI]
  | succ k ih =>
    have hb := hl k
    have hp := pow_pos' (8 * k)
    have e : (2 : Int) ^ (8 * (k + 1)) = 2 ^ (8 * k) * 256 := by rw [show 8 * (k + 1) = 8 * k + 8 from by omega, Int.pow_add]; rfl
    simp only [getI]
    generalize (2 : Int) ^ (8 * k) = p at *
    generalize l.getD k 0 = c at *
    have h1 : 0 ≤ c * p := Int.mul_nonneg hb.1 (by omega)
    have h2 : c * p ≤ 255 * p := Int.mul_le_mul_of_nonneg_right hb.2 (by omega)
    omega
theorem getI_wrap (l : List Int) (hl : Bytes l) (k : Nat) (hk : k < 8) : IntKind.u64.wrap (l.getD k 0 * 2 ^ (8 * k)) = l.getD k 0 * 2 ^ (8 * k) := by
  rw [Go.IntKind.wrap_u64]
  have hb := hl k
  have hp := pow_pos' (8 * k)
  have hs := pow_split (8 * k) 56 (by omega)
  have h2 := pow_pos' (56 - 8 * k)
  have e : (2 : Int) ^ 56 = 72057594037927936 := by decide
  have h3 : (2 : Int) ^ (8 * k) * 1 ≤ 2 ^ (8 * k) * 2 ^ (56 - 8 * k) := Int.mul_le_mul_of_nonneg_left (by omega) (by omega)
  generalize (2 : Int) ^ (8 * k) = p at *
  generalize l.getD k 0 = c at *
  have h4 : 0 ≤ c * p := Int.mul_nonneg hb.1 (by omega)
  have h5 : c * p ≤ 255 * p := Int.mul_le_mul_of_nonneg_right hb.2 (by omega)
  omega
/-- joined by 'or': what is below and what is above share no bit -/
theorem or_join (i : Nat) (x y : Int) (h0 : 0 ≤ y) (h1 : y < 2 ^ i) (h2 : 0 ≤ x) (h3 : x % 2 ^ i = 0) (h4 : x < 18446744073709551616) (h5 : y < 18446744073709551616) : bits .or .u64 y x = y + x := by
  rw [Go.u64_or y x h0 h5 h2 h4]
  obtain ⟨a, rfl⟩ := Int.eq_ofNat_of_zero_le h2
  obtain ⟨b, rfl⟩ := Int.eq_ofNat_of_zero_le h0
  have e : a % 2 ^ i = 0 := by exact_mod_cast h3
  have f : b < 2 ^ i := by exact_mod_cast h1
  have := Go.nat_join i a b e f
  simp only [Int.toNat_natCast]
  rw [Nat.or_comm, this]
  simp; omega
theorem getI_or (l : List Int) (hl : Bytes l) (k : Nat) (hk : k < 8) : bits .or .u64 (getI l k) (IntKind.u64.wrap (l.getD k 0 * 2 ^ (8 * k))) = getI l (k + 1) := by
  have hw := getI_wrap l hl k hk
  rw [hw]
  have hb := getI_bd l hl k
  have hb1 := getI_bd l hl (k + 1)
  have hc := hl k
  have hp := pow_pos' (8 * k)
  have hbig : (2 : Int) ^ (8 * (k + 1)) ≤ 18446744073709551616 := by
    have hs := pow_split (8 * (k + 1)) 64 (by omega)
    have h2 := pow_pos' (64 - 8 * (k + 1))
    have h3 : (2 : Int) ^ (8 * (k + 1)) * 1 ≤ 2 ^ (8 * (k + 1)) * 2 ^ (64 - 8 * (k + 1)) := Int.mul_le_mul_of_nonneg_left (by omega) (Int.le_of_lt (pow_pos' _))
    have e : (2 : Int) ^ 64 = 18446744073709551616 := by decide
    omega
  have hx : 0 ≤ l.getD k 0 * 2 ^ (8 * k) := Int.mul_nonneg hc.1 (by omega)
  simp only [getI] at hb1
  rw [or_join (8 * k) _ _ hb.1 hb.2 hx (Int.mul_emod_left _ _) (by omega) (by omega)]
  rfl
theorem getI_ref (l : List Int) (hl : Bytes l) (k : Nat) (hk : k < 8) : IntKind.u64.wrap (getI l k + IntKind.u64.wrap (l.getD k 0 * two (8 * k))) = getI l (k + 1) := by
  rw [two_small _ (by omega), getI_wrap l hl k hk]
  have hb1 := getI_bd l hl (k + 1)
  simp only [getI] at hb1 ⊢
  have hs := pow_split (8 * (k + 1)) 64 (by omega)
  have h2 := pow_pos' (64 - 8 * (k + 1))
  have h3 : (2 : Int) ^ (8 * (k + 1)) * 1 ≤ 2 ^ (8 * (k + 1)) * 2 ^ (64 - 8 * (k + 1)) := Int.mul_le_mul_of_nonneg_left (by omega) (Int.le_of_lt (pow_pos' _))
  have e : (2 : Int) ^ 64 = 18446744073709551616 := by decide
  rw [Go.IntKind.wrap_u64]
  omega
theorem emod_mul256 (n p : Int) (hp : 0 < p) : n % (p * 256) = n % p + n / p % 256 * p := by
  rw [Int.emod_def n (p * 256), Int.emod_def n p, Int.emod_def (n / p) 256, ← Int.ediv_ediv_of_nonneg (by omega : 0 ≤ p), Int.sub_mul, Int.mul_assoc p 256, Int.mul_comm (n / p) p, Int.mul_assoc 256]
  have : p * (256 * (n / p / 256)) = 256 * (n / p / 256 * p) := by rw [Int.mul_comm p, Int.mul_assoc]
  omega
theorem getI_put (n : Int) (k j : Nat) (hj : j ≤ k) : getI (putL n k) j = n % 2 ^ (8 * j) := by
  induction j with
  | zero => simp [getI]
  | succ j ih =>
    rw [getI, ih (by omega), putL_get n k j (by omega)]
    have e : (2 : Int) ^ (8 * (j + 1)) = 2 ^ (8 * j) * 256 := by rw [show 8 * (j + 1) = 8 * j + 8 from by omega, Int.pow_add]; rfl
    rw [e]
    have hp := pow_pos' (8 * j)
    generalize (2 : Int) ^ (8 * j) = p at *
    exact (emod_mul256 n p (by omega)).symm
theorem putL_bytes (n : Int) (k : Nat) : Bytes (putL n k) := by
  intro j
  by_cases h : j < k
  · rw [putL_get n k j h]; omega
  · simp [putL, List.getD, h]


/-- the lowest bits -/
def lowI (n m : Int) : Int := if 64 ≤ m then n else n % 2 ^ m.toNat
theorem low_bits (n : Int) (h : U64 n) (c : Nat) (hc : c < 64) : bits .andNot .u64 n (IntKind.u64.wrap (18446744073709551615 * 2 ^ c)) = n % 2 ^ c := by
  unfold U64 at h
  have hp := pow_pos' c
  have hs := pow_split c 63 (by omega)
  have h2 := pow_pos' (63 - c)
  have h3 : (2 : Int) ^ c * 1 ≤ 2 ^ c * 2 ^ (63 - c) := Int.mul_le_mul_of_nonneg_left (by omega) (by omega)
  have e : (2 : Int) ^ 63 = 9223372036854775808 := by decide
  have hw : IntKind.u64.wrap (18446744073709551615 * 2 ^ c) = 18446744073709551616 - 2 ^ c := by
    rw [Go.IntKind.wrap_u64]
    generalize (2 : Int) ^ c = p at *
    omega
  rw [hw, Go.u64_andNot _ _ h.1 (by omega) (by omega) (by omega)]
  obtain ⟨a, rfl⟩ := Int.eq_ofNat_of_zero_le h.1
  have e2 : (18446744073709551615 - (18446744073709551616 - (2 : Int) ^ c).toNat : Nat) = 2 ^ c - 1 := by
    have : (2 : Int) ^ c = ((2 ^ c : Nat) : Int) := by simp
    rw [this] at hp h3 hs ⊢
    omega
  rw [e2, Int.toNat_natCast, Nat.and_two_pow_sub_one_eq_mod]
  simp
theorem low_bits64 (n : Int) (h : U64 n) : bits .andNot .u64 n (IntKind.u64.wrap (18446744073709551615 * 2 ^ 64)) = n := by
  unfold U64 at h
  have hw : IntKind.u64.wrap (18446744073709551615 * 2 ^ 64) = 0 := by decide
  rw [hw, Go.u64_andNot _ _ h.1 (by omega) (by omega) (by omega)]
  obtain ⟨a, rfl⟩ := Int.eq_ofNat_of_zero_le h.1
  have : (18446744073709551615 - (0 : Int).toNat : Nat) = 2 ^ 64 - 1 := by decide
  rw [this, Int.toNat_natCast, Nat.and_two_pow_sub_one_eq_mod]
  simp
  omega
theorem emod_mul2 (n p : Int) (hp : 0 < p) : n % (p * 2) = n % p + n / p % 2 * p := by
  rw [Int.emod_def n (p * 2), Int.emod_def n p, Int.emod_def (n / p) 2, ← Int.ediv_ediv_of_nonneg (by omega : 0 ≤ p), Int.sub_mul, Int.mul_assoc p 2, Int.mul_comm (n / p) p, Int.mul_assoc 2]
  have : p * (2 * (n / p / 2)) = 2 * (n / p / 2 * p) := by rw [Int.mul_comm p, Int.mul_assoc]
  omega
theorem low_two (n m : Int) (h : 0 ≤ m) (h2 : m < 64) : n % two m.toNat = lowI n m := by
  unfold lowI; rw [if_neg (by omega), two_small _ (by omega)]

/-- turning -/
def rotI (x : Int) (s : Nat) : Int := x % 2 ^ (32 - s) * 2 ^ s + x / 2 ^ (32 - s)
def turnS (x : Int) (s : Nat) : Nat → Int
  | 0 => 0
  | i + 1 => turnS x s i + x / 2 ^ i % 2 * 2 ^ ((i + s) % 32)
theorem turnS_low (x : Int) (s i : Nat) (h : i + s ≤ 32) : turnS x s i = x % 2 ^ i * 2 ^ s := by
  induction i with
  | zero => simp [turnS]
  | succ i ih =>
    have e : (i + s) % 32 = i + s := Nat.mod_eq_of_lt (by omega)
    rw [turnS, ih (by omega), e, Int.pow_succ, emod_mul2 _ _ (pow_pos' i), Int.add_mul, Int.pow_add, Int.mul_assoc]
theorem turnS_high (x : Int) (s d : Nat) (hs : s < 32) (hd : d ≤ s) : turnS x s (32 - s + d) = x % 2 ^ (32 - s) * 2 ^ s + x / 2 ^ (32 - s) % 2 ^ d := by
  induction d with
  | zero => rw [Nat.add_zero, turnS_low x s _ (by omega)]; simp
  | succ d ih =>
    have e : (32 - s + d + s) % 32 = d := by omega
    rw [← Nat.add_assoc, turnS, ih (by omega), e, Int.pow_succ 2 d, emod_mul2 _ _ (pow_pos' d), Int.pow_add, ← Int.ediv_ediv_of_nonneg (Int.le_of_lt (pow_pos' _))]
    omega
theorem div_lt_pow (x : Int) (s : Nat) (h : 0 ≤ x ∧ x < 4294967296) (hs : s ≤ 32) : 0 ≤ x / 2 ^ (32 - s) ∧ x / 2 ^ (32 - s) < 2 ^ s := by
  have hp := pow_pos' (32 - s)
  refine ⟨Int.ediv_nonneg h.1 (by omega), Int.ediv_lt_of_lt_mul hp ?_⟩
  rw [← Int.pow_add, show s + (32 - s) = 32 from by omega]
  exact h.2
theorem turnS_all (x : Int) (s : Nat) (h : 0 ≤ x ∧ x < 4294967296) (hs : s < 32) : turnS x s 32 = rotI x s := by
  have := turnS_high x s s hs (Nat.le_refl _)
  rw [show 32 - s + s = 32 from by omega] at this
  have hd := div_lt_pow x s h (by omega)
  rw [this, Int.emod_eq_of_lt hd.1 hd.2]
  rfl
theorem low_up_bd (x : Int) (s i : Nat) (h : i + s ≤ 32) : 0 ≤ x % 2 ^ i * 2 ^ s ∧ x % 2 ^ i * 2 ^ s + 2 ^ s ≤ 4294967296 := by
  have hi := pow_pos' i
  have hs := pow_pos' s
  have h1 := Int.emod_nonneg x (Int.ne_of_gt hi)
  have h2 := Int.emod_lt_of_pos x hi
  have h3 : (x % 2 ^ i + 1) * 2 ^ s ≤ 2 ^ i * 2 ^ s := Int.mul_le_mul_of_nonneg_right (by omega) (by omega)
  have h4 := pow_split (i + s) 32 h
  have h5 := pow_pos' (32 - (i + s))
  have h6 : (2 : Int) ^ (i + s) * 1 ≤ 2 ^ (i + s) * 2 ^ (32 - (i + s)) := Int.mul_le_mul_of_nonneg_left (by omega) (Int.le_of_lt (pow_pos' _))
  have e : (2 : Int) ^ 32 = 4294967296 := by decide
  rw [Int.pow_add] at h6
  rw [Int.pow_add] at h4
  rw [Int.add_mul, Int.one_mul] at h3
  exact ⟨Int.mul_nonneg h1 (by omega), by omega⟩
theorem turnS_bd (x : Int) (s i : Nat) (hs : s < 32) (hi : i ≤ 32) : 0 ≤ turnS x s i ∧ turnS x s i < 4294967296 := by
  by_cases h : i + s ≤ 32
  · rw [turnS_low x s i h]; have := low_up_bd x s i h; have := pow_pos' s; omega
  · have e : i = 32 - s + (i + s - 32) := by omega
    have hb := low_up_bd x s (32 - s) (by omega)
    have hd : (2 : Int) ^ (i + s - 32) ≤ 2 ^ s := by
      rw [pow_split (i + s - 32) s (by omega)]
      have h5 := pow_pos' (s - (i + s - 32))
      have h6 : (2 : Int) ^ (i + s - 32) * 1 ≤ 2 ^ (i + s - 32) * 2 ^ (s - (i + s - 32)) := Int.mul_le_mul_of_nonneg_left (by omega) (Int.le_of_lt (pow_pos' _))
      omega
    have hp := pow_pos' (i + s - 32)
    have h1 := Int.emod_nonneg (x / 2 ^ (32 - s)) (Int.ne_of_gt hp)
    have h2 := Int.emod_lt_of_pos (x / 2 ^ (32 - s)) hp
    rw [e, turnS_high x s _ hs (by omega)]
    omega
theorem turnS_step (x : Int) (s i : Nat) (hs : s < 32) (hi : i < 32) : IntKind.u32.wrap (turnS x s i + 2 ^ ((i + s) % 32)) = turnS x s i + 2 ^ ((i + s) % 32) ∨ x / 2 ^ i % 2 ≠ 1 := by
  by_cases hb : x / 2 ^ i % 2 = 1
  · left
    have := turnS_bd x s (i + 1) hs (by omega)
    rw [turnS, hb, Int.one_mul] at this
    rw [Go.IntKind.wrap_u32]; omega
  · right; exact hb
theorem or_join32 (i : Nat) (x y : Int) (h0 : 0 ≤ y) (h1 : y < 2 ^ i) (h2 : 0 ≤ x) (h3 : x % 2 ^ i = 0) (h4 : x < 4294967296) (h5 : y < 4294967296) : bits .or .u32 x y = x + y := by
  rw [Go.u32_or x y h2 h4 h0 h5]
  obtain ⟨a, rfl⟩ := Int.eq_ofNat_of_zero_le h2
  obtain ⟨b, rfl⟩ := Int.eq_ofNat_of_zero_le h0
  have e : a % 2 ^ i = 0 := by exact_mod_cast h3
  have f : b < 2 ^ i := by exact_mod_cast h1
  have := Go.nat_join i a b e f
  simp only [Int.toNat_natCast]
  rw [this]
  simp
theorem up_mod (x : Int) (s : Nat) (hs : s ≤ 32) : x * 2 ^ s % 4294967296 = x % 2 ^ (32 - s) * 2 ^ s := by
  have e : (4294967296 : Int) = 2 ^ (32 - s) * 2 ^ s := by rw [← Int.pow_add, show 32 - s + s = 32 from by omega]; decide
  rw [e, Int.mul_comm x, Int.mul_comm (2 ^ (32 - s)), Int.mul_emod_mul_of_pos _ _ (pow_pos' s), Int.mul_comm]
theorem turn_bits (x : Int) (s : Nat) (h : 0 ≤ x ∧ x < 4294967296) (hs : s < 32) : bits .or .u32 (x * 2 ^ s % 4294967296) (x / 2 ^ (32 - s)) = rotI x s := by
  have hd := div_lt_pow x s h (by omega)
  have hb := low_up_bd x s (32 - s) (by omega)
  rw [up_mod x s (by omega)]
  have hp := pow_pos' s
  rw [or_join32 s _ _ hd.1 hd.2 hb.1 (Int.mul_emod_left _ _) (by omega) (by omega)]
  rfl
theorem rotI_bd (x : Int) (s : Nat) (h : 0 ≤ x ∧ x < 4294967296) (hs : s < 32) : 0 ≤ rotI x s ∧ rotI x s < 4294967296 := by
  rw [← turnS_all x s h hs]; exact turnS_bd x s 32 hs (by omega)
theorem rot_back (x : Int) (s : Nat) (h : 0 ≤ x ∧ x < 4294967296) (h0 : 0 < s) (hs : s < 32) : rotI (rotI x s) (32 - s) = x := by
  have hd := div_lt_pow x s h (by omega)
  have hp := pow_pos' s
  unfold rotI
  rw [show 32 - (32 - s) = s from by omega]
  have e1 : (x % 2 ^ (32 - s) * 2 ^ s + x / 2 ^ (32 - s)) % 2 ^ s = x / 2 ^ (32 - s) := by
    rw [Int.add_comm, Int.add_mul_emod_self_right, Int.emod_eq_of_lt hd.1 hd.2]
  have e2 : (x % 2 ^ (32 - s) * 2 ^ s + x / 2 ^ (32 - s)) / 2 ^ s = x % 2 ^ (32 - s) := by
    rw [Int.add_comm, Int.add_mul_ediv_right _ _ (by omega), Int.ediv_eq_zero_of_lt hd.1 hd.2]; omega
  rw [e1, e2]
  have := Int.emod_add_mul_ediv x (2 ^ (32 - s))
  rw [Int.mul_comm] at this
  omega
theorem rot_zero (x : Int) (h : 0 ≤ x ∧ x < 4294967296) : rotI x 0 = x := by
  unfold rotI
  have e : (2 : Int) ^ 32 = 4294967296 := by decide
  simp only [Nat.sub_zero, e, Int.pow_zero]
  omega
/-- the bytes of the number that bytes tell -/
theorem getI_byte (l : List Int) (hl : Bytes l) (k : Nat) : ∀ j, j < k → getI l k / 2 ^ (8 * j) % 256 = l.getD j 0 := by
  induction k with
  | zero => intro j h; omega
  | succ k ih =>
    intro j hj
    have hb := hl k
    have hp := pow_pos' (8 * j)
    show (getI l k + l.getD k 0 * 2 ^ (8 * k)) / 2 ^ (8 * j) % 256 = l.getD j 0
    by_cases h : j = k
    · subst h
      have := getI_bd l hl j
      rw [Int.add_mul_ediv_right _ _ (by omega), Int.ediv_eq_zero_of_lt this.1 this.2]
      omega
    · have hs : (2 : Int) ^ (8 * k) = 2 ^ (8 * j) * (256 * 2 ^ (8 * (k - j - 1))) := by
        rw [show (256 : Int) = 2 ^ 8 from rfl, ← Int.pow_add, ← Int.pow_add]; congr 1; omega
      rw [hs, show l.getD k 0 * (2 ^ (8 * j) * (256 * 2 ^ (8 * (k - j - 1)))) = 2 ^ (8 * j) * (256 * (l.getD k 0 * 2 ^ (8 * (k - j - 1)))) from by
        rw [← Int.mul_assoc, Int.mul_comm (l.getD k 0), Int.mul_assoc, Int.mul_left_comm (l.getD k 0)],
        Int.add_mul_ediv_left _ _ (by omega), Int.add_mul_emod_self_left]
      exact ih j (by omega)
theorem putL_getI (l : List Int) (hl : Bytes l) (k : Nat) (hk : l.length = k) : putL (getI l k) k = l := by
  refine List.ext_getElem (by rw [putL_length, hk]) fun j h1 h2 => ?_
  have h3 := getI_byte l hl k j (by omega)
  have h4 := putL_get (getI l k) k j (by omega)
  rw [h3] at h4
  simpa [List.getD, h1, h2] using h4
theorem bytes_take {l : List Int} (h : Bytes l) (k : Nat) : Bytes (l.take k) := bytes_of_mem fun x hx => h.mem x (List.mem_of_mem_take hx)
theorem bytes_drop {l : List Int} (h : Bytes l) (k : Nat) : Bytes (l.drop k) := bytes_of_mem fun x hx => h.mem x (List.mem_of_mem_drop hx)
end Go.Proofs.YtepaghohojomeaaDoor
/-
  NUMBERS THAT ARE BYTES, member by member. Plain mathematics. No condition.
-/
namespace Go.Proofs.YtepaghohojomeaaDoor
def isB (l : List Int) : Prop := ∀ x ∈ l, 0 ≤ x ∧ x ≤ 255
theorem isB.drop {l : List Int} (h : isB l) (k : Nat) : isB (l.drop k) := fun x hx => h x (List.mem_of_mem_drop hx)
theorem isB.take {l : List Int} (h : isB l) (k : Nat) : isB (l.take k) := fun x hx => h x (List.mem_of_mem_take hx)
theorem isB.append {a b : List Int} (ha : isB a) (hb : isB b) : isB (a ++ b) := fun x hx => (List.mem_append.1 hx).elim (ha x) (hb x)
theorem isB.nil : isB [] := fun x hx => by simp at hx
end Go.Proofs.YtepaghohojomeaaDoor
/-
  PLAIN MATHEMATICS of layer 3 (crc): one step, many steps, the register behind bytes; it is linear; nothing is lost by a step; sums of joined texts; bursts; a table of half a byte's steps; a linear map by the images of 32 bits. Nothing here speaks of the program. No condition.
-/
namespace Go.Proofs.YtepaghohojomeaaDoor

/-- one step -/
def st (x : Nat) : Nat := if x % 2 = 1 then x / 2 ^^^ 2197175160 else x / 2
/-- n steps -/
def stn : Nat → Nat → Nat
  | 0, x => x
  | n + 1, x => stn n (st x)
theorem st_lt (x : Nat) (h : x < 4294967296) : st x < 4294967296 := by
  unfold st
  split
  · exact Nat.xor_lt_two_pow (n := 32) (by omega) (by omega)
  · omega
theorem stn_lt (n x : Nat) (h : x < 4294967296) : stn n x < 4294967296 := by
  induction n generalizing x with
  | zero => exact h
  | succ n ih => exact ih _ (st_lt x h)
theorem xor_lt (x y : Nat) (h : x < 4294967296) (k : y < 4294967296) : x ^^^ y < 4294967296 := Nat.xor_lt_two_pow (n := 32) h k
theorem xor_right_comm (a b c : Nat) : a ^^^ b ^^^ c = a ^^^ c ^^^ b := by rw [Nat.xor_assoc, Nat.xor_comm b, ← Nat.xor_assoc]
theorem xor_swap4 (a b c d : Nat) : a ^^^ b ^^^ (c ^^^ d) = a ^^^ c ^^^ (b ^^^ d) := by
  rw [← Nat.xor_assoc, ← Nat.xor_assoc, xor_right_comm a b c]
theorem xor_cancel (a b : Nat) : a ^^^ b ^^^ b = a := by rw [Nat.xor_assoc, Nat.xor_self, Nat.xor_zero]
theorem xor_zero_eq (a b : Nat) (h : a ^^^ b = 0) : a = b := by
  have := xor_cancel a b
  rw [h, Nat.zero_xor] at this
  exact this.symm
theorem st_xor (x y : Nat) : st (x ^^^ y) = st x ^^^ st y := by
  have hm : (x ^^^ y) % 2 = (x % 2 + y % 2) % 2 := by
    rw [show (x ^^^ y) % 2 = (x % 2) ^^^ (y % 2) from Nat.xor_mod_two_pow (n := 1)]
    rcases Nat.mod_two_eq_zero_or_one x with hx | hx <;> rcases Nat.mod_two_eq_zero_or_one y with hy | hy <;> rw [hx, hy] <;> rfl
  unfold st
  rw [Nat.xor_div_two]
  rcases Nat.mod_two_eq_zero_or_one x with hx | hx <;> rcases Nat.mod_two_eq_zero_or_one y with hy | hy
  · rw [if_neg (by omega), if_neg (by omega), if_neg (by omega)]
  · rw [if_pos (by omega), if_neg (by omega), if_pos (by omega), Nat.xor_assoc]
  · rw [if_pos (by omega), if_pos (by omega), if_neg (by omega), xor_right_comm]
  · rw [if_neg (by omega), if_pos (by omega), if_pos (by omega), xor_swap4, Nat.xor_self, Nat.xor_zero]
theorem stn_xor (n x y : Nat) : stn n (x ^^^ y) = stn n x ^^^ stn n y := by
  induction n generalizing x y with
  | zero => rfl
  | succ n ih => simp only [stn]; rw [st_xor, ih]
theorem stn_zero (n : Nat) : stn n 0 = 0 := by
  induction n with
  | zero => rfl
  | succ n ih => exact ih
theorem stn_add (m n x : Nat) : stn (m + n) x = stn n (stn m x) := by
  induction m generalizing x with
  | zero => rw [Nat.zero_add]; rfl
  | succ m ih => rw [show m + 1 + n = (m + n) + 1 from by omega]; exact ih (st x)
theorem stn_succ (n x : Nat) : stn (n + 1) x = st (stn n x) := by rw [stn_add]; rfl
theorem st_zero (z : Nat) (h : z < 4294967296) (hz : st z = 0) : z = 0 := by
  unfold st at hz
  split at hz
  · have := xor_zero_eq _ _ hz; omega
  · omega
/-- nothing is lost -/
theorem stn_inj0 (n z : Nat) (h : z < 4294967296) (hz : stn n z = 0) : z = 0 := by
  induction n generalizing z with
  | zero => exact hz
  | succ n ih => exact st_zero z h (ih _ (st_lt z h) hz)
theorem stn_inj (n x y : Nat) (h : x < 4294967296) (k : y < 4294967296) (e : stn n x = stn n y) : x = y := by
  have h1 : stn n (x ^^^ y) = 0 := by rw [stn_xor, e, Nat.xor_self]
  exact xor_zero_eq _ _ (stn_inj0 n _ (xor_lt x y h k) h1)
theorem st_even (y : Nat) : st (2 * y) = y := by unfold st; rw [if_neg (by omega)]; omega
theorem stn_up (n y : Nat) : stn n (2 ^ n * y) = y := by
  induction n generalizing y with
  | zero => simp [stn]
  | succ n ih => rw [stn, Nat.pow_succ, Nat.mul_comm (2 ^ n) 2, Nat.mul_assoc, st_even]; exact ih y

/-- what is above and what is below share no bit -/
theorem up_xor (n a b : Nat) (h : b < 2 ^ n) : 2 ^ n * a + b = b ^^^ 2 ^ n * a := by
  refine Nat.eq_of_testBit_eq fun j => ?_
  rw [Nat.testBit_two_pow_mul_add a h, Nat.testBit_xor, Nat.testBit_two_pow_mul]
  by_cases hj : j < n
  · simp [hj, Nat.not_le.2 hj]
  · have h1 : b.testBit j = false := Nat.testBit_lt_two_pow (Nat.lt_of_lt_of_le h (Nat.pow_le_pow_right (by omega) (by omega)))
    simp [hj, Nat.not_lt.1 hj, h1]
/-- all bits of 32 turned -/
theorem not32 (s : Nat) (h : s < 4294967296) : 4294967295 - s = s ^^^ 4294967295 := by
  refine Nat.eq_of_testBit_eq fun j => ?_
  have h1 := Nat.testBit_two_pow_sub_succ (x := s) (n := 32) h j
  rw [show (2 : Nat) ^ 32 - (s + 1) = 4294967295 - s from by omega] at h1
  rw [h1, Nat.testBit_xor, show (4294967295 : Nat) = 2 ^ 32 - 1 from rfl, Nat.testBit_two_pow_sub_one]
  by_cases hj : j < 32
  · simp [hj]
  · have h2 : s.testBit j = false := Nat.testBit_lt_two_pow (Nat.lt_of_lt_of_le (show s < 2 ^ 32 from h) (Nat.pow_le_pow_right (by omega) (by omega)))
    simp [hj, h2]
/-- the table of half a byte -/
theorem half_step (x : Nat) : stn 4 x = x / 16 ^^^ stn 4 (x % 16) := by
  have e : x = x % 16 ^^^ 2 ^ 4 * (x / 16) := by rw [← up_xor 4 (x / 16) (x % 16) (by omega)]; omega
  have h : stn 4 x = stn 4 (x % 16 ^^^ 2 ^ 4 * (x / 16)) := by rw [← e]
  rw [h, stn_xor, stn_up, Nat.xor_comm]
theorem byte_step (x : Nat) : stn 8 x = x / 256 ^^^ stn 8 (x % 256) := by
  have e : x = x % 256 ^^^ 2 ^ 8 * (x / 256) := by rw [← up_xor 8 (x / 256) (x % 256) (by omega)]; omega
  have h : stn 8 x = stn 8 (x % 256 ^^^ 2 ^ 8 * (x / 256)) := by rw [← e]
  rw [h, stn_xor, stn_up, Nat.xor_comm]

/-- the register behind bytes -/
def reg : Nat → List Int → Nat
  | r, [] => r
  | r, c :: l => reg (stn 8 (r ^^^ c.toNat)) l
theorem reg_nil (r : Nat) : reg r [] = r := rfl
theorem reg_cons (r : Nat) (c : Int) (l : List Int) : reg r (c :: l) = reg (stn 8 (r ^^^ c.toNat)) l := rfl
theorem reg_append (r : Nat) (a b : List Int) : reg r (a ++ b) = reg (reg r a) b := by
  induction a generalizing r with
  | nil => rfl
  | cons c a ih => exact ih _
theorem reg_lt (l : List Int) (hb : ∀ x ∈ l, 0 ≤ x ∧ x ≤ 255) (r : Nat) (h : r < 4294967296) : reg r l < 4294967296 := by
  induction l generalizing r with
  | nil => exact h
  | cons c l ih =>
    have hc := hb c (by simp)
    show reg (stn 8 (r ^^^ c.toNat)) l < 4294967296
    exact ih (fun x hx => hb x (List.mem_cons_of_mem _ hx)) (stn 8 (r ^^^ c.toNat)) (stn_lt 8 (r ^^^ c.toNat) (xor_lt r c.toNat h (by omega)))
theorem reg_xor (l : List Int) (r s : Nat) : reg (r ^^^ s) l = reg r l ^^^ stn (8 * l.length) s := by
  induction l generalizing r s with
  | nil => rfl
  | cons c l ih =>
    rw [reg_cons, reg_cons, List.length_cons]
    rw [xor_right_comm, stn_xor, ih, show 8 * (l.length + 1) = 8 + 8 * l.length from by omega, stn_add]
theorem reg_inj (l : List Int) (x y : Nat) (h : x < 4294967296) (k : y < 4294967296) (e : reg x l = reg y l) : x = y := by
  have h1 : reg y l = reg x l ^^^ stn (8 * l.length) (x ^^^ y) := by rw [← reg_xor, ← Nat.xor_assoc, Nat.xor_self, Nat.zero_xor]
  rw [← e] at h1
  have h2 : stn (8 * l.length) (x ^^^ y) = 0 := by
    have h3 : reg x l ^^^ reg x l = reg x l ^^^ (reg x l ^^^ stn (8 * l.length) (x ^^^ y)) := congrArg (reg x l ^^^ ·) h1
    rw [Nat.xor_self, ← Nat.xor_assoc, Nat.xor_self, Nat.zero_xor] at h3
    exact h3.symm
  exact xor_zero_eq _ _ (stn_inj0 _ _ (xor_lt x y h k) h2)
/-- the sum, and more of it -/
def moreS (s : Nat) (l : List Int) : Nat := 4294967295 - reg (4294967295 - s) l
def ofS (l : List Int) : Nat := moreS 0 l
theorem moreS_lt (s : Nat) (l : List Int) : moreS s l < 4294967296 := by unfold moreS; omega
theorem ofS_lt (l : List Int) : ofS l < 4294967296 := moreS_lt 0 l
theorem ofS_xor (l : List Int) (hb : ∀ x ∈ l, 0 ≤ x ∧ x ≤ 255) : ofS l = reg 4294967295 l ^^^ 4294967295 := by
  unfold ofS moreS; exact not32 _ (reg_lt l hb _ (by omega))
theorem ofS_join (a b : List Int) (ha : ∀ x ∈ a, 0 ≤ x ∧ x ≤ 255) (hb : ∀ x ∈ b, 0 ≤ x ∧ x ≤ 255) : ofS (a ++ b) = stn (8 * b.length) (ofS a) ^^^ ofS b := by
  have hab : ∀ x ∈ a ++ b, 0 ≤ x ∧ x ≤ 255 := fun x hx => (List.mem_append.1 hx).elim (ha x) (hb x)
  have e : reg 4294967295 a = 4294967295 ^^^ ofS a := by rw [ofS_xor a ha, Nat.xor_comm (reg _ _), ← Nat.xor_assoc, Nat.xor_self, Nat.zero_xor]
  rw [ofS_xor _ hab, reg_append, e, reg_xor, ofS_xor b hb, xor_right_comm, Nat.xor_comm (stn _ _)]
/-- bytes as one number, the lowest first -/
def numB : List Int → Nat
  | [] => 0
  | c :: l => c.toNat + 256 * numB l
theorem numB_lt (l : List Int) (hb : ∀ x ∈ l, 0 ≤ x ∧ x ≤ 255) : numB l < 256 ^ l.length := by
  induction l with
  | nil => simp [numB]
  | cons c l ih =>
    have hc := hb c (by simp)
    have h1 := ih fun x hx => hb x (List.mem_cons_of_mem _ hx)
    simp only [numB, List.length_cons, Nat.pow_succ]
    omega
theorem numB_inj (a b : List Int) (ha : ∀ x ∈ a, 0 ≤ x ∧ x ≤ 255) (hb : ∀ x ∈ b, 0 ≤ x ∧ x ≤ 255) (hl : a.length = b.length) (e : numB a = numB b) : a = b := by
  induction a generalizing b with
  | nil => cases b with
    | nil => rfl
    | cons _ _ => simp at hl
  | cons c a ih => cases b with
    | nil => simp at hl
    | cons d b =>
      have hc := ha c (by simp)
      have hd := hb d (by simp)
      simp only [numB] at e
      rw [show c = d from by omega, ih b (fun x hx => ha x (List.mem_cons_of_mem _ hx)) (fun x hx => hb x (List.mem_cons_of_mem _ hx)) (by simpa using hl) (by omega)]
theorem reg_num (l : List Int) (hb : ∀ x ∈ l, 0 ≤ x ∧ x ≤ 255) (r : Nat) : reg r l = stn (8 * l.length) (r ^^^ numB l) := by
  induction l generalizing r with
  | nil =>
    show r = stn 0 (r ^^^ 0)
    rw [Nat.xor_zero]; rfl
  | cons c l ih =>
    have hc := hb c (by simp)
    have e : numB (c :: l) = c.toNat ^^^ 2 ^ 8 * numB l := by rw [← up_xor 8 _ _ (by omega)]; simp only [numB]; omega
    rw [reg_cons, List.length_cons]
    rw [ih (fun x hx => hb x (List.mem_cons_of_mem _ hx)), e, ← Nat.xor_assoc, show 8 * (l.length + 1) = 8 + 8 * l.length from by omega, stn_add, stn_xor 8 (r ^^^ c.toNat), stn_up]
/-- a burst of at most four bytes is seen -/
theorem burst (p w v s : List Int) (hp : ∀ x ∈ p, 0 ≤ x ∧ x ≤ 255) (hw : ∀ x ∈ w, 0 ≤ x ∧ x ≤ 255) (hv : ∀ x ∈ v, 0 ≤ x ∧ x ≤ 255) (hs : ∀ x ∈ s, 0 ≤ x ∧ x ≤ 255)
    (hl : w.length = v.length) (h4 : w.length ≤ 4) (e : ofS (p ++ (w ++ s)) = ofS (p ++ (v ++ s))) : w = v := by
  have h1 : ∀ l : List Int, (∀ x ∈ l, 0 ≤ x ∧ x ≤ 255) → (∀ x ∈ p ++ (l ++ s), 0 ≤ x ∧ x ≤ 255) := fun l hl x hx => by
    rcases List.mem_append.1 hx with h | h
    · exact hp x h
    · exact (List.mem_append.1 h).elim (hl x) (hs x)
  rw [ofS_xor _ (h1 w hw), ofS_xor _ (h1 v hv)] at e
  have e2 : reg 4294967295 (p ++ (w ++ s)) = reg 4294967295 (p ++ (v ++ s)) := by
    have := congrArg (· ^^^ 4294967295) e
    simpa [xor_cancel] using this
  rw [reg_append, reg_append, reg_append, reg_append] at e2
  have hr := reg_lt p hp 4294967295 (by omega)
  have e3 := reg_inj s _ _ (reg_lt w hw _ hr) (reg_lt v hv _ hr) e2
  rw [reg_num w hw, reg_num v hv, hl] at e3
  have hb : ∀ l : List Int, (∀ x ∈ l, 0 ≤ x ∧ x ≤ 255) → l.length ≤ 4 → numB l < 4294967296 := fun l hl h4 =>
    Nat.lt_of_lt_of_le (numB_lt l hl) (Nat.le_trans (Nat.pow_le_pow_right (by omega) h4) (by decide))
  have e4 := stn_inj _ _ _ (xor_lt _ _ hr (hb w hw h4)) (xor_lt _ _ hr (hb v hv (by omega))) e3
  refine numB_inj w v hw hv hl ?_
  have := congrArg (reg 4294967295 p ^^^ ·) e4
  simpa [← Nat.xor_assoc] using this

/-- masked -/
def maskS (s : Nat) : Nat := (s / 32768 + s % 32768 * 131072 + 2726488792) % 4294967296
def unmaskS (m : Nat) : Nat := ((m + 4294967296 - 2726488792) % 4294967296) / 131072 + ((m + 4294967296 - 2726488792) % 4294967296) % 131072 * 32768
theorem unmask_mask (s : Nat) (h : s < 4294967296) : unmaskS (maskS s) = s := by
  unfold unmaskS maskS
  generalize ht : s / 32768 + s % 32768 * 131072 = t
  have h1 : t < 4294967296 := by omega
  have h2 : ((t + 2726488792) % 4294967296 + 4294967296 - 2726488792) % 4294967296 = t := by omega
  rw [h2]
  have h3 : t / 131072 = s % 32768 := by omega
  have h4 : t % 131072 = s / 32768 := by omega
  rw [h3, h4]; omega
theorem mask_unmask (m : Nat) (h : m < 4294967296) : maskS (unmaskS m) = m := by
  unfold unmaskS maskS
  generalize ht : (m + 4294967296 - 2726488792) % 4294967296 = t
  have h1 : t < 4294967296 := by omega
  generalize hs : t / 131072 + t % 131072 * 32768 = s
  have h3 : s / 32768 = t % 131072 := by omega
  have h4 : s % 32768 = t / 131072 := by omega
  rw [h3, h4, show t % 131072 + t / 131072 * 131072 = t from by omega]
  omega
theorem maskS_lt (s : Nat) : maskS s < 4294967296 := by unfold maskS; omega
theorem unmaskS_lt (m : Nat) : unmaskS m < 4294967296 := by unfold unmaskS; omega
theorem of_digits : ofS [49, 50, 51, 52, 53, 54, 55, 56, 57] = 3808858755 := by decide +kernel
end Go.Proofs.YtepaghohojomeaaDoor
