/-
  TEXTS JOINED: SpanNear, SpanRef, CutMath, CutPc, ImgMath, ScanWhere, StampMath. Each one's own words stand at its head.
-/
import Derived.Test.YtgegbpnmfpjdmaaGreatDoorJ0
import Derived.Test.YtgegbpnmfpjdmaaGreatDoorJ11
import Derived.Test.YtgegbpnmfpjdmaaGreatDoorJ5
import Derived.Test.YtgegbpnmfpjdmaaGreatDoorJ3
namespace Go.Proofs.YtgegbpnmfpjdmaaGreatDoor
open Go.RowKit
def nr (n : Int) : Nat := (min (max n 0) 832).toNat
theorem nr_le (n : Int) : nr n ≤ 832 := by unfold nr; omega
theorem nr_nat (k : Nat) (h : k ≤ 832) : nr k = k := by unfold nr; omega
theorem near_any (n : Int) (h : I63 n) (w : World) : Calls Tryz.prog 63 #[.int .i64 n] w fun e w' => e = .returned (.int .i64 (nr n : Int)) ∧ w' = w := by
  unfold I63 at h
  go_enter Tryz.func63, Tryz.ntmps63
  go_wp2
  all_goals
    go_ret
    exact ⟨ret_int (by unfold nr; omega), rfl⟩
end Go.Proofs.YtgegbpnmfpjdmaaGreatDoor
namespace Go.Proofs.YtgegbpnmfpjdmaaGreatDoor
open Go.RowKit
def leftN (a : Nat) : Nat := if a = 832 then 0 else 208 - a % 208
def beginN (a : Nat) : Nat := if 41 < a % 52 then (a / 52 + 1) * 52 else a
theorem begin_le (a : Nat) (h : a ≤ 832) : beginN a ≤ 832 := by unfold beginN; split <;> omega
theorem begin_again (a : Nat) : beginN (beginN a) = beginN a := by
  unfold beginN
  by_cases h : 41 < a % 52
  · rw [if_pos h, if_neg (by omega)]
  · rw [if_neg h, if_neg h]
theorem begin_room (a : Nat) (_h : a ≤ 832) : beginN a = 832 ∨ (11 ≤ leftN (beginN a) ∧ beginN a % 52 ≤ 41) := by
  by_cases h2 : beginN a = 832
  · exact .inl h2
  · refine .inr ?_
    by_cases h3 : 41 < a % 52
    · have e : beginN a = (a / 52 + 1) * 52 := if_pos h3
      rw [e] at h2 ⊢
      rw [leftN, if_neg h2]
      omega
    · have e : beginN a = a := if_neg h3
      rw [e] at h2 ⊢
      rw [leftN, if_neg h2]
      omega
theorem left_more (a p c : Nat) (ha : a ≤ 832) (hp : p = a + c) (hc : c ≤ leftN a) : c < leftN a ↔ (p < 832 ∧ (c = 0 ∨ p % 208 ≠ 0)) := by
  by_cases h : a = 832
  · have e : leftN a = 0 := if_pos h
    rw [e] at hc ⊢
    omega
  · have e : leftN a = 208 - a % 208 := if_neg h
    rw [e] at hc ⊢
    omega
theorem left_le (a : Nat) (ha : a ≤ 832) : a + leftN a ≤ 832 := by unfold leftN; split <;> omega
set_option maxRecDepth 8000 in
set_option maxHeartbeats 800000 in
theorem rwhere_any (n : Int) (h : I63 n) (w : World) : Calls Tryz.prog 64 #[.int .i64 n] w fun e w' => e = .returned (.tuple #[.int .i64 ((nr n / 52 : Nat) : Int), .int .i64 ((nr n % 52 : Nat) : Int)]) ∧ w' = w := by
  have hle := nr_le n
  have HN : Hid (∀ w, Calls Tryz.prog 63 #[.int .i64 n] w fun e w' => e = .returned (.int .i64 (nr n : Int)) ∧ w' = w) := fun w => near_any n h w
  generalize nr n = a at *
  go_enter Tryz.func64, Tryz.ntmps64
  go_wp2
  go_loop [4, 5, 6] (fun sv ov iv => ∃ i s o : Nat, iv = .int .i64 i ∧ sv = .int .i64 s ∧ ov = .int .i64 o ∧ i ≤ a ∧ Hid (s = i / 52 ∧ o = i % 52)) (fun _ _ iv => a - (intOf iv).toNat)
  case atStart => exact ⟨0, 0, 0, rfl, rfl, rfl, by omega, rfl, rfl⟩
  case round =>
    obtain ⟨i, s, o, rfl, rfl, rfl, hi, HSO⟩ := hrel
    by_cases hlt : (i : Int) < (a : Int)
    · have ho2 : (o : Int) ≤ 51 := by have := HSO.out; omega
      have hs2 : (s : Int) ≤ 20 := by have := HSO.out; omega
      by_cases h52 : (o : Int) + 1 = 52
      · go_wp2_with (first
          | (go_at_call 63; (with_reducible refine (HN.out _).mono ?_); rintro e w' ⟨rfl, rfl⟩))
        go_round
        case rel => exact ⟨i + 1, s + 1, 0, by go_num, by go_num, rfl, by omega, by have := HSO.out; exact ⟨by omega, by omega⟩⟩
        case measure => simp [intOf]; omega
      · go_wp2_with (first
          | (go_at_call 63; (with_reducible refine (HN.out _).mono ?_); rintro e w' ⟨rfl, rfl⟩))
        go_round
        case rel => exact ⟨i + 1, s, o + 1, by go_num, rfl, by go_num, by omega, by have := HSO.out; exact ⟨by omega, by omega⟩⟩
        case measure => simp [intOf]; omega
    · obtain rfl : i = a := by omega
      go_wp2_with (first
        | (go_at_call 63; (with_reducible refine (HN.out _).mono ?_); rintro e w' ⟨rfl, rfl⟩))
      go_ret2
      obtain ⟨hs, ho⟩ := HSO.out
      subst hs ho
      exact ⟨rfl, rfl⟩
set_option maxRecDepth 8000 in
set_option maxHeartbeats 800000 in
theorem rleft_any (n : Int) (h : I63 n) (w : World) : Calls Tryz.prog 34 #[.int .i64 n] w fun e w' => e = .returned (.int .i64 (leftN (nr n) : Int)) ∧ w' = w := by
  have hle := nr_le n
  have HN : Hid (∀ w, Calls Tryz.prog 63 #[.int .i64 n] w fun e w' => e = .returned (.int .i64 (nr n : Int)) ∧ w' = w) := fun w => near_any n h w
  generalize nr n = a at *
  go_enter Tryz.func34, Tryz.ntmps34
  go_wp2_with (first
    | (go_at_call 63; (with_reducible refine (HN.out _).mono ?_); rintro e w' ⟨rfl, rfl⟩))
  go_loop [0, 3] (fun av nv => ∃ p c : Nat, av = .int .i64 p ∧ nv = .int .i64 c ∧ p = a + c ∧ c ≤ leftN a) (fun av _ => 832 - (intOf av).toNat)
  case atStart => exact ⟨a, 0, rfl, rfl, by omega, by omega⟩
  case round =>
    obtain ⟨p, c, rfl, rfl, hp, hc⟩ := hrel
    have hl := left_le a hle
    have hm : (p : Int).tmod 208 = ((p % 208 : Nat) : Int) := by rw [Int.tmod_eq_emod_of_nonneg (by omega)]; omega
    have HL := Lib.hid (left_more a p c hle hp hc)
    obtain ⟨r, hr⟩ : ∃ r, p % 208 = r := ⟨_, rfl⟩
    rw [hr] at hm
    have HR := Lib.hid hr
    have HP := Lib.hid hp
    clear hr hp
    by_cases hlt : c < leftN a
    · obtain ⟨h1, h2⟩ := HL.out.1 hlt
      have h1' : (p : Int) < 832 := by omega
      rcases (by have := HR.out; omega : (c : Int) = 0 ∨ (¬ (c : Int) = 0 ∧ ¬ (r : Int) = 0)) with h0 | ⟨h0, hr0⟩
      · go_wp2
        go_round
        case rel => exact ⟨p + 1, c + 1, by go_num, by go_num, by have := HP.out; omega, by omega⟩
        case measure => simp [intOf]; omega
      · have hr1 : ((r : Int) != 0) = true := by simpa using hr0
        go_wp2
        go_round
        case rel => exact ⟨p + 1, c + 1, by go_num, by go_num, by have := HP.out; omega, by omega⟩
        case measure => simp [intOf]; omega
    · have hx := fun h => hlt (HL.out.2 h)
      have HC := Lib.hid (show (c : Int) = (leftN a : Int) from by omega)
      by_cases h8 : (p : Int) < 832
      · have h0 : ¬ (c : Int) = 0 := fun h => hx ⟨by omega, .inl (by omega)⟩
        have hr0 : (r : Int) = 0 := by
          by_cases h : r = 0
          · omega
          · exact absurd ⟨by omega, .inr (by rw [HR.out]; exact h)⟩ hx
        go_wp2
        go_ret
        exact ⟨ret_int HC.out, rfl⟩
      · go_wp2
        go_ret
        exact ⟨ret_int HC.out, rfl⟩
set_option maxRecDepth 8000 in
set_option maxHeartbeats 800000 in
theorem rbegin_any (n : Int) (h : I63 n) (w : World) : Calls Tryz.prog 33 #[.int .i64 n] w fun e w' => e = .returned (.int .i64 (beginN (nr n) : Int)) ∧ w' = w := by
  have hle := nr_le n
  have HN : Hid (∀ w, Calls Tryz.prog 63 #[.int .i64 n] w fun e w' => e = .returned (.int .i64 (nr n : Int)) ∧ w' = w) := fun w => near_any n h w
  have HW : Hid (∀ w, Calls Tryz.prog 64 #[.int .i64 (nr n : Int)] w fun e w' => e = .returned (.tuple #[.int .i64 ((nr n / 52 : Nat) : Int), .int .i64 ((nr n % 52 : Nat) : Int)]) ∧ w' = w) := fun w => by
    have := rwhere_any (nr n) (by unfold I63; omega) w
    rwa [nr_nat _ hle] at this
  generalize nr n = a at *
  obtain ⟨s, hs⟩ : ∃ s, a / 52 = s := ⟨_, rfl⟩
  obtain ⟨o, ho⟩ : ∃ o, a % 52 = o := ⟨_, rfl⟩
  rw [hs, ho] at HW
  have HS := Lib.hid hs
  have HO := Lib.hid ho
  clear hs ho
  go_enter Tryz.func33, Tryz.ntmps33
  go_wp2_with (first
    | (go_at_call 63; (with_reducible refine (HN.out _).mono ?_); rintro e w' ⟨rfl, rfl⟩)
    | (go_at_call 64; (with_reducible refine (HW.out _).mono ?_); rintro e w' ⟨rfl, rfl⟩))
  go_loop [0, 4] (fun av ov => ∃ p q : Nat, av = .int .i64 p ∧ ov = .int .i64 q ∧ p ≤ 832 ∧ q ≤ 52 ∧ Hid ((p = a ∧ q = o) ∨ (41 < o ∧ p = a + (q - o) ∧ o ≤ q ∧ p ≤ beginN a))) (fun av _ => 832 - (intOf av).toNat)
  case atStart => exact ⟨a, o, rfl, rfl, by omega, by have := HO.out; omega, .inl ⟨rfl, rfl⟩⟩
  case round =>
    obtain ⟨p, q, rfl, rfl, hp, hq, HR⟩ := hrel
    have HBE : Hid ((41 < o → beginN a = (s + 1) * 52) ∧ (¬ 41 < o → beginN a = a) ∧ a = s * 52 + o ∧ o < 52) := by
      have h1 := HS.out
      have h2 := HO.out
      refine ⟨fun h => ?_, fun h => ?_, by omega, by omega⟩
      · unfold beginN; rw [if_pos (by omega), h1]
      · unfold beginN; rw [if_neg (by omega)]
    by_cases h41 : 41 < (q : Int)
    · by_cases h52 : (q : Int) < 52
      · have h8 : (p : Int) < 832 := by
          obtain ⟨e1, e2, e3, e4⟩ := HBE.out
          have := begin_le a hle
          rcases HR.out with ⟨rfl, rfl⟩ | ⟨g1, g2, g3, g4⟩
          · have := e1 (by omega); omega
          · have := e1 g1; omega
        go_wp2
        go_round
        case rel =>
          refine ⟨p + 1, q + 1, by go_num, by go_num, by omega, by omega, .inr ?_⟩
          obtain ⟨e1, e2, e3, e4⟩ := HBE.out
          rcases HR.out with ⟨rfl, rfl⟩ | ⟨g1, g2, g3, g4⟩
          · have := e1 (by omega); omega
          · have := e1 g1; omega
        case measure => simp [intOf]; omega
      · have HD := Lib.hid (show (p : Int) = (beginN a : Int) from by
          obtain ⟨e1, e2, e3, e4⟩ := HBE.out
          rcases HR.out with ⟨rfl, rfl⟩ | ⟨g1, g2, g3, g4⟩
          · omega
          · have := e1 g1; omega)
        by_cases h8 : (p : Int) < 832
        · go_wp2
          go_ret
          exact ⟨ret_int HD.out, rfl⟩
        · go_wp2
          go_ret
          exact ⟨ret_int HD.out, rfl⟩
    · have HD := Lib.hid (show (p : Int) = (beginN a : Int) from by
        obtain ⟨e1, e2, e3, e4⟩ := HBE.out
        rcases HR.out with ⟨rfl, rfl⟩ | ⟨g1, g2, g3, g4⟩
        · have := e2 (by omega); omega
        · omega)
      by_cases h8 : (p : Int) < 832
      · go_wp2
        go_ret
        exact ⟨ret_int HD.out, rfl⟩
      · go_wp2
        go_ret
        exact ⟨ret_int HD.out, rfl⟩
end Go.Proofs.YtgegbpnmfpjdmaaGreatDoor
namespace Go.Proofs.YtgegbpnmfpjdmaaGreatDoor
structure PC where
  at_ : Int
  kind : Int
  from_ : Int
  to : Int
deriving DecidableEq
def nextS (n : Nat) (s : Nat × Nat) : Nat × Nat := (beginN s.1 + 11 + min (n - s.2) (leftN (beginN s.1) - 11), s.2 + min (n - s.2) (leftN (beginN s.1) - 11))
def stS (a n : Nat) : Nat → Nat × Nat
  | 0 => (a, 0)
  | i + 1 => nextS n (stS a n i)
def pS (a n i : Nat) : Nat := (stS a n i).1
def fS (a n i : Nat) : Nat := (stS a n i).2
def bS (a n i : Nat) : Nat := beginN (pS a n i)
theorem pS_zero (a n : Nat) : pS a n 0 = a := rfl
theorem fS_zero (a n : Nat) : fS a n 0 = 0 := rfl
theorem fS_next (a n i : Nat) : fS a n (i + 1) = fS a n i + min (n - fS a n i) (leftN (bS a n i) - 11) := rfl
theorem pS_next (a n i : Nat) : pS a n (i + 1) = bS a n i + 11 + min (n - fS a n i) (leftN (bS a n i) - 11) := rfl
def roomI (a : Nat) : Int := if beginN a = 832 then -1 else (leftN (beginN a) : Int) - 11 + (((832 - beginN a - leftN (beginN a)) / 208 : Nat) : Int) * 197
theorem room_le (a : Nat) (h : a ≤ 832) : roomI a ≤ 832 := by
  have hb := begin_le a h
  have hl := left_le _ hb
  unfold roomI
  split
  · omega
  · omega
theorem step_room (a b r k p : Nat) (ha : a ≤ 832) (hb : b = beginN a) (hne : b ≠ 832) (hk : k = min r (leftN b - 11)) (hp : p = b + 11 + k) :
    11 ≤ leftN b ∧ b + leftN b ≤ 832 ∧ p ≤ 832 ∧ (k = r → (r : Int) ≤ roomI a) ∧ (k < r → ((r : Int) ≤ roomI a ↔ ((r - k : Nat) : Int) ≤ roomI p)) := by
  have hbl := begin_le a ha
  have h11 : 11 ≤ leftN b := by
    rcases begin_room a ha with h8 | ⟨h1, _⟩
    · exact absurd h8 (hb ▸ hne)
    · rw [hb]; exact h1
  have hl := left_le b (by omega)
  have e : leftN b = 208 - b % 208 := if_neg hne
  have er : roomI a = (leftN b : Int) - 11 + (((832 - b - leftN b) / 208 : Nat) : Int) * 197 := by
    unfold roomI
    rw [← hb, if_neg hne]
  refine ⟨h11, hl, by omega, fun h => by rw [er]; omega, fun h => ?_⟩
  have hkl : k = leftN b - 11 := by omega
  have hpb : p = b + leftN b := by omega
  have hp208 : p % 208 = 0 := by omega
  have hbp : beginN p = p := if_neg (by omega)
  rw [er]
  unfold roomI
  rw [hbp]
  by_cases h8 : p = 832
  · rw [if_pos h8]; omega
  · rw [if_neg h8]
    have e2 : leftN p = 208 := by
      have : leftN p = 208 - p % 208 := if_neg h8
      omega
    rw [e2]
    omega
def Fit (a n : Nat) : Prop := (n : Int) ≤ roomI a
structure Run (a n i : Nat) : Prop where
  p_le : pS a n i ≤ 832
  p_ge : 11 * i ≤ pS a n i
  f_le : fS a n i ≤ n
  low : ∀ j, 0 < j → j < i → fS a n j < n
  fit : (i = 0 ∨ fS a n i < n) → (Fit a n ↔ ((n - fS a n i : Nat) : Int) ≤ roomI (pS a n i))
  full : 0 < i → fS a n i = n → Fit a n
theorem Run.zero {a n : Nat} (ha : a ≤ 832) : Run a n 0 where
  p_le := ha
  p_ge := by omega
  f_le := Nat.zero_le _
  low := fun j h0 h => by omega
  fit := fun _ => by rw [fS_zero, pS_zero]; exact Iff.rfl
  full := fun h => absurd h (by omega)
theorem Run.begin_le {a n i : Nat} (h : Run a n i) : bS a n i ≤ 832 := Go.Proofs.YtgegbpnmfpjdmaaGreatDoor.begin_le _ h.p_le
theorem Run.stop {a n i : Nat} (h : Run a n i) (hi : i = 0 ∨ fS a n i < n) (hb : bS a n i = 832) : ¬ Fit a n := by
  rw [h.fit hi]
  have e : roomI (pS a n i) = -1 := if_pos hb
  rw [e]
  omega
structure Step (a n i : Nat) : Prop where
  l11 : 11 ≤ leftN (bS a n i)
  lle : bS a n i + leftN (bS a n i) ≤ 832
  f_ge : fS a n i ≤ fS a n (i + 1)
  f_le : fS a n (i + 1) ≤ n
  fits : 11 + (fS a n (i + 1) - fS a n i) ≤ leftN (bS a n i)
  p_eq : pS a n (i + 1) = bS a n i + 11 + (fS a n (i + 1) - fS a n i)
  f_eq : fS a n (i + 1) = min (fS a n i + leftN (bS a n i) - 11) n
theorem Run.step {a n i : Nat} (h : Run a n i) (hb : bS a n i ≠ 832) : Step a n i := by
  obtain ⟨h1, h2, _⟩ := step_room (pS a n i) (bS a n i) (n - fS a n i) _ _ h.p_le rfl hb rfl rfl
  have hf := fS_next a n i
  have hp := pS_next a n i
  have hl := h.f_le
  exact ⟨h1, h2, by omega, by omega, by omega, by omega, by omega⟩
theorem Run.next {a n i : Nat} (h : Run a n i) (hi : i = 0 ∨ fS a n i < n) (hb : bS a n i ≠ 832) : Run a n (i + 1) := by
  obtain ⟨h1, h2, h3, h4, h5⟩ := step_room (pS a n i) (bS a n i) (n - fS a n i) _ _ h.p_le rfl hb rfl rfl
  have hf := fS_next a n i
  have hp := pS_next a n i
  rw [← hp] at h3 h5
  have hl := h.f_le
  have hbp : pS a n i ≤ bS a n i := by unfold bS beginN; split <;> omega
  have hpg := h.p_ge
  refine ⟨h3, by omega, by omega, fun j h0 hj => ?_, fun hlt => ?_, fun _ hfull => ?_⟩
  · by_cases hji : j = i
    · subst hji
      rcases hi with rfl | hi
      · omega
      · exact hi
    · exact h.low j h0 (by omega)
  · have hlt : fS a n (i + 1) < n := by omega
    rw [h.fit hi, h5 (by omega), show n - fS a n i - min (n - fS a n i) (leftN (bS a n i) - 11) = n - fS a n (i + 1) from by omega]
  · rw [h.fit hi]
    exact h4 (by omega)
theorem Run.go {a n i : Nat} (h : Run a n i) (hi : i = 0 ∨ fS a n i < n) (hf : Fit a n) : bS a n i ≠ 832 := fun hb => h.stop hi hb hf
def Cuts (a n m : Nat) : Prop := 0 < m ∧ fS a n m = n ∧ (∀ j, 0 < j → j < m → fS a n j < n) ∧ ∀ j, j ≤ m → Run a n j
theorem cuts_one {a n m k : Nat} (h : Cuts a n m) (g : Cuts a n k) : m = k := by
  obtain ⟨h1, h2, h3, _⟩ := h
  obtain ⟨g1, g2, g3, _⟩ := g
  rcases Nat.lt_trichotomy m k with h | h | h
  · have := g3 m h1 h; omega
  · exact h
  · have := h3 k g1 h; omega
open Classical in
noncomputable def cnt (a n : Nat) : Nat := if h : ∃ m, Cuts a n m then h.choose else 0
theorem cnt_eq {a n m : Nat} (h : Cuts a n m) : cnt a n = m := by
  have hx : ∃ m, Cuts a n m := ⟨m, h⟩
  unfold cnt
  rw [dif_pos hx]
  exact cuts_one hx.choose_spec h
theorem cuts_from {a n : Nat} (hf : Fit a n) : ∀ (q i : Nat), 833 ≤ q + 11 * i → (i = 0 ∨ fS a n i < n) → (∀ j, j ≤ i → Run a n j) → ∃ m, Cuts a n m
  | 0, i, hq, _, h => by have := (h i (Nat.le_refl _)).p_ge; have := (h i (Nat.le_refl _)).p_le; omega
  | q + 1, i, hq, hi, h => by
    have hr := h i (Nat.le_refl _)
    have hn := hr.next hi (hr.go hi hf)
    have h2 : ∀ j, j ≤ i + 1 → Run a n j := fun j hj => by
      by_cases hji : j = i + 1
      · subst hji; exact hn
      · exact h j (by omega)
    by_cases hlt : fS a n (i + 1) < n
    · exact cuts_from hf q (i + 1) (by omega) (.inr hlt) h2
    · exact ⟨i + 1, by omega, by have := hn.f_le; omega, hn.low, h2⟩
theorem cuts_cnt {a n : Nat} (ha : a ≤ 832) (hf : Fit a n) : Cuts a n (cnt a n) := by
  have h0 : ∀ j, j ≤ 0 → Run a n j := by
    intro j hj
    have e : j = 0 := by omega
    rw [e]
    exact Run.zero ha
  obtain ⟨m, hm⟩ := cuts_from hf 833 0 (by omega) (.inl rfl) h0
  rw [cnt_eq hm]; exact hm
theorem Run.end_ {a n i : Nat} (ha : a ≤ 832) (h : Run a n i) (h0 : 0 < i) (hn : fS a n i = n) : Fit a n ∧ cnt a n = i := by
  have hf := h.full h0 hn
  refine ⟨hf, ?_⟩
  obtain ⟨c1, c2, c3, c4⟩ := cuts_cnt ha hf
  rcases Nat.lt_trichotomy (cnt a n) i with hlt | he | hlt
  · have := h.low _ c1 hlt; omega
  · exact he
  · have := c3 i h0 hlt; omega
def kindN : Bool → Bool → Int
  | true, true => 1
  | true, false => 2
  | false, true => 4
  | false, false => 3
def pcS (a n i : Nat) : PC := ⟨bS a n i, kindN (decide (i = 0)) (decide (fS a n (i + 1) = n)), fS a n i, fS a n (i + 1)⟩
def firstP (a n i : Nat) : List PC := (List.range i).map (pcS a n)
theorem firstP_len (a n i : Nat) : (firstP a n i).length = i := by simp [firstP]
theorem firstP_next (a n i : Nat) : firstP a n i ++ [pcS a n i] = firstP a n (i + 1) := by simp [firstP, List.range_succ]
theorem firstP_get (a n i j : Nat) (h : j < i) : (firstP a n i)[j]? = some (pcS a n j) := by simp [firstP, h]
def pc3 (a n i : Nat) : PC := ⟨bS a n i, 3, fS a n i, fS a n (i + 1)⟩
def firstR (a n i : Nat) : List PC := (List.range i).map (pc3 a n)
theorem firstR_len (a n i : Nat) : (firstR a n i).length = i := by simp [firstR]
theorem firstR_next (a n i : Nat) : firstR a n i ++ [pc3 a n i] = firstR a n (i + 1) := by simp [firstR, List.range_succ]
theorem firstR_get (a n i j : Nat) (h : j < i) : (firstR a n i)[j]? = some (pc3 a n j) := by simp [firstR, h]
theorem last_iff {a n m : Nat} (h : Cuts a n m) {j : Nat} (hj : j < m) : fS a n (j + 1) = n ↔ j + 1 = m := by
  obtain ⟨h1, h2, h3, _⟩ := h
  constructor
  · intro e
    by_cases hlt : j + 1 < m
    · have := h3 (j + 1) (by omega) hlt; omega
    · omega
  · intro e; rw [e]; exact h2
theorem kinds_one {a n : Nat} (h : Cuts a n 1) : firstP a n 1 = [{ pc3 a n 0 with kind := 1 }] := by
  have := (last_iff h (j := 0) (by omega)).2 rfl
  simp [firstP, pcS, pc3, this, kindN]
theorem kinds_more {a n m : Nat} (h : Cuts a n m) (h1 : 1 < m) : firstP a n m = ((firstR a n m).set 0 { pc3 a n 0 with kind := 2 }).set (m - 1) { pc3 a n (m - 1) with kind := 4 } := by
  refine List.ext_getElem? fun j => ?_
  by_cases hj : j < m
  · rw [firstP_get _ _ _ _ hj]
    have hl := last_iff h hj
    by_cases h2 : j = m - 1
    · subst h2
      rw [List.getElem?_set_self (by rw [List.length_set, firstR_len]; exact hj)]
      have h3 : fS a n (m - 1 + 1) = n := hl.2 (by omega)
      have h0 : ¬ (m - 1 = 0) := by omega
      simp only [pcS, pc3, decide_eq_true h3, decide_eq_false h0, kindN]
    · rw [List.getElem?_set_ne (Ne.symm h2)]
      have h3 : ¬ fS a n (j + 1) = n := fun e => h2 (by have := hl.1 e; omega)
      by_cases h0 : j = 0
      · subst h0
        rw [List.getElem?_set_self (by rw [firstR_len]; exact hj)]
        simp only [pcS, pc3, decide_eq_false h3, decide_true, kindN]
      · rw [List.getElem?_set_ne (Ne.symm h0), firstR_get _ _ _ _ hj]
        simp only [pcS, pc3, decide_eq_false h3, decide_eq_false h0, kindN]
  · rw [List.getElem?_eq_none (by rw [firstP_len]; omega), List.getElem?_eq_none (by rw [List.length_set, List.length_set, firstR_len]; omega)]
def fitI (a n : Int) : Bool := decide (0 ≤ n ∧ n ≤ roomI (nr a))
noncomputable def pcsI (a n : Int) : List PC := if fitI a n = true then firstP (nr a) n.toNat (cnt (nr a) n.toNat) else []
noncomputable def endI (a n : Int) : Nat := if fitI a n = true then pS (nr a) n.toNat (cnt (nr a) n.toNat) else 0
theorem fit_nat (a : Int) (n : Nat) : fitI a n = true ↔ Fit (nr a) n := by unfold fitI Fit; simp
theorem fitI_neg (a n : Int) (h : n < 0) : fitI a n = false := by unfold fitI; rw [decide_eq_false]; omega
theorem told_no {a n : Int} (h : fitI a n = false) : pcsI a n = [] ∧ endI a n = 0 := by unfold pcsI endI; rw [h]; exact ⟨rfl, rfl⟩
theorem told_yes {a : Int} {n m : Nat} (h : Cuts (nr a) n m) (hf : Fit (nr a) n) : fitI a n = true ∧ pcsI a n = firstP (nr a) n m ∧ endI a n = pS (nr a) n m := by
  have h1 := (fit_nat a n).2 hf
  unfold pcsI endI
  rw [h1, if_pos rfl, if_pos rfl, Int.toNat_natCast, cnt_eq h]
  exact ⟨rfl, rfl, rfl⟩
theorem told_of {a n : Int} (h : fitI a n = true) : ∃ k m : Nat, n = (k : Int) ∧ k ≤ 832 ∧ m ≤ 75 ∧ Cuts (nr a) k m ∧ Fit (nr a) k := by
  have h0 : 0 ≤ n ∧ n ≤ roomI (nr a) := of_decide_eq_true h
  have hr := room_le _ (nr_le a)
  obtain ⟨k, rfl⟩ : ∃ k : Nat, n = (k : Int) := ⟨n.toNat, by omega⟩
  have hf : Fit (nr a) k := h0.2
  have hc := cuts_cnt (nr_le a) hf
  have hl := (hc.2.2.2 _ (Nat.le_refl _)).p_le
  have hg := (hc.2.2.2 _ (Nat.le_refl _)).p_ge
  exact ⟨k, _, rfl, by omega, by omega, hc, hf⟩
end Go.Proofs.YtgegbpnmfpjdmaaGreatDoor
namespace Go.Proofs.YtgegbpnmfpjdmaaGreatDoor
theorem Cuts.at_ {a n m j : Nat} (hc : Cuts a n m) (hf : Fit a n) (hj : j < m) : Run a n j ∧ Step a n j := by
  have hr := hc.2.2.2 j (by omega)
  have hi : j = 0 ∨ fS a n j < n := by
    by_cases h0 : j = 0
    · exact .inl h0
    · exact .inr (hc.2.2.1 j (by omega) hj)
  exact ⟨hr, hr.step (hr.go hi hf)⟩
theorem pc_ok {x n : Int} {i : Nat} {c : PC} (h : (pcsI x n)[i]? = some c) : ∃ l k : Nat, c.from_ = (l : Int) ∧ c.to = ((l + k : Nat) : Int) ∧ ((l + k : Nat) : Int) ≤ n ∧ l + k ≤ 832 := by
  cases hq : fitI x n with
  | false => rw [(told_no hq).1] at h; simp at h
  | true =>
    obtain ⟨k, m, rfl, hk, hm, hc, hf⟩ := told_of hq
    rw [(told_yes hc hf).2.1] at h
    have hi : i < m := by have := (List.getElem?_eq_some_iff.1 h).1; rwa [firstP_len] at this
    rw [firstP_get _ _ _ _ hi] at h
    obtain rfl := Option.some.inj h
    obtain ⟨_, hs⟩ := hc.at_ hf hi
    have h1 := hs.f_ge
    have h2 := hs.f_le
    exact ⟨fS (nr x) k i, fS (nr x) k (i + 1) - fS (nr x) k i, rfl, by show ((fS (nr x) k (i + 1) : Nat) : Int) = _; omega, by omega, by omega⟩
theorem pcs_len (x n : Int) : (pcsI x n).length ≤ 75 := by
  cases hq : fitI x n with
  | false => rw [(told_no hq).1]; simp
  | true =>
    obtain ⟨k, m, rfl, hk, hm, hc, hf⟩ := told_of hq
    rw [(told_yes hc hf).2.1, firstP_len]; exact hm
def frOf (ep : Int) (zs : List Int) (c : PC) : FR := ⟨c.kind, ep, (zs.drop c.from_.toNat).take (c.to.toNat - c.from_.toNat)⟩
theorem frOf_data {ep : Int} {zs : List Int} {c : PC} {l k : Nat} (h1 : c.from_ = (l : Int)) (h2 : c.to = ((l + k : Nat) : Int)) : frOf ep zs c = ⟨c.kind, ep, (zs.drop l).take k⟩ := by
  unfold frOf
  rw [h1, h2, Int.toNat_natCast, Int.toNat_natCast, Nat.add_sub_cancel_left]
end Go.Proofs.YtgegbpnmfpjdmaaGreatDoor
namespace Go.Proofs.YtgegbpnmfpjdmaaGreatDoor
open Go.RowKit
structure PcFit (a n : Nat) (c : PC) (q l k : Nat) : Prop where
  at_ : c.at_ = (q : Int)
  from_ : c.from_ = (l : Int)
  to : c.to = ((l + k : Nat) : Int)
  room : q + 11 + k ≤ 832
  upto : l + k ≤ n
  most : k ≤ 197
  k1 : 1 ≤ c.kind
  k4 : c.kind ≤ 4
  ge : a ≤ q
theorem begin_ge (a : Nat) : a ≤ beginN a := by unfold beginN; split <;> omega
theorem pS_up (a n : Nat) : ∀ i, a ≤ pS a n i
  | 0 => Nat.le_refl _
  | i + 1 => by
    have h := pS_up a n i
    have h2 := begin_ge (pS a n i)
    rw [pS_next]
    unfold bS
    omega
theorem kind_bd (b c : Bool) : 1 ≤ kindN b c ∧ kindN b c ≤ 4 := by cases b <;> cases c <;> decide
theorem left_le208 (a : Nat) : leftN a ≤ 208 := by unfold leftN; split <;> omega
theorem pc_fit {x n : Int} {i : Nat} {c : PC} (h : (pcsI x n)[i]? = some c) : ∃ (m q l k : Nat), n = (m : Int) ∧ PcFit (nr x) m c q l k := by
  cases hq : fitI x n with
  | false => rw [(told_no hq).1] at h; simp at h
  | true =>
    obtain ⟨m, j, rfl, hk, hm, hc, hf⟩ := told_of hq
    rw [(told_yes hc hf).2.1] at h
    have hi : i < j := by have := (List.getElem?_eq_some_iff.1 h).1; rwa [firstP_len] at this
    rw [firstP_get _ _ _ _ hi] at h
    obtain rfl := Option.some.inj h
    obtain ⟨_, hs⟩ := hc.at_ hf hi
    have h1 := hs.f_ge
    have h2 := hs.f_le
    have h3 := hs.lle
    have h4 := hs.fits
    have h5 := left_le208 (bS (nr x) m i)
    have h6 := pS_up (nr x) m i
    have h7 := begin_ge (pS (nr x) m i)
    have hkd := kind_bd (decide (i = 0)) (decide (fS (nr x) m (i + 1) = m))
    exact ⟨m, bS (nr x) m i, fS (nr x) m i, fS (nr x) m (i + 1) - fS (nr x) m i, rfl, rfl, rfl, by show ((fS (nr x) m (i + 1) : Nat) : Int) = _; omega, by omega, by omega, by omega, hkd.1, hkd.2, by unfold bS; omega⟩
theorem end_gt {x n : Int} (h : fitI x n = true) : nr x < endI x n ∧ endI x n ≤ 832 := by
  obtain ⟨m, j, rfl, hk, hm, hc, hf⟩ := told_of h
  rw [(told_yes hc hf).2.2]
  have h0 := hc.1
  obtain ⟨i, rfl⟩ : ∃ i, j = i + 1 := ⟨j - 1, by omega⟩
  have h1 := pS_up (nr x) m i
  have h2 := begin_ge (pS (nr x) m i)
  have h3 := (hc.2.2.2 (i + 1) (Nat.le_refl _)).p_le
  rw [pS_next] at h3 ⊢
  unfold bS at h3 ⊢
  omega
theorem end_le (x n : Int) : endI x n ≤ 832 := by
  cases h : fitI x n with
  | true => exact (end_gt h).2
  | false => rw [(told_no h).2]; omega
theorem st_begin (a n : Nat) : ∀ i, fS (beginN a) n i = fS a n i ∧ bS (beginN a) n i = bS a n i
  | 0 => ⟨rfl, begin_again a⟩
  | i + 1 => by
    obtain ⟨h1, h2⟩ := st_begin a n i
    have hf : fS (beginN a) n (i + 1) = fS a n (i + 1) := by rw [fS_next, fS_next, h1, h2]
    refine ⟨hf, ?_⟩
    have hp : pS (beginN a) n (i + 1) = pS a n (i + 1) := by rw [pS_next, pS_next, h1, h2]
    show beginN (pS (beginN a) n (i + 1)) = beginN (pS a n (i + 1))
    rw [hp]
theorem room_begin (a : Nat) : roomI (beginN a) = roomI a := by unfold roomI; rw [begin_again]
theorem pcs_begin (x : Int) (n : Int) : fitI (beginN (nr x) : Nat) n = fitI x n ∧ pcsI (beginN (nr x) : Nat) n = pcsI x n := by
  have hnr : nr ((beginN (nr x) : Nat) : Int) = beginN (nr x) := nr_nat _ (begin_le _ (nr_le x))
  have hfit : fitI (beginN (nr x) : Nat) n = fitI x n := by unfold fitI; rw [hnr, room_begin]
  refine ⟨hfit, ?_⟩
  cases hq : fitI x n with
  | false => rw [(told_no hq).1, (told_no (hfit.trans hq)).1]
  | true =>
    obtain ⟨m, j, rfl, _, _, hc, hf⟩ := told_of hq
    have hb : nr ((beginN (nr x) : Nat) : Int) ≤ 832 := nr_le _
    have hf2 : Fit (nr ((beginN (nr x) : Nat) : Int)) m := (fit_nat _ _).1 (hfit.trans hq)
    have hc2 := cuts_cnt hb hf2
    generalize cnt (nr ((beginN (nr x) : Nat) : Int)) m = j2 at hc2
    rw [(told_yes hc hf).2.1, (told_yes hc2 hf2).2.1]
    rw [hnr] at hc2 hf2 ⊢
    have hst := st_begin (nr x) m
    have hj : j2 = j := by
      obtain ⟨c1, c2, c3, _⟩ := hc
      obtain ⟨d1, d2, d3, _⟩ := hc2
      rcases Nat.lt_trichotomy j2 j with h | h | h
      · have := c3 j2 d1 h; rw [(hst j2).1] at d2; omega
      · exact h
      · have := d3 j c1 h; rw [(hst j).1] at this; omega
    subst hj
    unfold firstP
    refine List.map_congr_left fun i _ => ?_
    unfold pcS
    rw [(hst i).1, (hst (i + 1)).1, (hst i).2]
def pcB (ep : Int) (zs : List Int) (c : PC) : List Int := fragB c.kind ep (frOf ep zs c).data
def layP (ep : Int) (zs : List Int) (b : List Int) (ps : List PC) : List Int := ps.foldl (fun b c => splice b c.at_.toNat (pcB ep zs c)) b
theorem layP_nil (ep : Int) (zs b : List Int) : layP ep zs b [] = b := rfl
theorem layP_snoc (ep : Int) (zs b : List Int) (ps : List PC) (c : PC) : layP ep zs b (ps ++ [c]) = splice (layP ep zs b ps) c.at_.toNat (pcB ep zs c) := by simp [layP]
theorem layP_next (ep : Int) (zs b : List Int) (ps : List PC) (i : Nat) (c : PC) (h : ps[i]? = some c) : layP ep zs b (ps.take (i + 1)) = splice (layP ep zs b (ps.take i)) c.at_.toNat (pcB ep zs c) := by
  rw [List.take_add_one, h]
  exact layP_snoc ep zs b _ c
theorem PcFit.data {a n : Nat} {c : PC} {q l k : Nat} (h : PcFit a n c q l k) (ep : Int) (zs : List Int) : (frOf ep zs c).data = (zs.drop l).take k := by rw [frOf_data h.from_ h.to]
theorem PcFit.len {a n : Nat} {c : PC} {q l k : Nat} (h : PcFit a n c q l k) (ep : Int) (zs : List Int) (hz : zs.length = n) : (pcB ep zs c).length = 11 + k := by
  have := h.upto
  unfold pcB
  rw [fragB_length, h.data, List.length_take, List.length_drop]
  omega
theorem splice_len (b : List Int) (q : Nat) (x : List Int) (h : q + x.length ≤ b.length) : (splice b q x).length = b.length := by
  unfold splice; simp; omega
theorem splice_take (b : List Int) (q : Nat) (x : List Int) (m : Nat) (h : m ≤ q) (hq : q ≤ b.length) : (splice b q x).take m = b.take m := by
  unfold splice
  rw [List.take_append_of_le_length (by simp; omega), List.take_take, Nat.min_eq_left h]
theorem layP_len {ep : Int} {zs b : List Int} (hb : b.length = 832) {x : Int} : ∀ i, (layP ep zs b ((pcsI x zs.length).take i)).length = 832
  | 0 => by simpa [layP] using hb
  | i + 1 => by
    have ih := layP_len (ep := ep) (zs := zs) hb (x := x) i
    cases h : (pcsI x zs.length)[i]? with
    | none => rw [List.take_add_one, h]; simpa using ih
    | some c =>
      obtain ⟨m, q, l, k, hm, hf⟩ := pc_fit h
      have hr := hf.room
      rw [layP_next _ _ _ _ _ _ h, splice_len, ih]
      rw [hf.len ep zs (by omega), hf.at_, ih, Int.toNat_natCast]; omega
theorem layP_take {ep : Int} {zs b : List Int} (hb : b.length = 832) {x : Int} : ∀ i, (layP ep zs b ((pcsI x zs.length).take i)).take (nr x) = b.take (nr x)
  | 0 => by simp [layP]
  | i + 1 => by
    have ih := layP_take (ep := ep) (zs := zs) hb (x := x) i
    cases h : (pcsI x zs.length)[i]? with
    | none => rw [List.take_add_one, h]; simpa using ih
    | some c =>
      obtain ⟨m, q, l, k, hm, hf⟩ := pc_fit h
      have hr := hf.room
      have hg := hf.ge
      rw [layP_next _ _ _ _ _ _ h, splice_take _ _ _ _ (by rw [hf.at_, Int.toNat_natCast]; exact hg) (by rw [layP_len hb, hf.at_, Int.toNat_natCast]; omega), ih]
noncomputable def layR (ep : Int) (b : List Int) (x : Int) (zs : List Int) : List Int := layP ep zs b (pcsI x zs.length)
theorem layR_all (ep : Int) (b : List Int) (x : Int) (zs : List Int) (i : Nat) (h : (pcsI x zs.length).length ≤ i) : layP ep zs b ((pcsI x zs.length).take i) = layR ep b x zs := by rw [List.take_of_length_le h]; rfl
theorem layR_len {ep : Int} {b zs : List Int} {x : Int} (hb : b.length = 832) : (layR ep b x zs).length = 832 := by
  rw [← layR_all _ _ _ _ _ (Nat.le_refl _)]; exact layP_len hb _
theorem layR_take {ep : Int} {b zs : List Int} {x : Int} (hb : b.length = 832) : (layR ep b x zs).take (nr x) = b.take (nr x) := by
  rw [← layR_all _ _ _ _ _ (Nat.le_refl _)]; exact layP_take hb _
theorem layP_bytes {ep : Int} {zs b : List Int} (hb : isB b) (hz : isB zs) {x : Int} : ∀ i, isB (layP ep zs b ((pcsI x zs.length).take i))
  | 0 => by simpa [layP] using hb
  | i + 1 => by
    have ih := layP_bytes (ep := ep) hb hz (x := x) i
    cases h : (pcsI x zs.length)[i]? with
    | none => rw [List.take_add_one, h]; simpa using ih
    | some c =>
      obtain ⟨m, q, l, k, hm, hf⟩ := pc_fit h
      rw [layP_next _ _ _ _ _ _ h]
      have h2 : isB (pcB ep zs c) := fragB_bytes (by have := hf.k1; have := hf.k4; omega) ep (by rw [hf.data]; exact (hz.drop _).take _)
      unfold splice
      exact (ih.take _).append (h2.append (ih.drop _))
theorem layR_bytes {ep : Int} {b zs : List Int} {x : Int} (hb : isB b) (hz : isB zs) : isB (layR ep b x zs) := by
  rw [← layR_all _ _ _ _ _ (Nat.le_refl _)]; exact layP_bytes hb hz _
def z832 : List Int := List.replicate 832 0
noncomputable def endF (ls : List (List Int)) : Nat := ls.foldl (fun a z => endI (a : Nat) z.length) 0
noncomputable def bodyF (ep : Int) (ls : List (List Int)) : List Int := (ls.foldl (fun s z => (layR ep s.1 (s.2 : Nat) z, endI (s.2 : Nat) z.length)) (z832, 0)).1
noncomputable def placesF (ls : List (List Int)) : List Int := (List.range ls.length).map fun k => ((beginN (endF (ls.take k)) : Nat) : Int)
noncomputable def fitsF (ls : List (List Int)) : Bool := (List.range ls.length).all fun k => fitI (endF (ls.take k) : Nat) (ls.getD k []).length
theorem endF_nil : endF [] = 0 := rfl
theorem endF_snoc (ls : List (List Int)) (z : List Int) : endF (ls ++ [z]) = endI (endF ls : Nat) z.length := by simp [endF]
theorem endF_le : ∀ ls : List (List Int), endF ls ≤ 832 := fun ls => by
  rcases List.eq_nil_or_concat ls with rfl | ⟨l, z, rfl⟩
  · rw [endF_nil]; omega
  · rw [List.concat_eq_append, endF_snoc]; exact end_le _ _
theorem bodyF_state (ep : Int) (ls : List (List Int)) : (ls.foldl (fun s z => (layR ep s.1 (s.2 : Nat) z, endI (s.2 : Nat) z.length)) ((z832, 0) : List Int × Nat)).2 = endF ls := by
  unfold endF
  generalize (0 : Nat) = a
  generalize z832 = b
  induction ls generalizing a b with
  | nil => rfl
  | cons z l ih => exact ih _ _
theorem bodyF_nil (ep : Int) : bodyF ep [] = z832 := rfl
theorem bodyF_snoc (ep : Int) (ls : List (List Int)) (z : List Int) : bodyF ep (ls ++ [z]) = layR ep (bodyF ep ls) (endF ls : Nat) z := by
  have h := bodyF_state ep ls
  unfold bodyF at *
  rw [List.foldl_append]
  simp only [List.foldl_cons, List.foldl_nil]
  rw [h]
theorem placesF_snoc (ls : List (List Int)) (z : List Int) : placesF (ls ++ [z]) = placesF ls ++ [((beginN (endF ls) : Nat) : Int)] := by
  unfold placesF
  rw [List.length_append, List.length_singleton, List.range_succ, List.map_append]
  congr 1
  · refine List.map_congr_left fun k hk => ?_
    have : k < ls.length := List.mem_range.1 hk
    rw [List.take_append_of_le_length (by omega)]
  · simp
def BadF (ls : List (List Int)) : Prop := ∃ k, k < ls.length ∧ fitI (endF (ls.take k) : Nat) (ls.getD k []).length = false
def GoodF (ls : List (List Int)) (k : Nat) : Prop := ∀ j, j < k → fitI (endF (ls.take j) : Nat) (ls.getD j []).length = true
theorem fitsF_bad {ls : List (List Int)} (h : BadF ls) : fitsF ls = false := by
  obtain ⟨k, hk, hf⟩ := h
  unfold fitsF
  rw [Bool.eq_false_iff]
  intro h
  have := List.all_eq_true.1 h k (List.mem_range.2 hk)
  rw [hf] at this; cases this
theorem fitsF_good {ls : List (List Int)} (h : GoodF ls ls.length) : fitsF ls = true := by
  unfold fitsF
  exact List.all_eq_true.2 fun k hk => h k (List.mem_range.1 hk)
theorem fitsF_iff (ls : List (List Int)) : fitsF ls = true ↔ GoodF ls ls.length := by
  refine ⟨fun h k hk => ?_, fitsF_good⟩
  unfold fitsF at h
  exact List.all_eq_true.1 h k (List.mem_range.2 hk)
theorem GoodF.zero (ls : List (List Int)) : GoodF ls 0 := fun j hj => absurd hj (by omega)
theorem GoodF.next {ls : List (List Int)} {k : Nat} (h : GoodF ls k) (hf : fitI (endF (ls.take k) : Nat) (ls.getD k []).length = true) : GoodF ls (k + 1) := fun j hj => by
  by_cases e : j = k
  · subst e; exact hf
  · exact h j (by omega)
theorem take_next (ls : List (List Int)) (k : Nat) (hk : k < ls.length) : ls.take (k + 1) = ls.take k ++ [ls.getD k []] := by
  rw [List.take_add_one]; simp [List.getD, hk]
theorem endF_next (ls : List (List Int)) (k : Nat) (hk : k < ls.length) : endF (ls.take (k + 1)) = endI (endF (ls.take k) : Nat) (ls.getD k []).length := by rw [take_next ls k hk, endF_snoc]
theorem bodyF_next (ep : Int) (ls : List (List Int)) (k : Nat) (hk : k < ls.length) : bodyF ep (ls.take (k + 1)) = layR ep (bodyF ep (ls.take k)) (endF (ls.take k) : Nat) (ls.getD k []) := by rw [take_next ls k hk, bodyF_snoc]
theorem placesF_next (ls : List (List Int)) (k : Nat) (hk : k < ls.length) : placesF (ls.take (k + 1)) = placesF (ls.take k) ++ [((beginN (endF (ls.take k)) : Nat) : Int)] := by rw [take_next ls k hk, placesF_snoc]
theorem bodyF_at (ep : Int) (ls : List (List Int)) : ∀ k, k ≤ ls.length → (bodyF ep (ls.take k)).length = 832
  | 0, _ => by rw [List.take_zero, bodyF_nil]; exact List.length_replicate
  | k + 1, h => by rw [bodyF_next ep ls k (by omega)]; exact layR_len (bodyF_at ep ls k (by omega))
theorem bodyF_len (ep : Int) (ls : List (List Int)) : (bodyF ep ls).length = 832 := by
  have := bodyF_at ep ls ls.length (Nat.le_refl _)
  rwa [List.take_length] at this
theorem bodyF_bytes {ep : Int} (ls : List (List Int)) (hl : ∀ z ∈ ls, isB z) : ∀ k, k ≤ ls.length → isB (bodyF ep (ls.take k))
  | 0, _ => by rw [List.take_zero, bodyF_nil]; intro x hx; have := List.eq_of_mem_replicate hx; omega
  | k + 1, h => by
    rw [bodyF_next ep ls k (by omega)]
    exact layR_bytes (bodyF_bytes ls hl k (by omega)) (hl _ (by simp [List.getD, show k < ls.length by omega]))
theorem fitsF_snoc (ls : List (List Int)) (z : List Int) : fitsF (ls ++ [z]) = (fitsF ls && fitI (endF ls : Nat) z.length) := by
  rw [Bool.eq_iff_iff, Bool.and_eq_true, fitsF_iff, fitsF_iff]
  have hlow : ∀ k, k < ls.length → (ls ++ [z]).take k = ls.take k ∧ (ls ++ [z]).getD k [] = ls.getD k [] := fun k hk =>
    ⟨List.take_append_of_le_length (by omega), by simp [List.getD, List.getElem?_append_left hk]⟩
  have htop : (ls ++ [z]).take ls.length = ls ∧ (ls ++ [z]).getD ls.length [] = z := ⟨by simp, by simp [List.getD]⟩
  have hlen : (ls ++ [z]).length = ls.length + 1 := by simp
  rw [hlen]
  constructor
  · intro h
    refine ⟨fun k hk => ?_, ?_⟩
    · have := h k (by omega)
      rwa [(hlow k hk).1, (hlow k hk).2] at this
    · have := h ls.length (by omega)
      rwa [htop.1, htop.2] at this
  · rintro ⟨h1, h2⟩ k hk
    by_cases e : k < ls.length
    · rw [(hlow k e).1, (hlow k e).2]; exact h1 k e
    · obtain rfl : k = ls.length := by omega
      rw [htop.1, htop.2]; exact h2
end Go.Proofs.YtgegbpnmfpjdmaaGreatDoor
namespace Go.Proofs.YtgegbpnmfpjdmaaGreatDoor
open Go.RowKit
theorem splice_hi (b : List Int) (q : Nat) (x : List Int) (hf : q + x.length ≤ b.length) (j : Nat) (hj : j < x.length) : (splice b q x).getD (q + j) 0 = x.getD j 0 := by
  simp only [List.getD]
  rw [splice_get b q x hf, if_neg (by omega), if_pos (by omega), Nat.add_sub_cancel_left]
theorem splice_out (b : List Int) (q : Nat) (x : List Int) (hf : q + x.length ≤ b.length) (j : Nat) (hj : j < q ∨ q + x.length ≤ j) : (splice b q x).getD j 0 = b.getD j 0 := by
  simp only [List.getD]
  rw [splice_get b q x hf]
  rcases hj with h | h
  · rw [if_pos h]
  · rw [if_neg (by omega), if_neg (by omega)]
def frI (ep : Int) (a : Nat) (zs : List Int) (i : Nat) : FR := ⟨kindN (decide (i = 0)) (decide (fS a zs.length (i + 1) = zs.length)), ep, (zs.drop (fS a zs.length i)).take (fS a zs.length (i + 1) - fS a zs.length i)⟩
def szF (a : Nat) (zs : List Int) (i : Nat) : Nat := 11 + (fS a zs.length (i + 1) - fS a zs.length i)
def frB (ep : Int) (a : Nat) (zs : List Int) (i : Nat) : List Int := fragB (frI ep a zs i).kind ep (frI ep a zs i).data
theorem pcB_frB (ep : Int) (a : Nat) (zs : List Int) (i : Nat) : pcB ep zs (pcS a zs.length i) = frB ep a zs i := by
  unfold pcB frB frI frOf pcS
  simp only [Int.toNat_natCast]
structure Laid (a : Nat) (zs : List Int) (m : Nat) : Prop where
  cuts : Cuts a zs.length m
  fit : Fit a zs.length
  pcs : pcsI (a : Int) zs.length = firstP a zs.length m
  end_ : endI (a : Int) zs.length = pS a zs.length m
  ha : a ≤ 832
theorem laid_of {a : Nat} {zs : List Int} (ha : a ≤ 832) (h : fitI (a : Int) zs.length = true) : ∃ m, Laid a zs m := by
  obtain ⟨k, m, hk, _, _, hc, hf⟩ := told_of h
  obtain rfl : zs.length = k := by omega
  have hn := nr_nat a ha
  obtain ⟨_, h2, h3⟩ := told_yes hc hf
  rw [hn] at hc hf h2 h3
  exact ⟨m, hc, hf, h2, h3, ha⟩
section
variable {a m : Nat} {zs : List Int}
theorem Laid.step (h : Laid a zs m) {i : Nat} (hi : i < m) : Run a zs.length i ∧ Step a zs.length i := h.cuts.at_ h.fit hi
theorem Laid.data (h : Laid a zs m) {i : Nat} (hi : i < m) (ep : Int) : (frI ep a zs i).data.length = fS a zs.length (i + 1) - fS a zs.length i := by
  obtain ⟨_, hs⟩ := h.step hi
  have h1 := hs.f_ge
  have h2 := hs.f_le
  show ((zs.drop _).take _).length = _
  rw [List.length_take, List.length_drop]; omega
theorem Laid.len (h : Laid a zs m) {i : Nat} (hi : i < m) (ep : Int) : (frB ep a zs i).length = szF a zs i := by
  unfold frB szF
  rw [fragB_length, h.data hi]
theorem Laid.room (h : Laid a zs m) {i : Nat} (hi : i < m) : bS a zs.length i + szF a zs i = pS a zs.length (i + 1) ∧ pS a zs.length (i + 1) ≤ 832 ∧ szF a zs i ≤ leftN (bS a zs.length i) ∧ pS a zs.length i ≤ bS a zs.length i ∧ bS a zs.length i % 52 ≤ 41 ∧ bS a zs.length i ≠ 832 := by
  obtain ⟨hr, hs⟩ := h.step hi
  have h1 := hs.p_eq
  have h2 := (h.cuts.2.2.2 (i + 1) (by omega)).p_le
  have h3 := hs.fits
  have h4 := begin_ge (pS a zs.length i)
  have h5 := begin_room (pS a zs.length i) hr.p_le
  unfold szF
  refine ⟨by omega, h2, h3, h4, ?_, ?_⟩
  · rcases h5 with h5 | ⟨_, h5⟩
    · have : bS a zs.length i = 832 := h5
      have h6 := hs.l11
      rw [this] at h6
      exact absurd h6 (by decide)
    · exact h5
  · intro e
    have h6 := hs.l11
    rw [e] at h6
    exact absurd h6 (by decide)
theorem Laid.mono (h : Laid a zs m) {i : Nat} : ∀ {t : Nat}, i ≤ t → t ≤ m → pS a zs.length i ≤ pS a zs.length t
  | 0, hi, _ => by obtain rfl : i = 0 := by omega
                   exact Nat.le_refl _
  | t + 1, hi, ht => by
    by_cases e : i = t + 1
    · subst e; exact Nat.le_refl _
    · have ih := Laid.mono h (i := i) (t := t) (by omega) (by omega)
      obtain ⟨h1, _, _, h4, _⟩ := h.room (i := t) (by omega)
      omega
theorem Laid.lay_len (h : Laid a zs m) {ep : Int} {b : List Int} (hb : b.length = 832) (t : Nat) : (layP ep zs b ((firstP a zs.length m).take t)).length = 832 := by
  rw [← h.pcs]; exact layP_len hb t
theorem Laid.lay_next (_h : Laid a zs m) {ep : Int} {b : List Int} {t : Nat} (ht : t < m) : layP ep zs b ((firstP a zs.length m).take (t + 1)) = splice (layP ep zs b ((firstP a zs.length m).take t)) (bS a zs.length t) (frB ep a zs t) := by
  rw [layP_next ep zs b _ t _ (firstP_get a zs.length m t ht), pcB_frB]
  rfl
theorem Laid.lay_fit (h : Laid a zs m) {ep : Int} {b : List Int} (hb : b.length = 832) {t : Nat} (ht : t < m) : bS a zs.length t + (frB ep a zs t).length ≤ (layP ep zs b ((firstP a zs.length m).take t)).length := by
  obtain ⟨h1, h2, _⟩ := h.room ht
  rw [h.lay_len hb, h.len ht]; omega
theorem Laid.lay_at (h : Laid a zs m) {ep : Int} {b : List Int} (hb : b.length = 832) {i : Nat} : ∀ t, i < t → t ≤ m → ∀ j, j < szF a zs i → (layP ep zs b ((firstP a zs.length m).take t)).getD (bS a zs.length i + j) 0 = (frB ep a zs i).getD j 0
  | 0, hi, _, _, _ => absurd hi (by omega)
  | t + 1, hi, ht, j, hj => by
    have hf := h.lay_fit (ep := ep) hb (show t < m from ht)
    have hl := h.len (show t < m from ht) ep
    rw [h.lay_next ht]
    by_cases e : i = t
    · subst e
      exact splice_hi _ _ _ hf j (by omega)
    · obtain ⟨h1, _⟩ := h.room (i := i) (by omega)
      obtain ⟨_, _, _, h4, _⟩ := h.room (show t < m from ht)
      have h5 := h.mono (i := i + 1) (t := t) (by omega) (by omega)
      rw [splice_out _ _ _ hf _ (.inl (by omega))]
      exact Laid.lay_at h hb t (by omega) (by omega) j hj
theorem Laid.lay_out (h : Laid a zs m) {ep : Int} {b : List Int} (hb : b.length = 832) : ∀ t, t ≤ m → ∀ j, pS a zs.length t ≤ j → (layP ep zs b ((firstP a zs.length m).take t)).getD j 0 = b.getD j 0
  | 0, _, j, _ => by rw [List.take_zero, layP_nil]
  | t + 1, ht, j, hj => by
    have hf := h.lay_fit (ep := ep) hb (show t < m from ht)
    have hl := h.len (show t < m from ht) ep
    obtain ⟨h1, _, _, h4, _⟩ := h.room (show t < m from ht)
    rw [h.lay_next ht, splice_out _ _ _ hf _ (.inr (by omega))]
    exact Laid.lay_out h hb t (by omega) j (by omega)
theorem Laid.rec_ (h : Laid a zs m) (ep : Int) (b : List Int) : layR ep b (a : Int) zs = layP ep zs b ((firstP a zs.length m).take m) := by
  unfold layR
  rw [h.pcs, List.take_of_length_le (by rw [firstP_len]; exact Nat.le_refl _)]
theorem Laid.low (h : Laid a zs m) {ep : Int} {b : List Int} (hb : b.length = 832) {j : Nat} (hj : j < a) : (layR ep b (a : Int) zs).getD j 0 = b.getD j 0 := by
  have h1 := layR_take (ep := ep) (zs := zs) (x := (a : Int)) hb
  rw [nr_nat a h.ha] at h1
  have h2 := congrArg (fun l => l.getD j 0) h1
  simpa [List.getD, List.getElem?_take, hj] using h2
theorem Laid.up (h : Laid a zs m) : a ≤ pS a zs.length m := by
  have := h.mono (i := 0) (t := m) (Nat.zero_le _) (Nat.le_refl _)
  rwa [pS_zero] at this
end
section
variable {ls : List (List Int)} (hg : GoodF ls ls.length)
include hg
theorem laid_k {k : Nat} (hk : k < ls.length) : ∃ m, Laid (endF (ls.take k)) (ls.getD k []) m := laid_of (endF_le _) (hg k hk)
theorem end_step {k : Nat} (hk : k < ls.length) : endF (ls.take k) ≤ endF (ls.take (k + 1)) := by
  obtain ⟨m, h⟩ := laid_k hg hk
  rw [endF_next ls k hk, h.end_]
  exact h.up
theorem end_mono {k : Nat} : ∀ {t : Nat}, k ≤ t → t ≤ ls.length → endF (ls.take k) ≤ endF (ls.take t)
  | 0, hk, _ => by obtain rfl : k = 0 := by omega
                   exact Nat.le_refl _
  | t + 1, hk, ht => by
    by_cases e : k = t + 1
    · subst e; exact Nat.le_refl _
    · exact Nat.le_trans (end_mono (t := t) (by omega) (by omega)) (end_step hg (by omega))
theorem body_out (ep : Int) : ∀ k, k ≤ ls.length → ∀ j, endF (ls.take k) ≤ j → (bodyF ep (ls.take k)).getD j 0 = 0
  | 0, _, j, _ => by rw [List.take_zero, bodyF_nil]; unfold z832; simp only [List.getD, List.getElem?_replicate]; split <;> rfl
  | k + 1, hk, j, hj => by
    obtain ⟨m, h⟩ := laid_k hg (k := k) (by omega)
    have hb := bodyF_at ep ls k (by omega)
    have hs := end_step hg (k := k) (by omega)
    rw [endF_next ls k (by omega), h.end_] at hj
    rw [bodyF_next ep ls k (by omega), h.rec_, h.lay_out hb m (Nat.le_refl _) j hj]
    exact body_out ep k (by omega) j (by have := h.up; omega)
theorem body_pre (ep : Int) {k : Nat} : ∀ {t : Nat}, k ≤ t → t ≤ ls.length → ∀ j, j < endF (ls.take k) → (bodyF ep (ls.take t)).getD j 0 = (bodyF ep (ls.take k)).getD j 0
  | 0, hk, _, j, _ => by obtain rfl : k = 0 := by omega
                         rfl
  | t + 1, hk, ht, j, hj => by
    by_cases e : k = t + 1
    · subst e; rfl
    · obtain ⟨m, h⟩ := laid_k hg (k := t) (by omega)
      have hm := end_mono hg (k := k) (t := t) (by omega) (by omega)
      rw [bodyF_next ep ls t (by omega), h.low (bodyF_at ep ls t (by omega)) (by omega)]
      exact body_pre ep (t := t) (by omega) (by omega) j hj
theorem body_at (ep : Int) {k m i : Nat} (hk : k < ls.length) (h : Laid (endF (ls.take k)) (ls.getD k []) m) (hi : i < m) (j : Nat) (hj : j < szF (endF (ls.take k)) (ls.getD k []) i) :
    (bodyF ep ls).getD (bS (endF (ls.take k)) (ls.getD k []).length i + j) 0 = (frB ep (endF (ls.take k)) (ls.getD k []) i).getD j 0 := by
  have hb := bodyF_at ep ls k (by omega)
  obtain ⟨h1, _⟩ := h.room hi
  have h2 := h.mono (i := i + 1) (t := m) (by omega) (Nat.le_refl _)
  have h3 : endF (ls.take (k + 1)) = pS (endF (ls.take k)) (ls.getD k []).length m := by rw [endF_next ls k hk, h.end_]
  have h4 := body_pre hg ep (k := k + 1) (t := ls.length) (by omega) (Nat.le_refl _) (bS (endF (ls.take k)) (ls.getD k []).length i + j) (by omega)
  rw [List.take_length] at h4
  rw [h4, bodyF_next ep ls k hk, h.rec_]
  exact h.lay_at hb m hi (Nat.le_refl _) j hj
end
end Go.Proofs.YtgegbpnmfpjdmaaGreatDoor
namespace Go.Proofs.YtgegbpnmfpjdmaaGreatDoor
def room (zs : List Int) : List Int := (zs ++ List.replicate 52 0).take 52
theorem room_length (zs : List Int) : (room zs).length = 52 := by simp [room]
theorem room_get (zs : List Int) (j : Nat) (h : j < 52) : (room zs).getD j 0 = zs.getD j 0 := by
  simp only [room, List.getD, List.getElem?_take, h, if_true, List.getElem?_append]
  split
  · rfl
  · rename_i h1
    rw [List.getElem?_eq_none (l := zs) (by omega)]
    simp only [List.getElem?_replicate]; split <;> rfl
def sealed (x i : Int) (zs : List Int) : List Int := putL x 8 ++ putL i 4 ++ room zs
theorem sealed_length (x i : Int) (zs : List Int) : (sealed x i zs).length = 64 := by simp [sealed, putL_length, room_length]
theorem getD_app_l (a b : List Int) (j : Nat) (h : j < a.length) : (a ++ b).getD j 0 = a.getD j 0 := by simp [List.getD, List.getElem?_append, h]
theorem getD_app_r (a b : List Int) (j : Nat) (h : a.length ≤ j) : (a ++ b).getD j 0 = b.getD (j - a.length) 0 := by simp [List.getD, List.getElem?_append, Nat.not_lt.2 h]
theorem sealed_get1 (x i : Int) (zs : List Int) (j : Nat) (h : j < 8) : (sealed x i zs).getD j 0 = (putL x 8).getD j 0 := by
  unfold sealed
  rw [getD_app_l _ _ _ (by simp [putL_length]; omega), getD_app_l _ _ _ (by simp [putL_length]; omega)]
theorem sealed_get2 (x i : Int) (zs : List Int) (j : Nat) (h : 8 ≤ j) (h2 : j < 12) : (sealed x i zs).getD j 0 = (putL i 4).getD (j - 8) 0 := by
  unfold sealed
  rw [getD_app_l _ _ _ (by simp [putL_length]; omega), getD_app_r _ _ _ (by simp [putL_length]; omega), putL_length]
theorem sealed_get3 (x i : Int) (zs : List Int) (j : Nat) (h : 12 ≤ j) (h2 : j < 64) : (sealed x i zs).getD j 0 = zs.getD (j - 12) 0 := by
  unfold sealed
  rw [getD_app_r _ _ _ (by simp [putL_length]; omega), List.length_append, putL_length, putL_length, room_get _ _ (by omega)]
theorem sealed_room (x i : Int) (zs : List Int) : (sealed x i zs).drop 12 = room zs := by
  unfold sealed
  rw [List.drop_left' (by simp [putL_length])]
theorem room_room (zs : List Int) : room (room zs) = room zs := by
  unfold room
  rw [List.take_append_of_le_length (by simp), List.take_take]; rfl
theorem sealed_again (x i : Int) (zs : List Int) : sealed x i (room zs) = sealed x i zs := by unfold sealed; rw [room_room]
theorem sealed_own (x i : Int) (zs : List Int) : sealed x i ((sealed x i zs).drop 12) = sealed x i zs := by rw [sealed_room, sealed_again]
theorem putL_wrap (i : Int) : putL (i % 18446744073709551616) 4 = putL i 4 := by
  unfold putL
  refine List.map_congr_left fun j hj => ?_
  simp only [List.mem_range] at hj
  rcases (by omega : j = 0 ∨ j = 1 ∨ j = 2 ∨ j = 3) with rfl | rfl | rfl | rfl
  all_goals
    simp only [Nat.reduceMul, Int.reducePow]
    omega
theorem sealed_splice (x i : Int) (zs : List Int) : splice (splice (splice (List.replicate 64 0) 0 (putL x 8)) 8 (putL i 4)) 12 (zs.take (min zs.length 52)) = sealed x i zs := by
  have h1 : splice (List.replicate 64 0) 0 (putL x 8) = putL x 8 ++ List.replicate 56 0 := by
    simp only [splice, List.take_zero, List.nil_append, putL_length, List.drop_replicate]
  have h2 : splice (putL x 8 ++ List.replicate 56 0) 8 (putL i 4) = (putL x 8 ++ putL i 4) ++ List.replicate 52 0 := by
    simp only [splice, putL_length]
    rw [List.take_left' (putL_length x 8), List.drop_append, List.drop_eq_nil_of_le (by rw [putL_length]; omega), putL_length, List.nil_append, List.drop_replicate, List.append_assoc]
  have h3 : (zs.take (min zs.length 52)).length = min zs.length 52 := by simp
  rw [h1, h2]
  unfold sealed room
  simp only [splice, h3]
  rw [List.take_left' (by simp [putL_length]), List.drop_append, List.drop_eq_nil_of_le (by simp [putL_length]), List.nil_append]
  congr 1
  rw [List.drop_replicate, List.take_append, List.take_replicate]
  congr 1
  · rw [List.take_eq_take_iff]; omega
  · congr 1; simp [putL_length]; omega
theorem putL_eq (a b : Int) (k : Nat) : putL a k = putL b k ↔ a % 2 ^ (8 * k) = b % 2 ^ (8 * k) := by
  constructor
  · intro h
    rw [← getI_put a k k (Nat.le_refl _), ← getI_put b k k (Nat.le_refl _), h]
  · intro h
    unfold putL
    refine List.map_congr_left fun j hj => ?_
    simp only [List.mem_range] at hj
    have key : ∀ n : Int, n / 2 ^ (8 * j) % 256 = n % 2 ^ (8 * k) / 2 ^ (8 * j) % 256 := fun n => by
      have hp := pow_pos' (8 * j)
      have hs : (2 : Int) ^ (8 * k) = 2 ^ (8 * j) * (256 * 2 ^ (8 * (k - j - 1))) := by
        rw [show (256 : Int) = 2 ^ 8 from rfl, ← Int.pow_add, ← Int.pow_add]; congr 1; omega
      have h1 := Int.emod_add_mul_ediv n (2 ^ (8 * k))
      generalize n / 2 ^ (8 * k) = q at h1
      generalize n % 2 ^ (8 * k) = r at h1
      rw [← h1, hs, Int.mul_assoc, Int.add_mul_ediv_left _ _ (by omega), Int.mul_assoc, Int.add_mul_emod_self_left]
    rw [key a, key b, h]
theorem sealed_eq (x y i j : Int) (hx : U64 x) (hy : U64 y) (zs : List Int) : sealed y j ((sealed x i zs).drop 12) = sealed x i zs ↔ x = y ∧ i % 4294967296 = j % 4294967296 := by
  rw [sealed_room, sealed_again]
  unfold sealed
  unfold U64 at hx hy
  rw [List.append_left_inj]
  constructor
  · intro h
    obtain ⟨h1, h2⟩ := List.append_inj h (by simp [putL_length])
    have h3 := (putL_eq y x 8).1 h1
    have h4 := (putL_eq j i 4).1 h2
    simp only [Nat.reduceMul, Int.reducePow] at h3 h4
    omega
  · rintro ⟨rfl, h⟩
    rw [(putL_eq j i 4).2 (by simp only [Nat.reduceMul, Int.reducePow]; omega)]
theorem sealed_bytes (x i : Int) (zs : List Int) (h : Bytes zs) : Bytes (sealed x i zs) := by
  refine bytes_of_mem fun z hz => ?_
  simp only [sealed, room, List.mem_append] at hz
  rcases hz with (hz | hz) | hz
  · exact (putL_bytes x 8).mem z hz
  · exact (putL_bytes i 4).mem z hz
  · have := List.mem_of_mem_take hz
    rcases List.mem_append.1 this with h1 | h1
    · exact h.mem z h1
    · have := List.eq_of_mem_replicate h1; omega
def part (l : List Int) (k : Nat) : List Int := (List.range 64).map fun j => if j < k then l.getD j 0 else 0
theorem part_zero (l : List Int) : part l 0 = List.replicate 64 0 := by
  refine List.ext_getElem (by simp [part]) fun j h1 h2 => ?_
  rw [List.getElem_replicate]
  simp [part]
theorem part_all (l : List Int) (hl : l.length = 64) : part l 64 = l := by
  refine List.ext_getElem (by simp [part, hl]) fun j h1 h2 => ?_
  simp [part, List.getD, h2]; omega
theorem part_set (l : List Int) (k : Nat) : (part l k).set k (l.getD k 0) = part l (k + 1) := by
  refine List.ext_getElem (by simp [part]) fun j h1 h2 => ?_
  simp only [part, List.getElem_set, List.getElem_map, List.getElem_range]
  by_cases h : k = j
  · subst h; simp
  · rw [if_neg h]
    by_cases h3 : j < k
    · rw [if_pos h3, if_pos (by omega)]
    · rw [if_neg h3, if_neg (by omega)]
end Go.Proofs.YtgegbpnmfpjdmaaGreatDoor
