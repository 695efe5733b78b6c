/-
  LAYER 7 (span): where places lie (plain mathematics), and what the document's answers answer: the reference's Near, Where, Left, Begin. No condition.
-/
import Derived.Test.YtbnedcghbdphlaaBase
namespace Go.Proofs.Ytbnedcghbdphlaa
open Go.RowKit
/-- the place that is meant -/
def nr (n : Int) : Nat := (min (max n 0) 832).toNat
theorem nr_le (n : Int) : nr n ≤ 832 := by unfold nr; omega
theorem nr_nat (k : Nat) (h : k ≤ 832) : nr k = k := by unfold nr; omega
/-- how much room of its block stands from a place on -/
def leftN (a : Nat) : Nat := if a = 832 then 0 else 208 - a % 208
/-- where what comes next begins -/
def beginN (a : Nat) : Nat := if 41 < a % 52 then (a / 52 + 1) * 52 else a
theorem begin_le (a : Nat) (h : a ≤ 832) : beginN a ≤ 832 := by unfold beginN; split <;> omega
theorem begin_again (a : Nat) : beginN (beginN a) = beginN a := by
  unfold beginN
  by_cases h : 41 < a % 52
  · rw [if_pos h, if_neg (by omega)]
  · rw [if_neg h, if_neg h]
theorem begin_room (a : Nat) (_h : a ≤ 832) : beginN a = 832 ∨ (11 ≤ leftN (beginN a) ∧ beginN a % 52 ≤ 41) := by
  by_cases h2 : beginN a = 832
  · exact .inl h2
  · refine .inr ?_
    by_cases h3 : 41 < a % 52
    · have e : beginN a = (a / 52 + 1) * 52 := if_pos h3
      rw [e] at h2 ⊢
      rw [leftN, if_neg h2]
      omega
    · have e : beginN a = a := if_neg h3
      rw [e] at h2 ⊢
      rw [leftN, if_neg h2]
      omega
theorem left_more (a p c : Nat) (ha : a ≤ 832) (hp : p = a + c) (hc : c ≤ leftN a) : c < leftN a ↔ (p < 832 ∧ (c = 0 ∨ p % 208 ≠ 0)) := by
  by_cases h : a = 832
  · have e : leftN a = 0 := if_pos h
    rw [e] at hc ⊢
    omega
  · have e : leftN a = 208 - a % 208 := if_neg h
    rw [e] at hc ⊢
    omega
theorem left_le (a : Nat) (ha : a ≤ 832) : a + leftN a ≤ 832 := by unfold leftN; split <;> omega
theorem near_any (n : Int) (h : I63 n) (w : World) : Calls Try.prog 17 #[.int .i64 n] w fun e w' => e = .returned (.int .i64 (nr n : Int)) ∧ w' = w := by
  unfold I63 at h
  go_enter Try.func17, Try.ntmps17
  go_wp2
  all_goals
    go_ret
    exact ⟨ret_int (by unfold nr; omega), rfl⟩
set_option maxRecDepth 8000 in
set_option maxHeartbeats 800000 in
theorem rwhere_any (n : Int) (h : I63 n) (w : World) : Calls Try.prog 18 #[.int .i64 n] w fun e w' => e = .returned (.tuple #[.int .i64 ((nr n / 52 : Nat) : Int), .int .i64 ((nr n % 52 : Nat) : Int)]) ∧ w' = w := by
  have hle := nr_le n
  have HN : Hid (∀ w, Calls Try.prog 17 #[.int .i64 n] w fun e w' => e = .returned (.int .i64 (nr n : Int)) ∧ w' = w) := fun w => near_any n h w
  generalize nr n = a at *
  go_enter Try.func18, Try.ntmps18
  go_wp2
  go_loop [4, 5, 6] (fun sv ov iv => ∃ i s o : Nat, iv = .int .i64 i ∧ sv = .int .i64 s ∧ ov = .int .i64 o ∧ i ≤ a ∧ Hid (s = i / 52 ∧ o = i % 52)) (fun _ _ iv => a - (intOf iv).toNat)
  case atStart => exact ⟨0, 0, 0, rfl, rfl, rfl, by omega, rfl, rfl⟩
  case round =>
    obtain ⟨i, s, o, rfl, rfl, rfl, hi, HSO⟩ := hrel
    by_cases hlt : (i : Int) < (a : Int)
    · have ho2 : (o : Int) ≤ 51 := by have := HSO.out; omega
      have hs2 : (s : Int) ≤ 20 := by have := HSO.out; omega
      by_cases h52 : (o : Int) + 1 = 52
      · go_wp2_with (first
          | (go_at_call 17; (with_reducible refine (HN.out _).mono ?_); rintro e w' ⟨rfl, rfl⟩))
        go_round
        case rel => exact ⟨i + 1, s + 1, 0, by go_num, by go_num, rfl, by omega, by have := HSO.out; exact ⟨by omega, by omega⟩⟩
        case measure => simp [intOf]; omega
      · go_wp2_with (first
          | (go_at_call 17; (with_reducible refine (HN.out _).mono ?_); rintro e w' ⟨rfl, rfl⟩))
        go_round
        case rel => exact ⟨i + 1, s, o + 1, by go_num, rfl, by go_num, by omega, by have := HSO.out; exact ⟨by omega, by omega⟩⟩
        case measure => simp [intOf]; omega
    · obtain rfl : i = a := by omega
      go_wp2_with (first
        | (go_at_call 17; (with_reducible refine (HN.out _).mono ?_); rintro e w' ⟨rfl, rfl⟩))
      go_ret2
      obtain ⟨hs, ho⟩ := HSO.out
      subst hs ho
      exact ⟨rfl, rfl⟩
set_option maxRecDepth 8000 in
set_option maxHeartbeats 800000 in
theorem rleft_any (n : Int) (h : I63 n) (w : World) : Calls Try.prog 16 #[.int .i64 n] w fun e w' => e = .returned (.int .i64 (leftN (nr n) : Int)) ∧ w' = w := by
  have hle := nr_le n
  have HN : Hid (∀ w, Calls Try.prog 17 #[.int .i64 n] w fun e w' => e = .returned (.int .i64 (nr n : Int)) ∧ w' = w) := fun w => near_any n h w
  generalize nr n = a at *
  go_enter Try.func16, Try.ntmps16
  go_wp2_with (first
    | (go_at_call 17; (with_reducible refine (HN.out _).mono ?_); rintro e w' ⟨rfl, rfl⟩))
  go_loop [0, 3] (fun av nv => ∃ p c : Nat, av = .int .i64 p ∧ nv = .int .i64 c ∧ p = a + c ∧ c ≤ leftN a) (fun av _ => 832 - (intOf av).toNat)
  case atStart => exact ⟨a, 0, rfl, rfl, by omega, by omega⟩
  case round =>
    obtain ⟨p, c, rfl, rfl, hp, hc⟩ := hrel
    have hl := left_le a hle
    have hm : (p : Int).tmod 208 = ((p % 208 : Nat) : Int) := by rw [Int.tmod_eq_emod_of_nonneg (by omega)]; omega
    have HL := Lib.hid (left_more a p c hle hp hc)
    obtain ⟨r, hr⟩ : ∃ r, p % 208 = r := ⟨_, rfl⟩
    rw [hr] at hm
    have HR := Lib.hid hr
    have HP := Lib.hid hp
    clear hr hp
    by_cases hlt : c < leftN a
    · obtain ⟨h1, h2⟩ := HL.out.1 hlt
      have h1' : (p : Int) < 832 := by omega
      rcases (by have := HR.out; omega : (c : Int) = 0 ∨ (¬ (c : Int) = 0 ∧ ¬ (r : Int) = 0)) with h0 | ⟨h0, hr0⟩
      · go_wp2
        go_round
        case rel => exact ⟨p + 1, c + 1, by go_num, by go_num, by have := HP.out; omega, by omega⟩
        case measure => simp [intOf]; omega
      · have hr1 : ((r : Int) != 0) = true := by simpa using hr0
        go_wp2
        go_round
        case rel => exact ⟨p + 1, c + 1, by go_num, by go_num, by have := HP.out; omega, by omega⟩
        case measure => simp [intOf]; omega
    · have hx := fun h => hlt (HL.out.2 h)
      have HC := Lib.hid (show (c : Int) = (leftN a : Int) from by omega)
      by_cases h8 : (p : Int) < 832
      · have h0 : ¬ (c : Int) = 0 := fun h => hx ⟨by omega, .inl (by omega)⟩
        have hr0 : (r : Int) = 0 := by
          by_cases h : r = 0
          · omega
          · exact absurd ⟨by omega, .inr (by rw [HR.out]; exact h)⟩ hx
        go_wp2
        go_ret
        exact ⟨ret_int HC.out, rfl⟩
      · go_wp2
        go_ret
        exact ⟨ret_int HC.out, rfl⟩
set_option maxRecDepth 8000 in
set_option maxHeartbeats 800000 in
theorem rbegin_any (n : Int) (h : I63 n) (w : World) : Calls Try.prog 15 #[.int .i64 n] w fun e w' => e = .returned (.int .i64 (beginN (nr n) : Int)) ∧ w' = w := by
  have hle := nr_le n
  have HN : Hid (∀ w, Calls Try.prog 17 #[.int .i64 n] w fun e w' => e = .returned (.int .i64 (nr n : Int)) ∧ w' = w) := fun w => near_any n h w
  have HW : Hid (∀ w, Calls Try.prog 18 #[.int .i64 (nr n : Int)] w fun e w' => e = .returned (.tuple #[.int .i64 ((nr n / 52 : Nat) : Int), .int .i64 ((nr n % 52 : Nat) : Int)]) ∧ w' = w) := fun w => by
    have := rwhere_any (nr n) (by unfold I63; omega) w
    rwa [nr_nat _ hle] at this
  generalize nr n = a at *
  obtain ⟨s, hs⟩ : ∃ s, a / 52 = s := ⟨_, rfl⟩
  obtain ⟨o, ho⟩ : ∃ o, a % 52 = o := ⟨_, rfl⟩
  rw [hs, ho] at HW
  have HS := Lib.hid hs
  have HO := Lib.hid ho
  clear hs ho
  go_enter Try.func15, Try.ntmps15
  go_wp2_with (first
    | (go_at_call 17; (with_reducible refine (HN.out _).mono ?_); rintro e w' ⟨rfl, rfl⟩)
    | (go_at_call 18; (with_reducible refine (HW.out _).mono ?_); rintro e w' ⟨rfl, rfl⟩))
  go_loop [0, 4] (fun av ov => ∃ p q : Nat, av = .int .i64 p ∧ ov = .int .i64 q ∧ p ≤ 832 ∧ q ≤ 52 ∧ Hid ((p = a ∧ q = o) ∨ (41 < o ∧ p = a + (q - o) ∧ o ≤ q ∧ p ≤ beginN a))) (fun av _ => 832 - (intOf av).toNat)
  case atStart => exact ⟨a, o, rfl, rfl, by omega, by have := HO.out; omega, .inl ⟨rfl, rfl⟩⟩
  case round =>
    obtain ⟨p, q, rfl, rfl, hp, hq, HR⟩ := hrel
    have HBE : Hid ((41 < o → beginN a = (s + 1) * 52) ∧ (¬ 41 < o → beginN a = a) ∧ a = s * 52 + o ∧ o < 52) := by
      have h1 := HS.out
      have h2 := HO.out
      refine ⟨fun h => ?_, fun h => ?_, by omega, by omega⟩
      · unfold beginN; rw [if_pos (by omega), h1]
      · unfold beginN; rw [if_neg (by omega)]
    by_cases h41 : 41 < (q : Int)
    · by_cases h52 : (q : Int) < 52
      · have h8 : (p : Int) < 832 := by
          obtain ⟨e1, e2, e3, e4⟩ := HBE.out
          have := begin_le a hle
          rcases HR.out with ⟨rfl, rfl⟩ | ⟨g1, g2, g3, g4⟩
          · have := e1 (by omega); omega
          · have := e1 g1; omega
        go_wp2
        go_round
        case rel =>
          refine ⟨p + 1, q + 1, by go_num, by go_num, by omega, by omega, .inr ?_⟩
          obtain ⟨e1, e2, e3, e4⟩ := HBE.out
          rcases HR.out with ⟨rfl, rfl⟩ | ⟨g1, g2, g3, g4⟩
          · have := e1 (by omega); omega
          · have := e1 g1; omega
        case measure => simp [intOf]; omega
      · have HD := Lib.hid (show (p : Int) = (beginN a : Int) from by
          obtain ⟨e1, e2, e3, e4⟩ := HBE.out
          rcases HR.out with ⟨rfl, rfl⟩ | ⟨g1, g2, g3, g4⟩
          · omega
          · have := e1 g1; omega)
        by_cases h8 : (p : Int) < 832
        · go_wp2
          go_ret
          exact ⟨ret_int HD.out, rfl⟩
        · go_wp2
          go_ret
          exact ⟨ret_int HD.out, rfl⟩
    · have HD := Lib.hid (show (p : Int) = (beginN a : Int) from by
        obtain ⟨e1, e2, e3, e4⟩ := HBE.out
        rcases HR.out with ⟨rfl, rfl⟩ | ⟨g1, g2, g3, g4⟩
        · have := e2 (by omega); omega
        · omega)
      by_cases h8 : (p : Int) < 832
      · go_wp2
        go_ret
        exact ⟨ret_int HD.out, rfl⟩
      · go_wp2
        go_ret
        exact ⟨ret_int HD.out, rfl⟩
end Go.Proofs.Ytbnedcghbdphlaa
