/-
  TEXTS JOINED: SpanNear, SpanRef, SpanWhere, SpanCode. Each one's own words stand at its head.
-/
import Derived.Test.YtjlnceldnbpapaaDoorBase
import Derived.Test.YtjlnceldnbpapaaDoorRegion
import Derived.Laws.StructEq
import Derived.Deep.WholeRow
/-
  LAYER 7 (span): the place that is meant; the reference's Near. No condition.
-/
namespace Go.Proofs.YtjlnceldnbpapaaDoor
open Go.RowKit
/-- the place that is meant -/
def nr (n : Int) : Nat := (min (max n 0) 832).toNat
theorem nr_le (n : Int) : nr n ≤ 832 := by unfold nr; omega
theorem nr_nat (k : Nat) (h : k ≤ 832) : nr k = k := by unfold nr; omega
theorem near_any (n : Int) (h : I63 n) (w : World) : Calls Tryd.prog 27 #[.int .i64 n] w fun e w' => e = .returned (.int .i64 (nr n : Int)) ∧ w' = w := by
  unfold I63 at h
  go_enter Tryd.func27, Tryd.ntmps27
  go_wp2
  all_goals
    go_ret
    exact ⟨ret_int (by unfold nr; omega), rfl⟩
end Go.Proofs.YtjlnceldnbpapaaDoor
/-
  LAYER 7 (span): where places lie (plain mathematics), and what the document's answers answer: the reference's Near, Where, Left, Begin. No condition.
-/
namespace Go.Proofs.YtjlnceldnbpapaaDoor
open Go.RowKit
/-- how much room of its block stands from a place on -/
def leftN (a : Nat) : Nat := if a = 832 then 0 else 208 - a % 208
/-- where what comes next begins -/
def beginN (a : Nat) : Nat := if 41 < a % 52 then (a / 52 + 1) * 52 else a
theorem begin_le (a : Nat) (h : a ≤ 832) : beginN a ≤ 832 := by unfold beginN; split <;> omega
theorem begin_again (a : Nat) : beginN (beginN a) = beginN a := by
  unfold beginN
  by_cases h : 41 < a % 52
  · rw [if_pos h, if_neg (by omega)]
  · rw [if_neg h, if_neg h]
theorem begin_room (a : Nat) (_h : a ≤ 832) : beginN a = 832 ∨ (11 ≤ leftN (beginN a) ∧ beginN a % 52 ≤ 41) := by
  by_cases h2 : beginN a = 832
  · exact .inl h2
  · refine .inr ?_
    by_cases h3 : 41 < a % 52
    · have e : beginN a = (a / 52 + 1) * 52 := if_pos h3
      rw [e] at h2 ⊢
      rw [leftN, if_neg h2]
      omega
    · have e : beginN a = a := if_neg h3
      rw [e] at h2 ⊢
      rw [leftN, if_neg h2]
      omega
theorem left_more (a p c : Nat) (ha : a ≤ 832) (hp : p = a + c) (hc : c ≤ leftN a) : c < leftN a ↔ (p < 832 ∧ (c = 0 ∨ p % 208 ≠ 0)) := by
  by_cases h : a = 832
  · have e : leftN a = 0 := if_pos h
    rw [e] at hc ⊢
    omega
  · have e : leftN a = 208 - a % 208 := if_neg h
    rw [e] at hc ⊢
    omega
theorem left_le (a : Nat) (ha : a ≤ 832) : a + leftN a ≤ 832 := by unfold leftN; split <;> omega
set_option maxRecDepth 8000 in
set_option maxHeartbeats 800000 in
theorem rwhere_any (n : Int) (h : I63 n) (w : World) : Calls Tryd.prog 28 #[.int .i64 n] w fun e w' => e = .returned (.tuple #[.int .i64 ((nr n / 52 : Nat) : Int), .int .i64 ((nr n % 52 : Nat) : Int)]) ∧ w' = w := by
  have hle := nr_le n
  have HN : Hid (∀ w, Calls Tryd.prog 27 #[.int .i64 n] w fun e w' => e = .returned (.int .i64 (nr n : Int)) ∧ w' = w) := fun w => near_any n h w
  generalize nr n = a at *
  go_enter Tryd.func28, Tryd.ntmps28
  go_wp2
  go_loop [4, 5, 6] (fun sv ov iv => ∃ i s o : Nat, iv = .int .i64 i ∧ sv = .int .i64 s ∧ ov = .int .i64 o ∧ i ≤ a ∧ Hid (s = i / 52 ∧ o = i % 52)) (fun _ _ iv => a - (intOf iv).toNat)
  case atStart => exact ⟨0, 0, 0, rfl, rfl, rfl, by omega, rfl, rfl⟩
  case round =>
    obtain ⟨i, s, o, rfl, rfl, rfl, hi, HSO⟩ := hrel
    by_cases hlt : (i : Int) < (a : Int)
    · have ho2 : (o : Int) ≤ 51 := by have := HSO.out; omega
      have hs2 : (s : Int) ≤ 20 := by have := HSO.out; omega
      by_cases h52 : (o : Int) + 1 = 52
      · go_wp2_with (first
          | (go_at_call 27; (with_reducible refine (HN.out _).mono ?_); rintro e w' ⟨rfl, rfl⟩))
        go_round
        case rel => exact ⟨i + 1, s + 1, 0, by go_num, by go_num, rfl, by omega, by have := HSO.out; exact ⟨by omega, by omega⟩⟩
        case measure => simp [intOf]; omega
      · go_wp2_with (first
          | (go_at_call 27; (with_reducible refine (HN.out _).mono ?_); rintro e w' ⟨rfl, rfl⟩))
        go_round
        case rel => exact ⟨i + 1, s, o + 1, by go_num, rfl, by go_num, by omega, by have := HSO.out; exact ⟨by omega, by omega⟩⟩
        case measure => simp [intOf]; omega
    · obtain rfl : i = a := by omega
      go_wp2_with (first
        | (go_at_call 27; (with_reducible refine (HN.out _).mono ?_); rintro e w' ⟨rfl, rfl⟩))
      go_ret2
      obtain ⟨hs, ho⟩ := HSO.out
      subst hs ho
      exact ⟨rfl, rfl⟩
set_option maxRecDepth 8000 in
set_option maxHeartbeats 800000 in
theorem rleft_any (n : Int) (h : I63 n) (w : World) : Calls Tryd.prog 34 #[.int .i64 n] w fun e w' => e = .returned (.int .i64 (leftN (nr n) : Int)) ∧ w' = w := by
  have hle := nr_le n
  have HN : Hid (∀ w, Calls Tryd.prog 27 #[.int .i64 n] w fun e w' => e = .returned (.int .i64 (nr n : Int)) ∧ w' = w) := fun w => near_any n h w
  generalize nr n = a at *
  go_enter Tryd.func34, Tryd.ntmps34
  go_wp2_with (first
    | (go_at_call 27; (with_reducible refine (HN.out _).mono ?_); rintro e w' ⟨rfl, rfl⟩))
  go_loop [0, 3] (fun av nv => ∃ p c : Nat, av = .int .i64 p ∧ nv = .int .i64 c ∧ p = a + c ∧ c ≤ leftN a) (fun av _ => 832 - (intOf av).toNat)
  case atStart => exact ⟨a, 0, rfl, rfl, by omega, by omega⟩
  case round =>
    obtain ⟨p, c, rfl, rfl, hp, hc⟩ := hrel
    have hl := left_le a hle
    have hm : (p : Int).tmod 208 = ((p % 208 : Nat) : Int) := by rw [Int.tmod_eq_emod_of_nonneg (by omega)]; omega
    have HL := Lib.hid (left_more a p c hle hp hc)
    obtain ⟨r, hr⟩ : ∃ r, p % 208 = r := ⟨_, rfl⟩
    rw [hr] at hm
    have HR := Lib.hid hr
    have HP := Lib.hid hp
    clear hr hp
    by_cases hlt : c < leftN a
    · obtain ⟨h1, h2⟩ := HL.out.1 hlt
      have h1' : (p : Int) < 832 := by omega
      rcases (by have := HR.out; omega : (c : Int) = 0 ∨ (¬ (c : Int) = 0 ∧ ¬ (r : Int) = 0)) with h0 | ⟨h0, hr0⟩
      · go_wp2
        go_round
        case rel => exact ⟨p + 1, c + 1, by go_num, by go_num, by have := HP.out; omega, by omega⟩
        case measure => simp [intOf]; omega
      · have hr1 : ((r : Int) != 0) = true := by simpa using hr0
        go_wp2
        go_round
        case rel => exact ⟨p + 1, c + 1, by go_num, by go_num, by have := HP.out; omega, by omega⟩
        case measure => simp [intOf]; omega
    · have hx := fun h => hlt (HL.out.2 h)
      have HC := Lib.hid (show (c : Int) = (leftN a : Int) from by omega)
      by_cases h8 : (p : Int) < 832
      · have h0 : ¬ (c : Int) = 0 := fun h => hx ⟨by omega, .inl (by omega)⟩
        have hr0 : (r : Int) = 0 := by
          by_cases h : r = 0
          · omega
          · exact absurd ⟨by omega, .inr (by rw [HR.out]; exact h)⟩ hx
        go_wp2
        go_ret
        exact ⟨ret_int HC.out, rfl⟩
      · go_wp2
        go_ret
        exact ⟨ret_int HC.out, rfl⟩
set_option maxRecDepth 8000 in
set_option maxHeartbeats 800000 in
theorem rbegin_any (n : Int) (h : I63 n) (w : World) : Calls Tryd.prog 18 #[.int .i64 n] w fun e w' => e = .returned (.int .i64 (beginN (nr n) : Int)) ∧ w' = w := by
  have hle := nr_le n
  have HN : Hid (∀ w, Calls Tryd.prog 27 #[.int .i64 n] w fun e w' => e = .returned (.int .i64 (nr n : Int)) ∧ w' = w) := fun w => near_any n h w
  have HW : Hid (∀ w, Calls Tryd.prog 28 #[.int .i64 (nr n : Int)] w fun e w' => e = .returned (.tuple #[.int .i64 ((nr n / 52 : Nat) : Int), .int .i64 ((nr n % 52 : Nat) : Int)]) ∧ w' = w) := fun w => by
    have := rwhere_any (nr n) (by unfold I63; omega) w
    rwa [nr_nat _ hle] at this
  generalize nr n = a at *
  obtain ⟨s, hs⟩ : ∃ s, a / 52 = s := ⟨_, rfl⟩
  obtain ⟨o, ho⟩ : ∃ o, a % 52 = o := ⟨_, rfl⟩
  rw [hs, ho] at HW
  have HS := Lib.hid hs
  have HO := Lib.hid ho
  clear hs ho
  go_enter Tryd.func18, Tryd.ntmps18
  go_wp2_with (first
    | (go_at_call 27; (with_reducible refine (HN.out _).mono ?_); rintro e w' ⟨rfl, rfl⟩)
    | (go_at_call 28; (with_reducible refine (HW.out _).mono ?_); rintro e w' ⟨rfl, rfl⟩))
  go_loop [0, 4] (fun av ov => ∃ p q : Nat, av = .int .i64 p ∧ ov = .int .i64 q ∧ p ≤ 832 ∧ q ≤ 52 ∧ Hid ((p = a ∧ q = o) ∨ (41 < o ∧ p = a + (q - o) ∧ o ≤ q ∧ p ≤ beginN a))) (fun av _ => 832 - (intOf av).toNat)
  case atStart => exact ⟨a, o, rfl, rfl, by omega, by have := HO.out; omega, .inl ⟨rfl, rfl⟩⟩
  case round =>
    obtain ⟨p, q, rfl, rfl, hp, hq, HR⟩ := hrel
    have HBE : Hid ((41 < o → beginN a = (s + 1) * 52) ∧ (¬ 41 < o → beginN a = a) ∧ a = s * 52 + o ∧ o < 52) := by
      have h1 := HS.out
      have h2 := HO.out
      refine ⟨fun h => ?_, fun h => ?_, by omega, by omega⟩
      · unfold beginN; rw [if_pos (by omega), h1]
      · unfold beginN; rw [if_neg (by omega)]
    by_cases h41 : 41 < (q : Int)
    · by_cases h52 : (q : Int) < 52
      · have h8 : (p : Int) < 832 := by
          obtain ⟨e1, e2, e3, e4⟩ := HBE.out
          have := begin_le a hle
          rcases HR.out with ⟨rfl, rfl⟩ | ⟨g1, g2, g3, g4⟩
          · have := e1 (by omega); omega
          · have := e1 g1; omega
        go_wp2
        go_round
        case rel =>
          refine ⟨p + 1, q + 1, by go_num, by go_num, by omega, by omega, .inr ?_⟩
          obtain ⟨e1, e2, e3, e4⟩ := HBE.out
          rcases HR.out with ⟨rfl, rfl⟩ | ⟨g1, g2, g3, g4⟩
          · have := e1 (by omega); omega
          · have := e1 g1; omega
        case measure => simp [intOf]; omega
      · have HD := Lib.hid (show (p : Int) = (beginN a : Int) from by
          obtain ⟨e1, e2, e3, e4⟩ := HBE.out
          rcases HR.out with ⟨rfl, rfl⟩ | ⟨g1, g2, g3, g4⟩
          · omega
          · have := e1 g1; omega)
        by_cases h8 : (p : Int) < 832
        · go_wp2
          go_ret
          exact ⟨ret_int HD.out, rfl⟩
        · go_wp2
          go_ret
          exact ⟨ret_int HD.out, rfl⟩
    · have HD := Lib.hid (show (p : Int) = (beginN a : Int) from by
        obtain ⟨e1, e2, e3, e4⟩ := HBE.out
        rcases HR.out with ⟨rfl, rfl⟩ | ⟨g1, g2, g3, g4⟩
        · have := e2 (by omega); omega
        · omega)
      by_cases h8 : (p : Int) < 832
      · go_wp2
        go_ret
        exact ⟨ret_int HD.out, rfl⟩
      · go_wp2
        go_ret
        exact ⟨ret_int HD.out, rfl⟩
end Go.Proofs.YtjlnceldnbpapaaDoor
/-
  WHAT THE PROGRAM'S OWN FUNCTIONS OF LAYER 7 (span) ANSWER: place, Where. A Spot is the value .agg of its two numbers. No condition.
-/
namespace Go.Proofs.YtjlnceldnbpapaaDoor
open Go.RowKit
theorem spot_info : (Tryd.prog.info? 92).map (·.size) = some 2 := by kernel_rfl
theorem nearer_any (n m : Int) (h : I63 n) (h2 : 0 ≤ m ∧ m ≤ 832) (w : World) : Calls Tryd.prog 62 #[.int .i64 n, .int .i64 m] w fun e w' => e = .returned (.int .i64 (min (max n 0) m)) ∧ w' = w := by
  unfold I63 at h
  go_enter Tryd.func62, Tryd.ntmps62
  go_wp2
  all_goals
    go_ret
    exact ⟨ret_int (by omega), rfl⟩
theorem place_any (n : Int) (h : I63 n) (w : World) : Calls Tryd.prog 59 #[.int .i64 n] w fun e w' => e = .returned (.int .i64 (nr n : Int)) ∧ w' = w := by
  have HN : Hid (∀ w, Calls Tryd.prog 62 #[.int .i64 n, .int .i64 832] w fun e w' => e = .returned (.int .i64 (nr n : Int)) ∧ w' = w) := fun w =>
    (nearer_any n 832 h (by omega) w).mono fun e w' ⟨he, hw⟩ => ⟨by rw [he]; unfold nr; congr 2; omega, hw⟩
  go_enter Tryd.func59, Tryd.ntmps59
  go_wp2_with (first
    | (go_at_call 62; (with_reducible refine (HN.out _).mono ?_); rintro e w' ⟨rfl, rfl⟩))
  go_ret
  exact ⟨rfl, rfl⟩
theorem where_any (n : Int) (h : I63 n) (w : World) : Calls Tryd.prog 51 #[.int .i64 n] w fun e w' => e = .returned (.agg #[.int .i64 ((nr n / 52 : Nat) : Int), .int .i64 ((nr n % 52 : Nat) : Int)]) ∧ Below w.heap.size w w' := by
  have hle := nr_le n
  have HP : Hid (∀ w, Calls Tryd.prog 59 #[.int .i64 n] w fun e w' => e = .returned (.int .i64 (nr n : Int)) ∧ w' = w) := fun w => place_any n h w
  generalize nr n = a at *
  have hq : (a : Int).tdiv 52 = ((a / 52 : Nat) : Int) := by rw [Int.tdiv_eq_ediv_of_nonneg (by omega)]; omega
  have hm : (a : Int).tmod 52 = ((a % 52 : Nat) : Int) := by rw [Int.tmod_eq_emod_of_nonneg (by omega)]; omega
  obtain ⟨q, hq2⟩ : ∃ q, a / 52 = q := ⟨_, rfl⟩
  obtain ⟨r, hr2⟩ : ∃ r, a % 52 = r := ⟨_, rfl⟩
  rw [hq2] at hq ⊢
  rw [hr2] at hm ⊢
  have hq3 : (q : Int) ≤ 16 := by omega
  have hr3 : (r : Int) ≤ 51 := by omega
  clear hq2 hr2
  go_enter Tryd.func51, Tryd.ntmps51
  go_wp2_with (first
    | (go_at_call 59; (with_reducible refine (HP.out _).mono ?_); rintro e w' ⟨rfl, rfl⟩))
  exact bodyPost_ret_by (v := .agg #[.int .i64 q, .int .i64 r]) (results_cell_row rfl _ _ w.heap.size _ #[.int .i64 q, .int .i64 r] (0, 0) _ rfl (heap_alloc_last w _) Tryd.underlying92 rfl spot_info) rfl ⟨rfl, (Below.refl _ _).alloc (Nat.le_refl _) _⟩
theorem wrap_id (x : Int) (h : -1000 ≤ x ∧ x ≤ 10000) : IntKind.i64.wrap x = x := by
  exact IntWalk.i64_in _ (by omega)
theorem bchain {a b c : World} (h : Below a.heap.size a b) (k : Below b.heap.size b c) : Below a.heap.size a c := h.trans (k.mono h.size)
end Go.Proofs.YtjlnceldnbpapaaDoor
/-
  WHAT THE PROGRAM'S OWN FUNCTIONS OF LAYER 7 (span) ANSWER: At, Left, Begin (place, Where: XSpanWhere). No condition.
-/
namespace Go.Proofs.YtjlnceldnbpapaaDoor
open Go.RowKit
/-- the place of a spot -/
def atN (s o : Int) : Nat := min ((min (max s 0) 16).toNat * 52 + (min (max o 0) 52).toNat) 832
set_option maxRecDepth 8000 in
theorem at_any (s o : Int) (h : I63 s) (h2 : I63 o) (w : World) : Calls Tryd.prog 52 #[.agg #[.int .i64 s, .int .i64 o]] w fun e w' => e = .returned (.int .i64 (atN s o : Int)) ∧ Below w.heap.size w w' := by
  obtain ⟨x, hx⟩ : ∃ x, min (max s 0) 16 = x := ⟨_, rfl⟩
  obtain ⟨y, hy⟩ : ∃ y, min (max o 0) 52 = y := ⟨_, rfl⟩
  have hx0 : 0 ≤ x := by omega
  have hx1 : x ≤ 16 := by omega
  have hy0 : 0 ≤ y := by omega
  have hy1 : y ≤ 52 := by omega
  have H1 : Hid (∀ w, Calls Tryd.prog 62 #[.int .i64 s, .int .i64 16] w fun e w' => e = .returned (.int .i64 x) ∧ w' = w) := fun w => hx ▸ nearer_any s 16 h (by omega) w
  have H2 : Hid (∀ w, Calls Tryd.prog 62 #[.int .i64 o, .int .i64 52] w fun e w' => e = .returned (.int .i64 y) ∧ w' = w) := fun w => hy ▸ nearer_any o 52 h2 (by omega) w
  have hwr : IntKind.i64.wrap (IntKind.i64.wrap (52 * x) + y) = 52 * x + y := by rw [wrap_id (52 * x) (by omega), wrap_id (52 * x + y) (by omega)]
  have H3 : Hid (∀ w, Calls Tryd.prog 59 #[.int .i64 (52 * x + y)] w fun e w' => e = .returned (.int .i64 (atN s o : Int)) ∧ w' = w) := fun w =>
    (place_any (52 * x + y) (by unfold I63; omega) w).mono fun e w' ⟨he, hw⟩ => ⟨by rw [he]; unfold nr atN; rw [hx, hy]; congr 2; omega, hw⟩
  generalize atN s o = at' at *
  clear hx hy
  unfold I63 at h h2
  go_enter Tryd.func52, Tryd.ntmps52
  go_wp2
  refine wp_region_held_drew (S := (fun w' => w' = (w.alloc (.cells #[.int .i64 s, .int .i64 o] 92)).drew)) (by kernel_rfl) rfl (fun hS => ?_)
  refine wpAnyH_take (i := 0) (oi := ({ dst := some 3, op := Op.fieldAddr 92 (Operand.tmp 1) 0, type := 0, pos := "span.go:18", after := #[], guard := none } : Oper)) (v := ?_) rfl (by kernel_rfl) (by kernel_rfl) (by kernel_rfl) (fun _ _ _ h => h) (Or.inl ⟨by rfl, ?_⟩) hS ?_
  rotate_left
  · (intro w hSw; (try dsimp only at hSw); go_simp; try with_reducible rfl)
  (try simp only [Act.put, List.setIfInBounds_toArray, List.set_cons_zero, List.set_cons_succ])
  refine wpAnyH_take (i := 1) (oi := ({ dst := some 4, op := Op.load 3 (Operand.tmp 3), type := 3, pos := "span.go:18", after := #[{ on := 0, ground := Ground.data }], guard := none } : Oper)) (v := ?_) rfl (by kernel_rfl) (by kernel_rfl) (by kernel_rfl) (fun _ _ _ h => h) (Or.inl ⟨by rfl, ?_⟩) hS ?_
  rotate_left
  · (intro w hSw; (try dsimp only at hSw); go_simp; try with_reducible rfl)
  (try simp only [Act.put, List.setIfInBounds_toArray, List.set_cons_zero, List.set_cons_succ])
  refine wpAnyH_take (i := 4) (oi := ({ dst := some 7, op := Op.fieldAddr 92 (Operand.tmp 1) 1, type := 0, pos := "span.go:18", after := #[], guard := none } : Oper)) (v := ?_) rfl (by kernel_rfl) (by kernel_rfl) (by kernel_rfl) (fun _ _ _ h => h) (Or.inl ⟨by rfl, ?_⟩) hS ?_
  rotate_left
  · (intro w hSw; (try dsimp only at hSw); go_simp; try with_reducible rfl)
  (try simp only [Act.put, List.setIfInBounds_toArray, List.set_cons_zero, List.set_cons_succ])
  refine wpAnyH_take (i := 5) (oi := ({ dst := some 8, op := Op.load 3 (Operand.tmp 7), type := 3, pos := "span.go:18", after := #[{ on := 4, ground := Ground.data }], guard := none } : Oper)) (v := ?_) rfl (by kernel_rfl) (by kernel_rfl) (by kernel_rfl) (fun _ _ _ h => h) (Or.inl ⟨by rfl, ?_⟩) hS ?_
  rotate_left
  · (intro w hSw; (try dsimp only at hSw); go_simp; try with_reducible rfl)
  (try simp only [Act.put, List.setIfInBounds_toArray, List.set_cons_zero, List.set_cons_succ])
  refine rg_one 2 ({ dst := some 5, op := Op.call { callee := Callee.value (Operand.func 62), args := #[Operand.tmp 4, Operand.const (Value.int IntKind.i64 16)], argTypes := #[3, 3] }, type := 3, pos := "span.go:18", after := #[{ on := 1, ground := Ground.data }], guard := none } : Oper) (by kernel_rfl) rfl (fun K hK => ?_)
  go_simp
  (go_at_call 62; (with_reducible refine (H1.out _).mono ?_); rintro e w2 ⟨rfl, rfl⟩)
  refine hK.out _ _ ?_ (fun hS1 => ?_)
  · (exact hS)
  clear hK K hS; have hS := hS1; clear hS1
  (try simp only [Act.put, List.setIfInBounds_toArray, List.set_cons_zero, List.set_cons_succ])
  refine wpAnyH_take (i := 3) (oi := ({ dst := some 6, op := Op.binOp BinOp.mul 3 (Operand.const (Value.int IntKind.i64 52)) (Operand.tmp 5) 3, type := 3, pos := "span.go:18", after := #[{ on := 2, ground := Ground.data }], guard := none } : Oper)) (v := ?_) rfl (by kernel_rfl) (by kernel_rfl) (by kernel_rfl) (fun _ _ _ h => h) (Or.inl ⟨by rfl, ?_⟩) hS ?_
  rotate_left
  · (intro w hSw; (try dsimp only at hSw); go_simp; try with_reducible rfl)
  (try simp only [Act.put, List.setIfInBounds_toArray, List.set_cons_zero, List.set_cons_succ])
  refine rg_one 6 ({ dst := some 9, op := Op.call { callee := Callee.value (Operand.func 62), args := #[Operand.tmp 8, Operand.const (Value.int IntKind.i64 52)], argTypes := #[3, 3] }, type := 3, pos := "span.go:18", after := #[{ on := 5, ground := Ground.data }, { on := 2, ground := Ground.chain }], guard := none } : Oper) (by kernel_rfl) rfl (fun K hK => ?_)
  go_simp
  (go_at_call 62; (with_reducible refine (H2.out _).mono ?_); rintro e w2 ⟨rfl, rfl⟩)
  refine hK.out _ _ ?_ (fun hS1 => ?_)
  · (exact hS)
  clear hK K hS; have hS := hS1; clear hS1
  (try simp only [Act.put, List.setIfInBounds_toArray, List.set_cons_zero, List.set_cons_succ])
  refine wpAnyH_take (i := 7) (oi := ({ dst := some 10, op := Op.binOp BinOp.add 3 (Operand.tmp 6) (Operand.tmp 9) 3, type := 3, pos := "span.go:18", after := #[{ on := 3, ground := Ground.data }, { on := 6, ground := Ground.data }], guard := none } : Oper)) (v := ?_) rfl (by kernel_rfl) (by kernel_rfl) (by kernel_rfl) (fun _ _ _ h => h) (Or.inl ⟨by rfl, ?_⟩) hS ?_
  rotate_left
  · (intro w hSw; (try dsimp only at hSw); go_simp; try with_reducible rfl)
  (try simp only [Act.put, List.setIfInBounds_toArray, List.set_cons_zero, List.set_cons_succ])
  refine rg_one 8 ({ dst := some 11, op := Op.call { callee := Callee.value (Operand.func 59), args := #[Operand.tmp 10], argTypes := #[3] }, type := 3, pos := "span.go:18", after := #[{ on := 7, ground := Ground.data }, { on := 6, ground := Ground.chain }], guard := none } : Oper) (by kernel_rfl) rfl (fun K hK => ?_)
  go_simp
  (go_at_call 59; (with_reducible refine (H3.out _).mono ?_); rintro e w2 ⟨rfl, rfl⟩)
  refine hK.out _ _ ?_ (fun hS1 => ?_)
  · (exact hS)
  clear hK K hS; have hS := hS1; clear hS1
  (try simp only [Act.put, List.setIfInBounds_toArray, List.set_cons_zero, List.set_cons_succ])
  refine wpAnyH_take (i := 9) (oi := ({ dst := some 2, op := Op.assign (Operand.tmp 11), type := 3, pos := "span.go:18", after := #[{ on := 8, ground := Ground.data }, { on := 8, ground := Ground.chain }, { on := 0, ground := Ground.phase }, { on := 1, ground := Ground.phase }, { on := 2, ground := Ground.phase }, { on := 3, ground := Ground.phase }, { on := 4, ground := Ground.phase }, { on := 5, ground := Ground.phase }, { on := 6, ground := Ground.phase }, { on := 7, ground := Ground.phase }, { on := 8, ground := Ground.phase }], guard := none } : Oper)) (v := ?_) rfl (by kernel_rfl) (by kernel_rfl) (by kernel_rfl) (fun _ _ _ h => h) (Or.inl ⟨by rfl, ?_⟩) hS ?_
  rotate_left
  · (intro w hSw; (try dsimp only at hSw); go_simp; try with_reducible rfl)
  (try simp only [Act.put, List.setIfInBounds_toArray, List.set_cons_zero, List.set_cons_succ])
  refine wpAnyH_done (by kernel_rfl) ?_ _
  go_wp2
  go_ret
  exact ⟨rfl, ((Below.refl _ _).alloc (Nat.le_refl _) _).drew⟩
theorem at_nat (s o a : Nat) (hs : s ≤ 16) (ho : o ≤ 51) (ha : s * 52 + o = a) (ha2 : a ≤ 832) (w : World) : Calls Tryd.prog 52 #[.agg #[.int .i64 s, .int .i64 o]] w fun e w' => e = .returned (.int .i64 (a : Int)) ∧ Below w.heap.size w w' :=
  (at_any s o (by unfold I63; omega) (by unfold I63; omega) w).mono fun e w' ⟨he, hw⟩ => ⟨by rw [he]; unfold atN; congr 2; omega, hw⟩
set_option maxRecDepth 8000 in
theorem left_any (n : Int) (h : I63 n) (w : World) : Calls Tryd.prog 49 #[.int .i64 n] w fun e w' => e = .returned (.int .i64 (leftN (nr n) : Int)) ∧ Below w.heap.size w w' := by
  have hle := nr_le n
  have HW : Hid (∀ w, Calls Tryd.prog 51 #[.int .i64 n] w fun e w' => e = .returned (.agg #[.int .i64 ((nr n / 52 : Nat) : Int), .int .i64 ((nr n % 52 : Nat) : Int)]) ∧ Below w.heap.size w w') := fun w => where_any n h w
  generalize nr n = a at *
  have HA : Hid (∀ w, Calls Tryd.prog 52 #[.agg #[.int .i64 ((a / 52 : Nat) : Int), .int .i64 ((a % 52 : Nat) : Int)]] w fun e w' => e = .returned (.int .i64 (a : Int)) ∧ Below w.heap.size w w') := fun w =>
    at_nat (a / 52) (a % 52) a (by omega) (by omega) (by omega) hle w
  have hm : (a : Int).tmod 208 = ((a % 208 : Nat) : Int) := by rw [Int.tmod_eq_emod_of_nonneg (by omega)]; omega
  have hmd := Nat.div_add_mod a 52
  obtain ⟨q, hq2⟩ : ∃ q, a / 52 = q := ⟨_, rfl⟩
  obtain ⟨r, hr2⟩ : ∃ r, a % 52 = r := ⟨_, rfl⟩
  obtain ⟨k, hk2⟩ : ∃ k, a % 208 = k := ⟨_, rfl⟩
  have hr3 : r < 52 := by omega
  have hk3 : (k : Int) < 208 := by omega
  rw [hq2, hr2] at HW HA hmd
  rw [hk2] at hm
  have HL := Lib.hid (show leftN a = if a = 832 then 0 else 208 - k by unfold leftN; rw [hk2])
  generalize leftN a = la at *
  have HM := Lib.hid hmd
  have HR := Lib.hid hr3
  clear hq2 hr2 hk2 hmd hr3
  by_cases h8 : a = 832
  · have hq : (q : Int) = 16 := by have := HM.out; have := HR.out; omega
    have hr : (r : Int) = 0 := by have := HM.out; have := HR.out; omega
    go_enter Tryd.func49, Tryd.ntmps49
    go_wp2_with (first
      | (go_at_call 51; (with_reducible refine (HW.out _).mono ?_); rintro e w1 ⟨rfl, hb⟩; have HB1 := Lib.hid hb; clear hb))
    go_ret
    exact ⟨ret_int (by rw [HL.out, if_pos h8]; rfl), HB1.out.alloc HB1.out.size _⟩
  · have hne : ¬ (q : Int) = 16 := by have := HM.out; have := HR.out; omega
    go_enter Tryd.func49, Tryd.ntmps49
    go_wp2_with (first
      | (go_at_call 51; (with_reducible refine (HW.out _).mono ?_); rintro e w1 ⟨rfl, hb⟩; have HB1 := Lib.hid hb; clear hb)
      | (go_at_call 52; (with_reducible refine (HA.out _).mono ?_); rintro e w2 ⟨rfl, hb⟩; have HB2 := Lib.hid (bchain (HB1.out.alloc HB1.out.size _) hb); clear hb))
    go_ret
    exact ⟨ret_int (by rw [HL.out, if_neg h8]; omega), HB2.out⟩
set_option maxRecDepth 8000 in
theorem begin_any (n : Int) (h : I63 n) (w : World) : Calls Tryd.prog 33 #[.int .i64 n] w fun e w' => e = .returned (.int .i64 (beginN (nr n) : Int)) ∧ Below w.heap.size w w' := by
  have hle := nr_le n
  have HW : Hid (∀ w, Calls Tryd.prog 51 #[.int .i64 n] w fun e w' => e = .returned (.agg #[.int .i64 ((nr n / 52 : Nat) : Int), .int .i64 ((nr n % 52 : Nat) : Int)]) ∧ Below w.heap.size w w') := fun w => where_any n h w
  generalize nr n = a at *
  have hb := begin_le a hle
  have hmd := Nat.div_add_mod a 52
  obtain ⟨q, hq2⟩ : ∃ q, a / 52 = q := ⟨_, rfl⟩
  obtain ⟨r, hr2⟩ : ∃ r, a % 52 = r := ⟨_, rfl⟩
  have hr3 : r < 52 := by omega
  rw [hq2, hr2] at HW
  rw [hq2, hr2] at hmd
  have hbg : beginN a = if 41 < r then (q + 1) * 52 else a := by unfold beginN; rw [hq2, hr2]
  generalize beginN a = be at *
  clear hq2 hr2
  have hr4 : (r : Int) ≤ 51 := by omega
  have hq4 : (q : Int) ≤ 16 := by omega
  by_cases h4 : 41 < r
  · rw [if_pos h4] at hbg
    have HA : Hid (∀ w, Calls Tryd.prog 52 #[.agg #[.int .i64 ((q : Int) + 1), .int .i64 0]] w fun e w' => e = .returned (.int .i64 (be : Int)) ∧ Below w.heap.size w w') := fun w =>
      at_nat (q + 1) 0 be (by omega) (by omega) (by omega) (by omega) w
    clear hmd hb hbg
    go_enter Tryd.func33, Tryd.ntmps33
    go_wp2_with (first
      | (go_at_call 51; (with_reducible refine (HW.out _).mono ?_); rintro e w1 ⟨rfl, hb⟩; have HB1 := Lib.hid hb; clear hb)
      | (go_at_call 52; (with_reducible refine (HA.out _).mono ?_); rintro e w2 ⟨rfl, hb⟩; have HB2 := Lib.hid (bchain (HB1.out.alloc HB1.out.size _) hb); clear hb))
    go_ret
    exact ⟨rfl, HB2.out⟩
  · rw [if_neg h4] at hbg
    subst hbg
    have HA : Hid (∀ w, Calls Tryd.prog 52 #[.agg #[.int .i64 (q : Int), .int .i64 (r : Int)]] w fun e w' => e = .returned (.int .i64 (be : Int)) ∧ Below w.heap.size w w') := fun w =>
      at_nat q r be (by omega) (by omega) (by omega) (by omega) w
    clear hmd hb
    go_enter Tryd.func33, Tryd.ntmps33
    go_wp2_with (first
      | (go_at_call 51; (with_reducible refine (HW.out _).mono ?_); rintro e w1 ⟨rfl, hb⟩; have HB1 := Lib.hid hb; clear hb)
      | (go_at_call 52; (with_reducible refine (HA.out _).mono ?_); rintro e w2 ⟨rfl, hb⟩; have HB2 := Lib.hid (bchain (HB1.out.alloc HB1.out.size _) hb); clear hb))
    go_ret
    exact ⟨rfl, HB2.out⟩
end Go.Proofs.YtjlnceldnbpapaaDoor
