/-
  TEXTS JOINED: SpanWhere, SpanTouch, PlanMath, Bools, PlanCov, SpanRef, SpanCode. Each one's own words stand at its head.
-/
import Derived.Test.YtnmplnemnfonfaaGreatDoorJ13
import Derived.Test.YtnmplnemnfonfaaGreatDoorJ3
import Derived.Laws.StructEq
import Derived.Deep.WholeRow
import Derived.Test.YtnmplnemnfonfaaGreatDoorJ0
import Derived.Test.YtnmplnemnfonfaaGreatDoorJ12
import Derived.Test.YtnmplnemnfonfaaGreatDoorJ1
namespace Go.Proofs.YtnmplnemnfonfaaGreatDoor
open Go.RowKit
theorem spot_info : (Tryz.prog.info? 148).map (·.size) = some 2 := by kernel_rfl
theorem nearer_any (n m : Int) (h : I63 n) (h2 : 0 ≤ m ∧ m ≤ 832) (w : World) : Calls Tryz.prog 110 #[.int .i64 n, .int .i64 m] w fun e w' => e = .returned (.int .i64 (min (max n 0) m)) ∧ w' = w := by
  have h' : -9223372036854775808 ≤ n ∧ n ≤ 9223372036854775807 := h
  go_enter Tryz.func110, Tryz.ntmps110
  go_wp2
  all_goals
    go_ret
    exact ⟨ret_int (by omega), rfl⟩
theorem place_any (n : Int) (h : I63 n) (w : World) : Calls Tryz.prog 99 #[.int .i64 n] w fun e w' => e = .returned (.int .i64 (nr n : Int)) ∧ w' = w := by
  have HN : Hid (∀ w, Calls Tryz.prog 110 #[.int .i64 n, .int .i64 832] w fun e w' => e = .returned (.int .i64 (nr n : Int)) ∧ w' = w) := fun w =>
    (nearer_any n 832 h (by omega) w).mono fun e w' ⟨he, hw⟩ => ⟨by rw [he]; unfold nr; congr 2; omega, hw⟩
  go_enter Tryz.func99, Tryz.ntmps99
  go_wp2_with (first
    | (go_at_call 110; (with_reducible refine (HN.out _).mono ?_); rintro e w' ⟨rfl, rfl⟩))
  go_ret
  exact ⟨rfl, rfl⟩
theorem where_any (n : Int) (h : I63 n) (w : World) : Calls Tryz.prog 77 #[.int .i64 n] w fun e w' => e = .returned (.agg #[.int .i64 ((nr n / 52 : Nat) : Int), .int .i64 ((nr n % 52 : Nat) : Int)]) ∧ Below w.heap.size w w' := by
  have hle := nr_le n
  have HP : Hid (∀ w, Calls Tryz.prog 99 #[.int .i64 n] w fun e w' => e = .returned (.int .i64 (nr n : Int)) ∧ w' = w) := fun w => place_any n h w
  generalize nr n = a at *
  have hq : (a : Int).tdiv 52 = ((a / 52 : Nat) : Int) := by rw [Int.tdiv_eq_ediv_of_nonneg (by omega)]; omega
  have hm : (a : Int).tmod 52 = ((a % 52 : Nat) : Int) := by rw [Int.tmod_eq_emod_of_nonneg (by omega)]; omega
  obtain ⟨q, hq2⟩ : ∃ q, a / 52 = q := ⟨_, rfl⟩
  obtain ⟨r, hr2⟩ : ∃ r, a % 52 = r := ⟨_, rfl⟩
  rw [hq2] at hq ⊢
  rw [hr2] at hm ⊢
  have hq3 : (q : Int) ≤ 16 := by omega
  have hr3 : (r : Int) ≤ 51 := by omega
  clear hq2 hr2
  go_enter Tryz.func77, Tryz.ntmps77
  go_wp2_with (first
    | (go_at_call 99; (with_reducible refine (HP.out _).mono ?_); rintro e w' ⟨rfl, rfl⟩))
  exact bodyPost_ret_by (v := .agg #[.int .i64 q, .int .i64 r]) (results_cell_row rfl _ _ w.heap.size _ #[.int .i64 q, .int .i64 r] (0, 0) _ rfl (heap_alloc_last w _) Tryz.underlying148 rfl spot_info) rfl ⟨rfl, (Below.refl _ _).alloc (Nat.le_refl _) _⟩
theorem wrap_id (x : Int) (h : -1000 ≤ x ∧ x ≤ 10000) : IntKind.i64.wrap x = x := by
  exact IntWalk.i64_in _ (by omega)
theorem bchain {a b c : World} (h : Below a.heap.size a b) (k : Below b.heap.size b c) : Below a.heap.size a c := h.trans (k.mono h.size)
end Go.Proofs.YtnmplnemnfonfaaGreatDoor
namespace Go.Proofs.YtnmplnemnfonfaaGreatDoor
open Go.RowKit
def touchN (a b : Nat) : Nat × Nat := if a < b then (a / 52, (b - 1) / 52 + 1) else (0, 0)
set_option maxRecDepth 8000 in
set_option maxHeartbeats 800000 in
theorem rtouch_any (n m : Int) (h : I63 n) (h2 : I63 m) (w : World) : Calls Tryz.prog 35 #[.int .i64 n, .int .i64 m] w fun e w' => e = .returned (.tuple #[.int .i64 ((touchN (nr n) (nr m)).1 : Int), .int .i64 ((touchN (nr n) (nr m)).2 : Int)]) ∧ w' = w := by
  have hle := nr_le n
  have hle2 := nr_le m
  have HN : Hid (∀ w, Calls Tryz.prog 59 #[.int .i64 n] w fun e w' => e = .returned (.int .i64 (nr n : Int)) ∧ w' = w) := fun w => near_any n h w
  have HM : Hid (∀ w, Calls Tryz.prog 59 #[.int .i64 m] w fun e w' => e = .returned (.int .i64 (nr m : Int)) ∧ w' = w) := fun w => near_any m h2 w
  generalize nr n = a at *
  generalize nr m = b at *
  go_enter Tryz.func35, Tryz.ntmps35
  go_wp2_with (first
    | (go_at_call 59; (with_reducible refine (HN.out _).mono ?_); rintro e w' ⟨rfl, rfl⟩))
  go_loop [6, 7, 8] (fun fv lv iv => ∃ (i : Nat) (f l : Int), iv = .int .i64 i ∧ fv = .int .i64 f ∧ lv = .int .i64 l ∧ i ≤ 832 ∧ -1 ≤ f ∧ f ≤ 16 ∧ -1 ≤ l ∧ l ≤ 16 ∧ Hid ((i = a ∧ f = -1 ∧ l = -1) ∨ (a < i ∧ i ≤ b ∧ f = ((a / 52 : Nat) : Int) ∧ l = (((i - 1) / 52 : Nat) : Int)))) (fun _ _ iv => 832 - (intOf iv).toNat)
  case atStart => exact ⟨a, -1, -1, rfl, rfl, rfl, by omega, by omega, by omega, by omega, by omega, .inl ⟨rfl, rfl, rfl⟩⟩
  case round =>
    obtain ⟨i, f, l, rfl, rfl, rfl, hi, hf1, hf2, hl1, hl2, HR⟩ := hrel
    have hd : (i : Int).tdiv 52 = ((i / 52 : Nat) : Int) := by rw [Int.tdiv_eq_ediv_of_nonneg (by omega)]; omega
    obtain ⟨q, hq⟩ : ∃ q, i / 52 = q := ⟨_, rfl⟩
    rw [hq] at hd
    have hwq : wrap64 (q : Int) = (q : Int) := by unfold wrap64; omega
    have HQ := Lib.hid hq
    have HWQ := Lib.hid (congrArg (Value.int IntKind.i64) hwq)
    clear hq hwq
    by_cases hlt : (i : Int) < (b : Int)
    · by_cases hf : f < 0
      · go_wp2_with (first
          | (go_at_call 59; (with_reducible refine (HM.out _).mono ?_); rintro e w' ⟨rfl, rfl⟩))
        go_round
        case rel =>
          refine ⟨i + 1, q, q, by go_num, HWQ.out, HWQ.out, by omega, by omega, by have := HQ.out; omega, by omega, by have := HQ.out; omega, .inr ?_⟩
          have := HQ.out
          rcases HR.out with ⟨rfl, _, _⟩ | ⟨g1, g2, g3, g4⟩ <;> omega
        case measure => simp [intOf]; omega
      · go_wp2_with (first
          | (go_at_call 59; (with_reducible refine (HM.out _).mono ?_); rintro e w' ⟨rfl, rfl⟩))
        go_round
        case rel =>
          refine ⟨i + 1, f, q, by go_num, rfl, HWQ.out, by omega, by omega, by omega, by omega, by have := HQ.out; omega, .inr ?_⟩
          have := HQ.out
          rcases HR.out with ⟨rfl, _, _⟩ | ⟨g1, g2, g3, g4⟩ <;> omega
        case measure => simp [intOf]; omega
    · by_cases hf : f < 0
      · have HT := Lib.hid (show touchN a b = (0, 0) from if_neg (by rcases HR.out with ⟨rfl, _, _⟩ | ⟨g1, g2, g3, g4⟩ <;> omega))
        go_wp2_with (first
          | (go_at_call 59; (with_reducible refine (HM.out _).mono ?_); rintro e w' ⟨rfl, rfl⟩))
        go_ret2
        exact ⟨by rw [HT.out]; rfl, rfl⟩
      · have HT := Lib.hid (show ((touchN a b).1 : Int) = f ∧ ((touchN a b).2 : Int) = l + 1 from by
          rcases HR.out with ⟨rfl, g2, _⟩ | ⟨g1, g2, g3, g4⟩
          · omega
          · rw [show touchN a b = (a / 52, (b - 1) / 52 + 1) from if_pos (by omega)]
            exact ⟨by omega, by omega⟩)
        go_wp2_with (first
          | (go_at_call 59; (with_reducible refine (HM.out _).mono ?_); rintro e w' ⟨rfl, rfl⟩))
        go_ret2
        exact ⟨by rw [HT.out.1, HT.out.2]; rfl, rfl⟩
set_option maxRecDepth 8000 in
theorem touch_any (n m : Int) (h : I63 n) (h2 : I63 m) (w : World) : Calls Tryz.prog 108 #[.int .i64 n, .int .i64 m] w fun e w' => e = .returned (.tuple #[.int .i64 ((touchN (nr n) (nr m)).1 : Int), .int .i64 ((touchN (nr n) (nr m)).2 : Int)]) ∧ Below w.heap.size w w' := by
  have hln := nr_le n
  have hlm := nr_le m
  have HN : Hid (∀ w, Calls Tryz.prog 99 #[.int .i64 n] w fun e w' => e = .returned (.int .i64 (nr n : Int)) ∧ w' = w) := fun w => place_any n h w
  have HM : Hid (∀ w, Calls Tryz.prog 99 #[.int .i64 m] w fun e w' => e = .returned (.int .i64 (nr m : Int)) ∧ w' = w) := fun w => place_any m h2 w
  generalize nr n = a at *
  generalize nr m = b at *
  by_cases hlt : (a : Int) < (b : Int)
  · have ht : touchN a b = (a / 52, (b - 1) / 52 + 1) := by unfold touchN; rw [if_pos (by omega)]
    rw [ht]
    have H1 : Hid (∀ w, Calls Tryz.prog 77 #[.int .i64 (a : Int)] w fun e w' => e = .returned (.agg #[.int .i64 ((a / 52 : Nat) : Int), .int .i64 ((a % 52 : Nat) : Int)]) ∧ Below w.heap.size w w') := fun w => by
      have := where_any a (by unfold I63; omega) w; rwa [nr_nat _ hln] at this
    have H2 : Hid (∀ w, Calls Tryz.prog 77 #[.int .i64 ((b : Int) - 1)] w fun e w' => e = .returned (.agg #[.int .i64 (((b - 1) / 52 : Nat) : Int), .int .i64 (((b - 1) % 52 : Nat) : Int)]) ∧ Below w.heap.size w w') := fun w => by
      have := where_any ((b - 1 : Nat) : Int) (by unfold I63; omega) w; rwa [nr_nat _ (by omega), show ((b - 1 : Nat) : Int) = (b : Int) - 1 from by omega] at this
    have hq : (((b - 1) / 52 : Nat) : Int) ≤ 16 := by omega
    generalize (b - 1) / 52 = q at *
    generalize (b - 1) % 52 = r at *
    generalize a / 52 = q2 at *
    generalize a % 52 = r2 at *
    clear ht
    go_enter Tryz.func108, Tryz.ntmps108
    have hf1 : ∀ w, (Instr.field 148 (.agg #[.int .i64 q2, .int .i64 r2]) 0).run Tryz.prog w = .ok (.int .i64 q2) w := fun _ => by kernel_rfl
    have hf2 : ∀ w, (Instr.field 148 (.agg #[.int .i64 q, .int .i64 r]) 0).run Tryz.prog w = .ok (.int .i64 q) w := fun _ => by kernel_rfl
    go_wp2_with (first
      | (go_at_call 99; (with_reducible refine (HN.out _).mono ?_); rintro e w' ⟨rfl, rfl⟩)
      | (go_at_call 99; (with_reducible refine (HM.out _).mono ?_); rintro e w' ⟨rfl, rfl⟩)
      | (go_at_call 77; (with_reducible refine (H1.out _).mono ?_); rintro e w1 ⟨rfl, hb⟩; have HB1 := Lib.hid hb; clear hb)
      | (go_at_call 77; (with_reducible refine (H2.out _).mono ?_); rintro e w2 ⟨rfl, hb⟩; have HB2 := Lib.hid (bchain HB1.out hb); clear hb))
    go_ret2
    exact ⟨rfl, HB2.out⟩
  · have ht : touchN a b = (0, 0) := by unfold touchN; rw [if_neg (by omega)]
    rw [ht]
    clear ht
    go_enter Tryz.func108, Tryz.ntmps108
    go_wp2_with (first
      | (go_at_call 99; (with_reducible refine (HN.out _).mono ?_); rintro e w' ⟨rfl, rfl⟩)
      | (go_at_call 99; (with_reducible refine (HM.out _).mono ?_); rintro e w' ⟨rfl, rfl⟩))
    go_ret2
    exact ⟨rfl, Below.refl _ _⟩
end Go.Proofs.YtnmplnemnfonfaaGreatDoor
namespace Go.Proofs.YtnmplnemnfonfaaGreatDoor
open Go.RowKit
def secOf (fs : List Int) (i : Nat) : List Int := (fs.drop (i * 64)).take 64
theorem secOf_length (fs : List Int) (n i : Nat) (h : fs.length = n * 64) (hi : i < n) : (secOf fs i).length = 64 := by unfold secOf; simp; omega
def okAt (x : Int) (n : Nat) (fs : List Int) (i : Nat) : Bool := decide (i < n) && decide (sealed x i ((secOf fs i).drop 12) = secOf fs i)
def roomAt (x : Int) (n : Nat) (fs : List Int) (i : Nat) : List Int := if okAt x n fs i = true then (secOf fs i).drop 12 else List.replicate 52 0
def flatB (x : Int) (n : Nat) (fs : List Int) : Nat → List Int
  | 0 => []
  | k + 1 => flatB x n fs k ++ roomAt x n fs k
def flatK (x : Int) (n : Nat) (fs : List Int) : Nat → List Bool
  | 0 => []
  | k + 1 => flatK x n fs k ++ [okAt x n fs k]
theorem roomAt_length (x : Int) (n : Nat) (fs : List Int) (h : fs.length = n * 64) (i : Nat) : (roomAt x n fs i).length = 52 := by
  unfold roomAt
  split
  · rename_i h1
    simp only [okAt, Bool.and_eq_true, decide_eq_true_eq] at h1
    rw [List.length_drop, secOf_length fs n i h h1.1]
  · simp
theorem flatB_length (x : Int) (n : Nat) (fs : List Int) (h : fs.length = n * 64) : ∀ k, (flatB x n fs k).length = 52 * k
  | 0 => rfl
  | k + 1 => by rw [flatB, List.length_append, flatB_length x n fs h k, roomAt_length x n fs h]; omega
theorem flatK_length (x : Int) (n : Nat) (fs : List Int) : ∀ k, (flatK x n fs k).length = k
  | 0 => rfl
  | k + 1 => by rw [flatK, List.length_append, flatK_length x n fs k]; rfl
theorem okAt_behind (x : Int) (n : Nat) (fs : List Int) (i : Nat) (h : n ≤ i) : okAt x n fs i = false := by
  unfold okAt; rw [decide_eq_false (by omega)]; rfl
theorem okAt_in (x : Int) (n : Nat) (fs : List Int) (i : Nat) (h : i < n) : okAt x n fs i = decide (sealed x i ((secOf fs i).drop 12) = secOf fs i) := by
  unfold okAt; rw [decide_eq_true h]; rfl
theorem roomAt_false (x : Int) (n : Nat) (fs : List Int) (i : Nat) (h : okAt x n fs i = false) : roomAt x n fs i = List.replicate 52 0 := by
  unfold roomAt; rw [if_neg (by rw [h]; simp)]
theorem roomAt_true (x : Int) (n : Nat) (fs : List Int) (i : Nat) (h : okAt x n fs i = true) : roomAt x n fs i = (secOf fs i).drop 12 := by
  unfold roomAt; rw [if_pos h]
theorem flatB_behind (x : Int) (n : Nat) (fs : List Int) (k : Nat) (h : n ≤ k) : ∀ d, flatB x n fs (k + d) = flatB x n fs k ++ List.replicate (52 * d) 0
  | 0 => by simp
  | d + 1 => by
    rw [← Nat.add_assoc, flatB, flatB_behind x n fs k h d, roomAt_false _ _ _ _ (okAt_behind _ _ _ _ (by omega)), List.append_assoc, List.replicate_append_replicate, Nat.mul_add]
theorem flatK_behind (x : Int) (n : Nat) (fs : List Int) (k : Nat) (h : n ≤ k) : ∀ d, flatK x n fs (k + d) = flatK x n fs k ++ List.replicate d false
  | 0 => by simp
  | d + 1 => by
    rw [← Nat.add_assoc, flatK, flatK_behind x n fs k h d, okAt_behind _ _ _ _ (by omega), List.append_assoc, show [false] = List.replicate 1 false from rfl, List.replicate_append_replicate]
def bodyAt (x : Int) (n : Nat) (fs : List Int) (k : Nat) : List Int := flatB x n fs k ++ List.replicate (832 - 52 * k) 0
def oksAt (x : Int) (n : Nat) (fs : List Int) (k : Nat) : List Bool := flatK x n fs k ++ List.replicate (16 - k) false
theorem bodyAt_length (x : Int) (n : Nat) (fs : List Int) (h : fs.length = n * 64) (k : Nat) (hk : k ≤ 16) : (bodyAt x n fs k).length = 832 := by
  unfold bodyAt; rw [List.length_append, flatB_length x n fs h, List.length_replicate]; omega
theorem oksAt_length (x : Int) (n : Nat) (fs : List Int) (k : Nat) (hk : k ≤ 16) : (oksAt x n fs k).length = 16 := by
  unfold oksAt; rw [List.length_append, flatK_length, List.length_replicate]; omega
theorem bodyAt_zero (x : Int) (n : Nat) (fs : List Int) : bodyAt x n fs 0 = List.replicate 832 0 := rfl
theorem oksAt_zero (x : Int) (n : Nat) (fs : List Int) : oksAt x n fs 0 = List.replicate 16 false := rfl
theorem splice_mid {α : Type} (a b c : List α) (d : List α) (h : c.length = b.length) (k : Nat) (hk : a.length = k) : splice (a ++ (b ++ d)) k c = a ++ (c ++ d) := by
  subst hk
  unfold splice
  rw [List.take_left', List.drop_append, List.drop_eq_nil_of_le (by omega), List.nil_append]
  · congr 2
    rw [show a.length + c.length - a.length = b.length from by omega, List.drop_left']
    rfl
  · rfl
theorem splice_nil {α : Type} (l : List α) (k : Nat) : splice l k [] = l := by simp [splice]
theorem bodyAt_true (x : Int) (n : Nat) (fs : List Int) (h : fs.length = n * 64) (k : Nat) (hk : k < 16) (ho : okAt x n fs k = true) :
    splice (bodyAt x n fs k) (52 * k) ((secOf fs k).drop 12) = bodyAt x n fs (k + 1) := by
  have hr := roomAt_length x n fs h k
  rw [roomAt_true _ _ _ _ ho] at hr
  unfold bodyAt
  rw [show 832 - 52 * k = 52 + (832 - 52 * (k + 1)) from by omega, ← List.replicate_append_replicate,
    splice_mid _ (List.replicate 52 0) _ _ (by simpa using hr) _ (flatB_length x n fs h k), flatB, roomAt_true _ _ _ _ ho, List.append_assoc]
theorem bodyAt_false (x : Int) (n : Nat) (fs : List Int) (k : Nat) (hk : k < 16) (ho : okAt x n fs k = false) : bodyAt x n fs k = bodyAt x n fs (k + 1) := by
  unfold bodyAt
  rw [flatB, roomAt_false _ _ _ _ ho, List.append_assoc, List.replicate_append_replicate, show 52 + (832 - 52 * (k + 1)) = 832 - 52 * k from by omega]
theorem oksAt_next (x : Int) (n : Nat) (fs : List Int) (k : Nat) (hk : k < 16) : (oksAt x n fs k).set k (okAt x n fs k) = oksAt x n fs (k + 1) := by
  unfold oksAt
  rw [show 16 - k = 1 + (16 - (k + 1)) from by omega, ← List.replicate_append_replicate, List.set_append_right _ _ (by rw [flatK_length]; omega), flatK_length, Nat.sub_self, flatK, List.append_assoc]
  rfl
theorem bodyAt_end (x : Int) (n : Nat) (fs : List Int) : bodyAt x n fs (min n 16) = flatB x n fs 16 := by
  by_cases h : n ≤ 16
  · rw [Nat.min_eq_left h]
    have := flatB_behind x n fs n (Nat.le_refl _) (16 - n)
    rw [show n + (16 - n) = 16 from by omega] at this
    rw [this]; unfold bodyAt; rw [show 832 - 52 * n = 52 * (16 - n) from by omega]
  · rw [Nat.min_eq_right (by omega)]; unfold bodyAt; simp
theorem oksAt_end (x : Int) (n : Nat) (fs : List Int) : oksAt x n fs (min n 16) = flatK x n fs 16 := by
  by_cases h : n ≤ 16
  · rw [Nat.min_eq_left h]
    have := flatK_behind x n fs n (Nat.le_refl _) (16 - n)
    rw [show n + (16 - n) = 16 from by omega] at this
    rw [this]; rfl
  · rw [Nat.min_eq_right (by omega)]; unfold oksAt; simp
def partB (body : List Int) (i : Nat) : List Int := (body.drop (52 * i)).take 52
def wholeK (x : Int) (body : List Int) (n : Nat) : Nat → List Int
  | 0 => []
  | k + 1 => wholeK x body n k ++ (if k < n then sealed x (k : Int) (partB body k) else z64)
theorem wholeK_length (x : Int) (body : List Int) (n : Nat) : ∀ k, (wholeK x body n k).length = k * 64
  | 0 => rfl
  | k + 1 => by
    rw [wholeK, List.length_append, wholeK_length x body n k]
    split
    · rw [sealed_length]; omega
    · rw [z64_length]; omega
theorem secOf_whole (x : Int) (body : List Int) (n i : Nat) : ∀ k, i < k → secOf (wholeK x body n k) i = if i < n then sealed x (i : Int) (partB body i) else z64
  | 0, h => absurd h (by omega)
  | k + 1, h => by
    have hl := wholeK_length x body n k
    by_cases hik : i < k
    · rw [← secOf_whole x body n i k hik]
      unfold secOf
      rw [wholeK, List.drop_append_of_le_length (by omega), List.take_append_of_le_length (by simp; omega)]
    · obtain rfl : i = k := by omega
      unfold secOf
      rw [wholeK, List.drop_left' hl]
      refine List.take_of_length_le ?_
      split
      · rw [sealed_length]; omega
      · rw [z64_length]; omega
theorem z64_sealed : z64 = sealed 0 0 [] := by decide
theorem okAt_whole (x : Int) (hx : U64 x) (h0 : x ≠ 0) (body : List Int) (n i : Nat) (hi : i < 16) : okAt x 16 (wholeK x body n 16) i = decide (i < n) := by
  rw [okAt_in _ _ _ _ hi, secOf_whole x body n i 16 hi]
  by_cases h : i < n
  · rw [if_pos h, sealed_own, decide_eq_true rfl, decide_eq_true h]
  · rw [if_neg h, z64_sealed, decide_eq_false h]
    refine decide_eq_false fun he => h0 ?_
    exact ((sealed_eq 0 x 0 i (by unfold U64; omega) hx []).1 he).1.symm
theorem flatB_get (x : Int) (n : Nat) (fs : List Int) (hl : fs.length = n * 64) (i r : Nat) (hr : r < 52) : ∀ k, i < k → (flatB x n fs k).getD (52 * i + r) 0 = (roomAt x n fs i).getD r 0
  | 0, h => absurd h (by omega)
  | k + 1, h => by
    have h1 := flatB_length x n fs hl k
    rw [flatB]
    by_cases hik : i < k
    · rw [getD_app_l _ _ _ (by omega), flatB_get x n fs hl i r hr k hik]
    · obtain rfl : i = k := by omega
      rw [getD_app_r _ _ _ (by omega), h1, Nat.add_sub_cancel_left]
theorem getB_app_l (a b : List Bool) (j : Nat) (h : j < a.length) : (a ++ b).getD j false = a.getD j false := by simp [List.getD, List.getElem?_append, h]
theorem getB_app_r (a b : List Bool) (j : Nat) (h : a.length ≤ j) : (a ++ b).getD j false = b.getD (j - a.length) false := by simp [List.getD, List.getElem?_append, Nat.not_lt.2 h]
theorem flatK_get (x : Int) (n : Nat) (fs : List Int) (i : Nat) : ∀ k, i < k → (flatK x n fs k).getD i false = okAt x n fs i
  | 0, h => absurd h (by omega)
  | k + 1, h => by
    have h1 := flatK_length x n fs k
    rw [flatK]
    by_cases hik : i < k
    · rw [getB_app_l _ _ _ (by omega), flatK_get x n fs i k hik]
    · obtain rfl : i = k := by omega
      rw [getB_app_r _ _ _ (by omega), h1]; simp
theorem back_get (x : Int) (hx : U64 x) (h0 : x ≠ 0) (body : List Int) (n j : Nat) (hj : j < 832) :
    (flatB x 16 (wholeK x body n 16) 16).getD j 0 = if j < 52 * n ∧ j < body.length then body.getD j 0 else 0 := by
  have hj2 : 52 * (j / 52) + j % 52 = j := by omega
  have h1 := flatB_get x 16 (wholeK x body n 16) (wholeK_length x body n 16) (j / 52) (j % 52) (by omega) 16 (by omega)
  rw [hj2] at h1
  rw [h1]
  have ho := okAt_whole x hx h0 body n (j / 52) (by omega)
  by_cases hn : j / 52 < n
  · rw [decide_eq_true hn] at ho
    rw [roomAt_true _ _ _ _ ho, secOf_whole x body n _ 16 (by omega), if_pos hn, sealed_room, room_get _ _ (by omega)]
    unfold partB
    have h2 : ((body.drop (52 * (j / 52))).take 52).getD (j % 52) 0 = body.getD j 0 := by
      simp only [List.getD, List.getElem?_take, show j % 52 < 52 from by omega, if_true, List.getElem?_drop, hj2]
    rw [h2]
    by_cases hb : j < body.length
    · rw [if_pos ⟨by omega, hb⟩]
    · rw [if_neg (by omega)]
      simp [List.getD, List.getElem?_eq_none (Nat.not_lt.1 hb)]
  · rw [decide_eq_false hn] at ho
    rw [roomAt_false _ _ _ _ ho, if_neg (by omega), getD_replicate]
def cov (bs : List Bool) (a d : Nat) : Bool := (List.range d).all fun i => bs.getD (a + i) false
theorem cov_short (bs : List Bool) (a d i : Nat) (hi : i < d) (h : bs.getD (a + i) false = false) : cov bs a d = false := by
  refine Bool.eq_false_iff.2 fun h1 => ?_
  have := List.all_eq_true.1 h1 i (List.mem_range.2 hi)
  rw [h] at this; cases this
theorem cov_all (bs : List Bool) (a d : Nat) (h : ∀ i, i < d → bs.getD (a + i) false = true) : cov bs a d = true :=
  List.all_eq_true.2 fun i hi => h i (List.mem_range.1 hi)
theorem touch_le (a b : Nat) (hb : b ≤ 832) : (touchN a b).1 ≤ (touchN a b).2 ∧ (touchN a b).2 ≤ 16 ∧ ((touchN a b).1 = (touchN a b).2 → (touchN a b).1 = 0) := by
  unfold touchN
  split
  · refine ⟨by simp only; omega, by simp only; omega, by simp only; omega⟩
  · simp
end Go.Proofs.YtnmplnemnfonfaaGreatDoor
namespace Go.Proofs.YtnmplnemnfonfaaGreatDoor
open Go.RowKit
theorem BS.cut {w : World} {a : Option Addr} {len cap : Nat} {bs : List Bool} (h : BS w (.slice a len cap) len bs) (l n m : Nat) (hl : l + n ≤ len) (hm : l + n ≤ m) (hm2 : m ≤ cap) :
    BS w (sliced a l (l + n) m 1) n ((bs.drop l).take n) := by
  have hbl := h.length
  obtain ⟨a', cap', e, h1, h2, h3, h4, hc⟩ := h
  simp only [Value.slice.injEq, true_and] at e
  obtain ⟨rfl, rfl⟩ := e
  have hz : (((bs.drop l).take n).map Value.bool).length = n * 1 := by simp; omega
  unfold sliced
  rw [show l + n - l = n from by omega]
  by_cases h0 : m = l
  · rw [if_pos h0]
    exact ⟨a, m - l, rfl, hz, by omega, by omega, fun e => by have := h4 e; omega, fun h => absurd h (by omega)⟩
  · rw [if_neg h0]
    cases a with
    | none => have := h4 rfl; omega
    | some x =>
      refine ⟨some (x.add (l * 1)), m - l, rfl, hz, by omega, by omega, fun h => by simp at h, fun hp => ?_⟩
      obtain ⟨b, off, hx, hcell⟩ := hc (by omega)
      obtain rfl := Option.some.inj hx
      refine ⟨b, off + l, by simp [Addr.add], fun j hj => ?_⟩
      rw [Nat.add_assoc, hcell (l + j) (by omega)]
      simp only [List.getElem?_map, List.getElem?_take, show j < n from by omega, if_true, List.getElem?_drop]
section
variable {w : World} {o : Oper} {a : Act}
set_option maxRecDepth 20000 in
theorem bool_cell1 : (sizeOf (Tryz.prog.elem 75)).run Tryz.prog w = .ok 1 w := by
  have he : Tryz.prog.elem 75 = 4 := rfl
  have hb : (Tryz.prog.info? 4).map (fun i => (i.zero, i.size, i.bytes)) = some (some (.bool false), 1, 1) := by kernel_rfl
  obtain ⟨i, hi, _, hz1, _⟩ := info_parts hb
  simp [sizeOf, typeInfo, he, hi, hz1]
set_option maxRecDepth 20000 in
theorem und_bools : Tryz.prog.underlying 75 = some (.slice (Tryz.prog.elem 75)) := by rw [Tryz.underlying75]; rfl
theorem exec_cutb_lh (x lo hi : Operand) (ho : o.op = .slice 75 x (some lo) (some hi) none) (p : Option Addr) (len cap l n : Nat) (hx : a.eval x = .slice p len cap) (hlo : a.eval lo = .int .i64 (l : Int)) (hhi : a.eval hi = .int .i64 ((l + n : Nat) : Int)) (hc : l + n ≤ cap) :
    (execOp a.eval o).run Tryz.prog w = .ok (.value (sliced p l (l + n) cap 1)) w := by
  have h1 := run_slice_lh (P := Tryz.prog) w 75 p len cap und_bools .i64 .i64 (l : Int) ((l + n : Nat) : Int) (by omega) (by omega) (by omega)
  rw [bool_cell1] at h1
  simp only [Result.andThen_ok, Int.toNat_natCast] at h1
  simp only [Int.natCast_add] at h1
  simp [execOp, ho, hx, hlo, hhi, run_sliceAt_slice _ _ _ _ _ _ und_bools, h1, Result.andThen]
end
section
variable {w : World} {o : Oper} {a : Act} {ops : Array Oper} {rest : List Oper} {Q : Exit → Act → World → Prop}
theorem wpl_cutb_lh (hw : Region.wanted o (yielded ops a.tmps) = true) (x lo hi : Operand) (ho : o.op = .slice 75 x (some lo) (some hi) none) (v : Value) (len l n : Nat) (bs : List Bool) (hx : a.eval x = v) (hlo : a.eval lo = .int .i64 (l : Int)) (hhi : a.eval hi = .int .i64 ((l + n : Nat) : Int)) (hr : BS w v len bs) (hl : l + n ≤ len)
    (h : ∀ p c, BS w (.slice p n c) n ((bs.drop l).take n) → wpList Tryz.prog ops Q rest (a.put o.dst (.slice p n c)) w) : wpList Tryz.prog ops Q (o :: rest) a w := by
  obtain ⟨p, cap, rfl, hc, _, _⟩ := CS.form hr
  obtain ⟨q, c, e⟩ := sliced_form p l n cap 1
  have he := exec_cutb_lh (w := w) x lo hi ho p len cap l n hx hlo hhi (by omega)
  have hR := hr.cut l n cap hl (by omega) (Nat.le_refl _)
  rw [e] at he hR
  unfold wpList
  rw [if_pos hw]
  refine Or.inl ?_
  unfold Oper.wp
  rw [he]
  simp only [Oper.upon]
  exact h q c hR
end
theorem cov_iff (bs : List Bool) (a d : Nat) : cov bs a d = true ↔ ∀ i, i < d → bs.getD (a + i) false = true := by
  unfold cov
  rw [List.all_eq_true]
  exact ⟨fun h i hi => h i (List.mem_range.2 hi), fun h i hi => h i (List.mem_range.1 hi)⟩
theorem cov_cut (bs : List Bool) (l n : Nat) : cov ((bs.drop l).take n) 0 n = cov bs l n := by
  rw [Bool.eq_iff_iff, cov_iff, cov_iff]
  have h : ∀ i, i < n → ((bs.drop l).take n).getD (0 + i) false = bs.getD (l + i) false := fun i hi => by
    rw [Nat.zero_add]; simp [List.getD, hi, List.getElem?_drop]
  exact ⟨fun k i hi => by rw [← h i hi]; exact k i hi, fun k i hi => by rw [h i hi]; exact k i hi⟩
set_option maxRecDepth 8000 in
set_option maxHeartbeats 800000 in
theorem index_any (v : Value) (len : Nat) (bs : List Bool) (w : World) (h : BS w v len bs) :
    Calls Tryz.prog 121 #[v, .bool false] w fun e w' => ∃ k : Int, e = .returned (.int .i64 k) ∧ w' = w ∧ decide (0 ≤ k) = !cov bs 0 len := by
  have hle := CS.le h
  obtain ⟨a, cap, rfl, hcap, hcap2, _⟩ := CS.form h
  have HC : Hid (∀ i, i < len → ∃ b off, a = some ⟨b, off, none⟩ ∧ w.cell? ⟨b, off + i, none⟩ = some (.bool (bs.getD i false))) := fun i hi => h.at_ i hi
  clear h
  go_enter Tryz.func121, Tryz.ntmps121
  go_wp2
  go_loop [8] (fun iv => ∃ i : Nat, iv = .int .i64 i ∧ i ≤ len ∧ Hid (∀ j, j < i → bs.getD (0 + j) false = true)) (fun iv => len - (intOf iv).toNat)
  case atStart => exact ⟨0, rfl, by omega, fun j hj => absurd hj (by omega)⟩
  case round =>
    obtain ⟨i, rfl, hi, HE⟩ := hrel
    by_cases hlt : (i : Int) < (len : Int)
    · obtain ⟨b, off, rfl, hcell⟩ := HC.out i (by omega)
      have HB : Hid (∀ x, bs.getD i false = x → bs.getD (0 + i) false = x) := fun x hx => by rw [Nat.zero_add]; exact hx
      cases hx : bs.getD i false with
      | false =>
        rw [hx] at hcell
        have HS := Lib.hid (cov_short bs 0 len i (by omega) (HB.out _ hx))
        clear HB hx
        go_wp2
        go_ret
        exact ⟨_, rfl, rfl, by rw [HS.out]; simp⟩
      | true =>
        rw [hx] at hcell
        have HN : Hid (∀ j, j < i + 1 → bs.getD (0 + j) false = true) := fun j hj => by
          by_cases hji : j < i
          · exact HE.out j hji
          · obtain rfl : j = i := by omega
            exact HB.out _ hx
        clear HB hx
        go_wp2
        exact ⟨⟨i + 1, by simp, by omega, HN⟩, by simp [intOf]; omega⟩
    · obtain rfl : i = len := by omega
      go_wp2
      go_ret
      exact ⟨_, rfl, rfl, by rw [cov_all bs 0 i HE.out]; simp⟩
set_option maxRecDepth 8000 in
theorem contains_any (v : Value) (len : Nat) (bs : List Bool) (w : World) (h : BS w v len bs) :
    Calls Tryz.prog 109 #[v, .bool false] w fun e w' => e = .returned (.bool (!cov bs 0 len)) ∧ w' = w := by
  have HH := Lib.hid h
  clear h
  go_enter Tryz.func109, Tryz.ntmps109
  go_wp2_with (first
    | (go_at_call 121; (with_reducible refine (index_any _ _ _ _ HH.out).mono ?_); rintro e w' ⟨k, rfl, rfl, hk⟩; have HK := Lib.hid hk; clear hk))
  go_ret
  exact ⟨ret_bool HK.out, rfl⟩
end Go.Proofs.YtnmplnemnfonfaaGreatDoor
namespace Go.Proofs.YtnmplnemnfonfaaGreatDoor
open Go.RowKit
def covAt (bs : List Bool) (from_ to : Int) : Bool := cov bs (touchN (nr from_) (nr to)).1 ((touchN (nr from_) (nr to)).2 - (touchN (nr from_) (nr to)).1)
theorem cov_long (bs : List Bool) (a b : Nat) (hab : a ≤ b) (h0 : a = b → a = 0) (hb : bs.length < b) : cov bs a (b - a) = false := by
  have hlt : a < b := by omega
  refine cov_short bs a (b - a) (b - a - 1) (by omega) ?_
  rw [show a + (b - a - 1) = b - 1 from by omega]
  simp [List.getD, List.getElem?_eq_none (show bs.length ≤ b - 1 from by omega)]
set_option maxRecDepth 8000 in
set_option maxHeartbeats 800000 in
theorem covered_any (v : Value) (len : Nat) (bs : List Bool) (f t : Int) (hf : I63 f) (ht : I63 t) (w : World) (h : BS w v len bs) :
    Calls Tryz.prog 89 #[v, .int .i64 f, .int .i64 t] w fun e w' => e = .returned (.bool (covAt bs f t)) ∧ Below w.heap.size w w' := by
  have hle := CS.le h
  have hbl := h.length
  obtain ⟨ad, cap, rfl, hcap, hcap2, _⟩ := CS.form h
  have HT : Hid (∀ w : World, Calls Tryz.prog 108 #[.int .i64 f, .int .i64 t] w fun e w' => e = .returned (.tuple #[.int .i64 ((touchN (nr f) (nr t)).1 : Int), .int .i64 ((touchN (nr f) (nr t)).2 : Int)]) ∧ Below w.heap.size w w') := fun w => touch_any f t hf ht w
  obtain ⟨hab, hb16, h0⟩ := touch_le (nr f) (nr t) (nr_le t)
  unfold covAt
  generalize (touchN (nr f) (nr t)).1 = a at *
  generalize (touchN (nr f) (nr t)).2 = b at *
  have HH := Lib.hid h
  have H0 := Lib.hid h0
  have HBL := Lib.hid hbl
  clear h h0 hbl hf ht
  by_cases hlt : (b : Int) ≤ (len : Int)
  · go_enter Tryz.func89, Tryz.ntmps89
    go_wp2_with (first
      | (go_at_call 108; (with_reducible refine (HT.out _).mono ?_); rintro e w1 ⟨rfl, hb⟩; have HB := Lib.hid hb; have HH1 := Lib.hid (HH.out.kin (Kin.below hb)); clear hb)
      | (refine wpl_cutb_lh (by rfl) _ _ _ rfl _ len a (b - a) bs rfl rfl (by rw [show a + (b - a) = b from by omega]; rfl) HH1.out (by omega) ?_; intro p c hc; have HC := Lib.hid hc; clear hc)
      | (go_at_call 109; (with_reducible refine (contains_any _ _ _ _ HC.out).mono ?_); rintro e w2 ⟨rfl, rfl⟩; rw [cov_cut]))
    go_ret
    exact ⟨ret_bool (by simp), HB.out⟩
  · have HN := Lib.hid (cov_long bs a b hab H0.out (by rw [HBL.out]; omega))
    go_enter Tryz.func89, Tryz.ntmps89
    go_wp2_with (first
      | (go_at_call 108; (with_reducible refine (HT.out _).mono ?_); rintro e w1 ⟨rfl, hb⟩; have HB := Lib.hid hb; clear hb))
    go_ret
    exact ⟨ret_bool (by rw [HN.out]), HB.out⟩
set_option maxRecDepth 8000 in
set_option maxHeartbeats 800000 in
theorem rcovered_any (v : Value) (len : Nat) (bs : List Bool) (f t : Int) (hf : I63 f) (ht : I63 t) (w : World) (h : BS w v len bs) :
    Calls Tryz.prog 56 #[v, .int .i64 f, .int .i64 t] w fun e w' => e = .returned (.bool (covAt bs f t)) ∧ w' = w := by
  have hle := CS.le h
  have hbl := h.length
  obtain ⟨ad, cap, rfl, hcap, hcap2, _⟩ := CS.form h
  have HC : Hid (∀ i, i < len → ∃ b off, ad = some ⟨b, off, none⟩ ∧ w.cell? ⟨b, off + i, none⟩ = some (.bool (bs.getD i false))) := fun i hi => h.at_ i hi
  have HT : Hid (∀ w : World, Calls Tryz.prog 35 #[.int .i64 f, .int .i64 t] w fun e w' => e = .returned (.tuple #[.int .i64 ((touchN (nr f) (nr t)).1 : Int), .int .i64 ((touchN (nr f) (nr t)).2 : Int)]) ∧ w' = w) := fun w => rtouch_any f t hf ht w
  obtain ⟨hab, hb16, h0⟩ := touch_le (nr f) (nr t) (nr_le t)
  unfold covAt
  generalize (touchN (nr f) (nr t)).1 = a at *
  generalize (touchN (nr f) (nr t)).2 = b at *
  have H0 := Lib.hid h0
  have HBL := Lib.hid hbl
  clear h h0 hbl hf ht
  go_enter Tryz.func56, Tryz.ntmps56
  go_wp2_with (first
    | (go_at_call 35; (with_reducible refine (HT.out _).mono ?_); rintro e w1 ⟨rfl, rfl⟩))
  go_loop [9] (fun iv => ∃ i : Nat, iv = .int .i64 ((a + i : Nat) : Int) ∧ i ≤ b - a ∧ Hid (∀ j, j < i → bs.getD (a + j) false = true)) (fun iv => b - (intOf iv).toNat)
  case atStart => exact ⟨0, rfl, by omega, fun j hj => absurd hj (by omega)⟩
  case round =>
    obtain ⟨i, rfl, hi, HE⟩ := hrel
    obtain ⟨q, hq⟩ : ∃ q, a + i = q := ⟨_, rfl⟩
    rw [hq]
    by_cases hlt : (q : Int) < (b : Int)
    · by_cases hln : (q : Int) ≥ (len : Int)
      · have HN := Lib.hid (cov_short bs a (b - a) i (by omega) (by rw [hq]; simp [List.getD, List.getElem?_eq_none (show bs.length ≤ q from by rw [HBL.out]; omega)]))
        go_wp2
        go_ret
        exact ⟨ret_bool (by rw [HN.out]), rfl⟩
      · obtain ⟨b1, off, rfl, hcell⟩ := HC.out q (by omega)
        cases hx : bs.getD q false with
        | false =>
          rw [hx] at hcell
          have HN := Lib.hid (cov_short bs a (b - a) i (by omega) (by rw [hq]; exact hx))
          clear hx
          go_wp2
          go_ret
          exact ⟨ret_bool (by rw [HN.out]), rfl⟩
        | true =>
          rw [hx] at hcell
          have HN : Hid (∀ j, j < i + 1 → bs.getD (a + j) false = true) := fun j hj => by
            by_cases hji : j < i
            · exact HE.out j hji
            · obtain rfl : j = i := by omega
              rw [hq]; exact hx
          have HQ := Lib.hid hq
          clear hx hq
          go_wp2
          exact ⟨⟨i + 1, by rw [← Nat.add_assoc, HQ.out]; simp, by have := HQ.out; omega, HN⟩, by simp [intOf]; omega⟩
    · obtain rfl : i = b - a := by omega
      have HN := Lib.hid (cov_all bs a (b - a) HE.out)
      go_wp2
      go_ret
      exact ⟨ret_bool (by rw [HN.out]), rfl⟩
end Go.Proofs.YtnmplnemnfonfaaGreatDoor
namespace Go.Proofs.YtnmplnemnfonfaaGreatDoor
open Go.RowKit
def leftN (a : Nat) : Nat := if a = 832 then 0 else 208 - a % 208
def beginN (a : Nat) : Nat := if 41 < a % 52 then (a / 52 + 1) * 52 else a
theorem begin_le (a : Nat) (h : a ≤ 832) : beginN a ≤ 832 := by unfold beginN; split <;> omega
theorem begin_room (a : Nat) (_h : a ≤ 832) : beginN a = 832 ∨ (11 ≤ leftN (beginN a) ∧ beginN a % 52 ≤ 41) := by
  by_cases h2 : beginN a = 832
  · exact .inl h2
  · refine .inr ?_
    by_cases h3 : 41 < a % 52
    · have e : beginN a = (a / 52 + 1) * 52 := if_pos h3
      rw [e] at h2 ⊢
      rw [leftN, if_neg h2]
      omega
    · have e : beginN a = a := if_neg h3
      rw [e] at h2 ⊢
      rw [leftN, if_neg h2]
      omega
theorem left_more (a p c : Nat) (ha : a ≤ 832) (hp : p = a + c) (hc : c ≤ leftN a) : c < leftN a ↔ (p < 832 ∧ (c = 0 ∨ p % 208 ≠ 0)) := by
  by_cases h : a = 832
  · have e : leftN a = 0 := if_pos h
    rw [e] at hc ⊢
    omega
  · have e : leftN a = 208 - a % 208 := if_neg h
    rw [e] at hc ⊢
    omega
theorem left_le (a : Nat) (ha : a ≤ 832) : a + leftN a ≤ 832 := by unfold leftN; split <;> omega
set_option maxRecDepth 8000 in
set_option maxHeartbeats 800000 in
theorem rwhere_any (n : Int) (h : I63 n) (w : World) : Calls Tryz.prog 60 #[.int .i64 n] w fun e w' => e = .returned (.tuple #[.int .i64 ((nr n / 52 : Nat) : Int), .int .i64 ((nr n % 52 : Nat) : Int)]) ∧ w' = w := by
  have hle := nr_le n
  have HN : Hid (∀ w, Calls Tryz.prog 59 #[.int .i64 n] w fun e w' => e = .returned (.int .i64 (nr n : Int)) ∧ w' = w) := fun w => near_any n h w
  generalize nr n = a at *
  go_enter Tryz.func60, Tryz.ntmps60
  go_wp2
  go_loop [4, 5, 6] (fun sv ov iv => ∃ i s o : Nat, iv = .int .i64 i ∧ sv = .int .i64 s ∧ ov = .int .i64 o ∧ i ≤ a ∧ Hid (s = i / 52 ∧ o = i % 52)) (fun _ _ iv => a - (intOf iv).toNat)
  case atStart => exact ⟨0, 0, 0, rfl, rfl, rfl, by omega, rfl, rfl⟩
  case round =>
    obtain ⟨i, s, o, rfl, rfl, rfl, hi, HSO⟩ := hrel
    by_cases hlt : (i : Int) < (a : Int)
    · have ho2 : (o : Int) ≤ 51 := by have := HSO.out; omega
      have hs2 : (s : Int) ≤ 20 := by have := HSO.out; omega
      by_cases h52 : (o : Int) + 1 = 52
      · go_wp2_with (first
          | (go_at_call 59; (with_reducible refine (HN.out _).mono ?_); rintro e w' ⟨rfl, rfl⟩))
        go_round
        case rel => exact ⟨i + 1, s + 1, 0, by go_num, by go_num, rfl, by omega, by have := HSO.out; exact ⟨by omega, by omega⟩⟩
        case measure => simp [intOf]; omega
      · go_wp2_with (first
          | (go_at_call 59; (with_reducible refine (HN.out _).mono ?_); rintro e w' ⟨rfl, rfl⟩))
        go_round
        case rel => exact ⟨i + 1, s, o + 1, by go_num, rfl, by go_num, by omega, by have := HSO.out; exact ⟨by omega, by omega⟩⟩
        case measure => simp [intOf]; omega
    · obtain rfl : i = a := by omega
      go_wp2_with (first
        | (go_at_call 59; (with_reducible refine (HN.out _).mono ?_); rintro e w' ⟨rfl, rfl⟩))
      go_ret2
      obtain ⟨hs, ho⟩ := HSO.out
      subst hs ho
      exact ⟨rfl, rfl⟩
set_option maxRecDepth 8000 in
set_option maxHeartbeats 800000 in
theorem rleft_any (n : Int) (h : I63 n) (w : World) : Calls Tryz.prog 58 #[.int .i64 n] w fun e w' => e = .returned (.int .i64 (leftN (nr n) : Int)) ∧ w' = w := by
  have hle := nr_le n
  have HN : Hid (∀ w, Calls Tryz.prog 59 #[.int .i64 n] w fun e w' => e = .returned (.int .i64 (nr n : Int)) ∧ w' = w) := fun w => near_any n h w
  generalize nr n = a at *
  go_enter Tryz.func58, Tryz.ntmps58
  go_wp2_with (first
    | (go_at_call 59; (with_reducible refine (HN.out _).mono ?_); rintro e w' ⟨rfl, rfl⟩))
  go_loop [0, 3] (fun av nv => ∃ p c : Nat, av = .int .i64 p ∧ nv = .int .i64 c ∧ p = a + c ∧ c ≤ leftN a) (fun av _ => 832 - (intOf av).toNat)
  case atStart => exact ⟨a, 0, rfl, rfl, by omega, by omega⟩
  case round =>
    obtain ⟨p, c, rfl, rfl, hp, hc⟩ := hrel
    have hl := left_le a hle
    have hm : (p : Int).tmod 208 = ((p % 208 : Nat) : Int) := by rw [Int.tmod_eq_emod_of_nonneg (by omega)]; omega
    have HL := Lib.hid (left_more a p c hle hp hc)
    obtain ⟨r, hr⟩ : ∃ r, p % 208 = r := ⟨_, rfl⟩
    rw [hr] at hm
    have HR := Lib.hid hr
    have HP := Lib.hid hp
    clear hr hp
    by_cases hlt : c < leftN a
    · obtain ⟨h1, h2⟩ := HL.out.1 hlt
      have h1' : (p : Int) < 832 := by omega
      rcases (by have := HR.out; omega : (c : Int) = 0 ∨ (¬ (c : Int) = 0 ∧ ¬ (r : Int) = 0)) with h0 | ⟨h0, hr0⟩
      · go_wp2
        go_round
        case rel => exact ⟨p + 1, c + 1, by go_num, by go_num, by have := HP.out; omega, by omega⟩
        case measure => simp [intOf]; omega
      · have hr1 : ((r : Int) != 0) = true := by simpa using hr0
        go_wp2
        go_round
        case rel => exact ⟨p + 1, c + 1, by go_num, by go_num, by have := HP.out; omega, by omega⟩
        case measure => simp [intOf]; omega
    · have hx := fun h => hlt (HL.out.2 h)
      have HC := Lib.hid (show (c : Int) = (leftN a : Int) from by omega)
      by_cases h8 : (p : Int) < 832
      · have h0 : ¬ (c : Int) = 0 := fun h => hx ⟨by omega, .inl (by omega)⟩
        have hr0 : (r : Int) = 0 := by
          by_cases h : r = 0
          · omega
          · exact absurd ⟨by omega, .inr (by rw [HR.out]; exact h)⟩ hx
        go_wp2
        go_ret
        exact ⟨ret_int HC.out, rfl⟩
      · go_wp2
        go_ret
        exact ⟨ret_int HC.out, rfl⟩
set_option maxRecDepth 8000 in
set_option maxHeartbeats 800000 in
theorem rbegin_any (n : Int) (h : I63 n) (w : World) : Calls Tryz.prog 33 #[.int .i64 n] w fun e w' => e = .returned (.int .i64 (beginN (nr n) : Int)) ∧ w' = w := by
  have hle := nr_le n
  have HN : Hid (∀ w, Calls Tryz.prog 59 #[.int .i64 n] w fun e w' => e = .returned (.int .i64 (nr n : Int)) ∧ w' = w) := fun w => near_any n h w
  have HW : Hid (∀ w, Calls Tryz.prog 60 #[.int .i64 (nr n : Int)] w fun e w' => e = .returned (.tuple #[.int .i64 ((nr n / 52 : Nat) : Int), .int .i64 ((nr n % 52 : Nat) : Int)]) ∧ w' = w) := fun w => by
    have := rwhere_any (nr n) (by unfold I63; omega) w
    rwa [nr_nat _ hle] at this
  generalize nr n = a at *
  obtain ⟨s, hs⟩ : ∃ s, a / 52 = s := ⟨_, rfl⟩
  obtain ⟨o, ho⟩ : ∃ o, a % 52 = o := ⟨_, rfl⟩
  rw [hs, ho] at HW
  have HS := Lib.hid hs
  have HO := Lib.hid ho
  clear hs ho
  go_enter Tryz.func33, Tryz.ntmps33
  go_wp2_with (first
    | (go_at_call 59; (with_reducible refine (HN.out _).mono ?_); rintro e w' ⟨rfl, rfl⟩)
    | (go_at_call 60; (with_reducible refine (HW.out _).mono ?_); rintro e w' ⟨rfl, rfl⟩))
  go_loop [0, 4] (fun av ov => ∃ p q : Nat, av = .int .i64 p ∧ ov = .int .i64 q ∧ p ≤ 832 ∧ q ≤ 52 ∧ Hid ((p = a ∧ q = o) ∨ (41 < o ∧ p = a + (q - o) ∧ o ≤ q ∧ p ≤ beginN a))) (fun av _ => 832 - (intOf av).toNat)
  case atStart => exact ⟨a, o, rfl, rfl, by omega, by have := HO.out; omega, .inl ⟨rfl, rfl⟩⟩
  case round =>
    obtain ⟨p, q, rfl, rfl, hp, hq, HR⟩ := hrel
    have HBE : Hid ((41 < o → beginN a = (s + 1) * 52) ∧ (¬ 41 < o → beginN a = a) ∧ a = s * 52 + o ∧ o < 52) := by
      have h1 := HS.out
      have h2 := HO.out
      refine ⟨fun h => ?_, fun h => ?_, by omega, by omega⟩
      · unfold beginN; rw [if_pos (by omega), h1]
      · unfold beginN; rw [if_neg (by omega)]
    by_cases h41 : 41 < (q : Int)
    · by_cases h52 : (q : Int) < 52
      · have h8 : (p : Int) < 832 := by
          obtain ⟨e1, e2, e3, e4⟩ := HBE.out
          have := begin_le a hle
          rcases HR.out with ⟨rfl, rfl⟩ | ⟨g1, g2, g3, g4⟩
          · have := e1 (by omega); omega
          · have := e1 g1; omega
        go_wp2
        go_round
        case rel =>
          refine ⟨p + 1, q + 1, by go_num, by go_num, by omega, by omega, .inr ?_⟩
          obtain ⟨e1, e2, e3, e4⟩ := HBE.out
          rcases HR.out with ⟨rfl, rfl⟩ | ⟨g1, g2, g3, g4⟩
          · have := e1 (by omega); omega
          · have := e1 g1; omega
        case measure => simp [intOf]; omega
      · have HD := Lib.hid (show (p : Int) = (beginN a : Int) from by
          obtain ⟨e1, e2, e3, e4⟩ := HBE.out
          rcases HR.out with ⟨rfl, rfl⟩ | ⟨g1, g2, g3, g4⟩
          · omega
          · have := e1 g1; omega)
        by_cases h8 : (p : Int) < 832
        · go_wp2
          go_ret
          exact ⟨ret_int HD.out, rfl⟩
        · go_wp2
          go_ret
          exact ⟨ret_int HD.out, rfl⟩
    · have HD := Lib.hid (show (p : Int) = (beginN a : Int) from by
        obtain ⟨e1, e2, e3, e4⟩ := HBE.out
        rcases HR.out with ⟨rfl, rfl⟩ | ⟨g1, g2, g3, g4⟩
        · have := e2 (by omega); omega
        · omega)
      by_cases h8 : (p : Int) < 832
      · go_wp2
        go_ret
        exact ⟨ret_int HD.out, rfl⟩
      · go_wp2
        go_ret
        exact ⟨ret_int HD.out, rfl⟩
end Go.Proofs.YtnmplnemnfonfaaGreatDoor
namespace Go.Proofs.YtnmplnemnfonfaaGreatDoor
open Go.RowKit
def atN (s o : Int) : Nat := min ((min (max s 0) 16).toNat * 52 + (min (max o 0) 52).toNat) 832
set_option maxRecDepth 8000 in
theorem at_any (s o : Int) (h : I63 s) (h2 : I63 o) (w : World) : Calls Tryz.prog 90 #[.agg #[.int .i64 s, .int .i64 o]] w fun e w' => e = .returned (.int .i64 (atN s o : Int)) ∧ Below w.heap.size w w' := by
  obtain ⟨x, hx⟩ : ∃ x, min (max s 0) 16 = x := ⟨_, rfl⟩
  obtain ⟨y, hy⟩ : ∃ y, min (max o 0) 52 = y := ⟨_, rfl⟩
  have hx0 : 0 ≤ x := by omega
  have hx1 : x ≤ 16 := by omega
  have hy0 : 0 ≤ y := by omega
  have hy1 : y ≤ 52 := by omega
  have H1 : Hid (∀ w, Calls Tryz.prog 110 #[.int .i64 s, .int .i64 16] w fun e w' => e = .returned (.int .i64 x) ∧ w' = w) := fun w => hx ▸ nearer_any s 16 h (by omega) w
  have H2 : Hid (∀ w, Calls Tryz.prog 110 #[.int .i64 o, .int .i64 52] w fun e w' => e = .returned (.int .i64 y) ∧ w' = w) := fun w => hy ▸ nearer_any o 52 h2 (by omega) w
  have hwr : IntKind.i64.wrap (IntKind.i64.wrap (52 * x) + y) = 52 * x + y := by rw [wrap_id (52 * x) (by omega), wrap_id (52 * x + y) (by omega)]
  have H3 : Hid (∀ w, Calls Tryz.prog 99 #[.int .i64 (52 * x + y)] w fun e w' => e = .returned (.int .i64 (atN s o : Int)) ∧ w' = w) := fun w =>
    (place_any (52 * x + y) (by unfold I63; omega) w).mono fun e w' ⟨he, hw⟩ => ⟨by rw [he]; unfold nr atN; rw [hx, hy]; congr 2; omega, hw⟩
  generalize atN s o = at' at *
  clear hx hy
  unfold I63 at h h2
  go_enter Tryz.func90, Tryz.ntmps90
  go_wp2
  refine wp_region_held_drew (S := (fun w' => w' = (w.alloc (.cells #[.int .i64 s, .int .i64 o] 148)).drew)) (by kernel_rfl) rfl (fun hS => ?_)
  refine rgw 0 ⟨some 3, .fieldAddr 148 (.tmp 1) 0, 0, _, _, none⟩ hS ?_
  refine rgw 1 ⟨some 4, .load 3 (.tmp 3), 3, _, _, none⟩ hS ?_
  refine rgw 4 ⟨some 7, .fieldAddr 148 (.tmp 1) 1, 0, _, _, none⟩ hS ?_
  refine rgw 5 ⟨some 8, .load 3 (.tmp 7), 3, _, _, none⟩ hS ?_
  refine rg_one 2 ⟨some 5, .call { callee := .value (.func 110), args := #[.tmp 4, .const (.int .i64 16)], argTypes := #[3, 3] }, 3, _, _, none⟩ (by kernel_rfl) rfl (fun K hK => ?_)
  go_simp
  (go_at_call 110; (with_reducible refine (H1.out _).mono ?_); rintro e w2 ⟨rfl, rfl⟩)
  refine hK.out _ _ ?_ (fun hS1 => ?_)
  · (exact hS)
  clear hK K hS; have hS := hS1; clear hS1
  (try simp only [rgp])
  refine rgw 3 ⟨some 6, .binOp .mul 3 (.const (.int .i64 52)) (.tmp 5) 3, 3, _, _, none⟩ hS ?_
  refine rg_one 6 ⟨some 9, .call { callee := .value (.func 110), args := #[.tmp 8, .const (.int .i64 52)], argTypes := #[3, 3] }, 3, _, _, none⟩ (by kernel_rfl) rfl (fun K hK => ?_)
  go_simp
  (go_at_call 110; (with_reducible refine (H2.out _).mono ?_); rintro e w2 ⟨rfl, rfl⟩)
  refine hK.out _ _ ?_ (fun hS1 => ?_)
  · (exact hS)
  clear hK K hS; have hS := hS1; clear hS1
  (try simp only [rgp])
  refine rgw 7 ⟨some 10, .binOp .add 3 (.tmp 6) (.tmp 9) 3, 3, _, _, none⟩ hS ?_
  refine rg_one 8 ⟨some 11, .call { callee := .value (.func 99), args := #[.tmp 10], argTypes := #[3] }, 3, _, _, none⟩ (by kernel_rfl) rfl (fun K hK => ?_)
  go_simp
  (go_at_call 99; (with_reducible refine (H3.out _).mono ?_); rintro e w2 ⟨rfl, rfl⟩)
  refine hK.out _ _ ?_ (fun hS1 => ?_)
  · (exact hS)
  clear hK K hS; have hS := hS1; clear hS1
  (try simp only [rgp])
  refine rgw 9 ⟨some 2, .assign (.tmp 11), 3, _, _, none⟩ hS ?_
  refine wpAnyH_done (by kernel_rfl) ?_ _
  go_wp2
  go_ret
  exact ⟨rfl, ((Below.refl _ _).alloc (Nat.le_refl _) _).drew⟩
theorem at_nat (s o a : Nat) (hs : s ≤ 16) (ho : o ≤ 51) (ha : s * 52 + o = a) (ha2 : a ≤ 832) (w : World) : Calls Tryz.prog 90 #[.agg #[.int .i64 s, .int .i64 o]] w fun e w' => e = .returned (.int .i64 (a : Int)) ∧ Below w.heap.size w w' :=
  (at_any s o (by unfold I63; omega) (by unfold I63; omega) w).mono fun e w' ⟨he, hw⟩ => ⟨by rw [he]; unfold atN; congr 2; omega, hw⟩
set_option maxRecDepth 8000 in
theorem left_any (n : Int) (h : I63 n) (w : World) : Calls Tryz.prog 88 #[.int .i64 n] w fun e w' => e = .returned (.int .i64 (leftN (nr n) : Int)) ∧ Below w.heap.size w w' := by
  have hle := nr_le n
  have HW : Hid (∀ w, Calls Tryz.prog 77 #[.int .i64 n] w fun e w' => e = .returned (.agg #[.int .i64 ((nr n / 52 : Nat) : Int), .int .i64 ((nr n % 52 : Nat) : Int)]) ∧ Below w.heap.size w w') := fun w => where_any n h w
  generalize nr n = a at *
  have HA : Hid (∀ w, Calls Tryz.prog 90 #[.agg #[.int .i64 ((a / 52 : Nat) : Int), .int .i64 ((a % 52 : Nat) : Int)]] w fun e w' => e = .returned (.int .i64 (a : Int)) ∧ Below w.heap.size w w') := fun w =>
    at_nat (a / 52) (a % 52) a (by omega) (by omega) (by omega) hle w
  have hm : (a : Int).tmod 208 = ((a % 208 : Nat) : Int) := by rw [Int.tmod_eq_emod_of_nonneg (by omega)]; omega
  have hmd := Nat.div_add_mod a 52
  obtain ⟨q, hq2⟩ : ∃ q, a / 52 = q := ⟨_, rfl⟩
  obtain ⟨r, hr2⟩ : ∃ r, a % 52 = r := ⟨_, rfl⟩
  obtain ⟨k, hk2⟩ : ∃ k, a % 208 = k := ⟨_, rfl⟩
  have hr3 : r < 52 := by omega
  have hk3 : (k : Int) < 208 := by omega
  rw [hq2, hr2] at HW HA hmd
  rw [hk2] at hm
  have HL := Lib.hid (show leftN a = if a = 832 then 0 else 208 - k by unfold leftN; rw [hk2])
  generalize leftN a = la at *
  have HM := Lib.hid hmd
  have HR := Lib.hid hr3
  clear hq2 hr2 hk2 hmd hr3
  by_cases h8 : a = 832
  · have hq : (q : Int) = 16 := by have := HM.out; have := HR.out; omega
    have hr : (r : Int) = 0 := by have := HM.out; have := HR.out; omega
    go_enter Tryz.func88, Tryz.ntmps88
    go_wp2_with (first
      | (go_at_call 77; (with_reducible refine (HW.out _).mono ?_); rintro e w1 ⟨rfl, hb⟩; have HB1 := Lib.hid hb; clear hb))
    go_ret
    exact ⟨ret_int (by rw [HL.out, if_pos h8]; rfl), HB1.out.alloc HB1.out.size _⟩
  · have hne : ¬ (q : Int) = 16 := by have := HM.out; have := HR.out; omega
    go_enter Tryz.func88, Tryz.ntmps88
    go_wp2_with (first
      | (go_at_call 77; (with_reducible refine (HW.out _).mono ?_); rintro e w1 ⟨rfl, hb⟩; have HB1 := Lib.hid hb; clear hb)
      | (go_at_call 90; (with_reducible refine (HA.out _).mono ?_); rintro e w2 ⟨rfl, hb⟩; have HB2 := Lib.hid (bchain (HB1.out.alloc HB1.out.size _) hb); clear hb))
    go_ret
    exact ⟨ret_int (by rw [HL.out, if_neg h8]; omega), HB2.out⟩
set_option maxRecDepth 8000 in
theorem begin_any (n : Int) (h : I63 n) (w : World) : Calls Tryz.prog 67 #[.int .i64 n] w fun e w' => e = .returned (.int .i64 (beginN (nr n) : Int)) ∧ Below w.heap.size w w' := by
  have hle := nr_le n
  have HW : Hid (∀ w, Calls Tryz.prog 77 #[.int .i64 n] w fun e w' => e = .returned (.agg #[.int .i64 ((nr n / 52 : Nat) : Int), .int .i64 ((nr n % 52 : Nat) : Int)]) ∧ Below w.heap.size w w') := fun w => where_any n h w
  generalize nr n = a at *
  have hb := begin_le a hle
  have hmd := Nat.div_add_mod a 52
  obtain ⟨q, hq2⟩ : ∃ q, a / 52 = q := ⟨_, rfl⟩
  obtain ⟨r, hr2⟩ : ∃ r, a % 52 = r := ⟨_, rfl⟩
  have hr3 : r < 52 := by omega
  rw [hq2, hr2] at HW
  rw [hq2, hr2] at hmd
  have hbg : beginN a = if 41 < r then (q + 1) * 52 else a := by unfold beginN; rw [hq2, hr2]
  generalize beginN a = be at *
  clear hq2 hr2
  have hr4 : (r : Int) ≤ 51 := by omega
  have hq4 : (q : Int) ≤ 16 := by omega
  by_cases h4 : 41 < r
  · rw [if_pos h4] at hbg
    have HA : Hid (∀ w, Calls Tryz.prog 90 #[.agg #[.int .i64 ((q : Int) + 1), .int .i64 0]] w fun e w' => e = .returned (.int .i64 (be : Int)) ∧ Below w.heap.size w w') := fun w =>
      at_nat (q + 1) 0 be (by omega) (by omega) (by omega) (by omega) w
    clear hmd hb hbg
    go_enter Tryz.func67, Tryz.ntmps67
    go_wp2_with (first
      | (go_at_call 77; (with_reducible refine (HW.out _).mono ?_); rintro e w1 ⟨rfl, hb⟩; have HB1 := Lib.hid hb; clear hb)
      | (go_at_call 90; (with_reducible refine (HA.out _).mono ?_); rintro e w2 ⟨rfl, hb⟩; have HB2 := Lib.hid (bchain (HB1.out.alloc HB1.out.size _) hb); clear hb))
    go_ret
    exact ⟨rfl, HB2.out⟩
  · rw [if_neg h4] at hbg
    subst hbg
    have HA : Hid (∀ w, Calls Tryz.prog 90 #[.agg #[.int .i64 (q : Int), .int .i64 (r : Int)]] w fun e w' => e = .returned (.int .i64 (be : Int)) ∧ Below w.heap.size w w') := fun w =>
      at_nat q r be (by omega) (by omega) (by omega) (by omega) w
    clear hmd hb
    go_enter Tryz.func67, Tryz.ntmps67
    go_wp2_with (first
      | (go_at_call 77; (with_reducible refine (HW.out _).mono ?_); rintro e w1 ⟨rfl, hb⟩; have HB1 := Lib.hid hb; clear hb)
      | (go_at_call 90; (with_reducible refine (HA.out _).mono ?_); rintro e w2 ⟨rfl, hb⟩; have HB2 := Lib.hid (bchain (HB1.out.alloc HB1.out.size _) hb); clear hb))
    go_ret
    exact ⟨rfl, HB2.out⟩
end Go.Proofs.YtnmplnemnfonfaaGreatDoor
