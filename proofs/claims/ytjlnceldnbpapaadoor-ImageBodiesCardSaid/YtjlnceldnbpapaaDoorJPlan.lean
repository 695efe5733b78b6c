/-
  TEXTS JOINED: SpanTouch, PlanMath, PlanPart, PlanWrite. Each one's own words stand at its head.
-/
import Derived.Test.YtjlnceldnbpapaaDoorJSpan
import Derived.Test.YtjlnceldnbpapaaDoorJStamp
import Derived.Test.YtjlnceldnbpapaaDoorSecs
import Derived.Test.YtjlnceldnbpapaaDoorBelow
import Derived.Test.YtjlnceldnbpapaaDoorCut
import Derived.Test.YtjlnceldnbpapaaDoorPlanRow
/-
  LAYER 7 (span), Touch: which sectors places lie in: what the reference's and the program's answer. No condition.
-/
namespace Go.Proofs.YtjlnceldnbpapaaDoor
open Go.RowKit
/-- which sectors places lie in -/
def touchN (a b : Nat) : Nat × Nat := if a < b then (a / 52, (b - 1) / 52 + 1) else (0, 0)
set_option maxRecDepth 8000 in
set_option maxHeartbeats 800000 in
theorem rtouch_any (n m : Int) (h : I63 n) (h2 : I63 m) (w : World) : Calls Tryd.prog 30 #[.int .i64 n, .int .i64 m] w fun e w' => e = .returned (.tuple #[.int .i64 ((touchN (nr n) (nr m)).1 : Int), .int .i64 ((touchN (nr n) (nr m)).2 : Int)]) ∧ w' = w := by
  have hle := nr_le n
  have hle2 := nr_le m
  have HN : Hid (∀ w, Calls Tryd.prog 27 #[.int .i64 n] w fun e w' => e = .returned (.int .i64 (nr n : Int)) ∧ w' = w) := fun w => near_any n h w
  have HM : Hid (∀ w, Calls Tryd.prog 27 #[.int .i64 m] w fun e w' => e = .returned (.int .i64 (nr m : Int)) ∧ w' = w) := fun w => near_any m h2 w
  generalize nr n = a at *
  generalize nr m = b at *
  go_enter Tryd.func30, Tryd.ntmps30
  go_wp2_with (first
    | (go_at_call 27; (with_reducible refine (HN.out _).mono ?_); rintro e w' ⟨rfl, rfl⟩))
  go_loop [6, 7, 8] (fun fv lv iv => ∃ (i : Nat) (f l : Int), iv = .int .i64 i ∧ fv = .int .i64 f ∧ lv = .int .i64 l ∧ i ≤ 832 ∧ -1 ≤ f ∧ f ≤ 16 ∧ -1 ≤ l ∧ l ≤ 16 ∧ Hid ((i = a ∧ f = -1 ∧ l = -1) ∨ (a < i ∧ i ≤ b ∧ f = ((a / 52 : Nat) : Int) ∧ l = (((i - 1) / 52 : Nat) : Int)))) (fun _ _ iv => 832 - (intOf iv).toNat)
  case atStart => exact ⟨a, -1, -1, rfl, rfl, rfl, by omega, by omega, by omega, by omega, by omega, .inl ⟨rfl, rfl, rfl⟩⟩
  case round =>
    obtain ⟨i, f, l, rfl, rfl, rfl, hi, hf1, hf2, hl1, hl2, HR⟩ := hrel
    have hd : (i : Int).tdiv 52 = ((i / 52 : Nat) : Int) := by rw [Int.tdiv_eq_ediv_of_nonneg (by omega)]; omega
    obtain ⟨q, hq⟩ : ∃ q, i / 52 = q := ⟨_, rfl⟩
    rw [hq] at hd
    have hwq : wrap64 (q : Int) = (q : Int) := by unfold wrap64; omega
    have HQ := Lib.hid hq
    have HWQ := Lib.hid (congrArg (Value.int IntKind.i64) hwq)
    clear hq hwq
    by_cases hlt : (i : Int) < (b : Int)
    · by_cases hf : f < 0
      · go_wp2_with (first
          | (go_at_call 27; (with_reducible refine (HM.out _).mono ?_); rintro e w' ⟨rfl, rfl⟩))
        go_round
        case rel =>
          refine ⟨i + 1, q, q, by go_num, HWQ.out, HWQ.out, by omega, by omega, by have := HQ.out; omega, by omega, by have := HQ.out; omega, .inr ?_⟩
          have := HQ.out
          rcases HR.out with ⟨rfl, _, _⟩ | ⟨g1, g2, g3, g4⟩ <;> omega
        case measure => simp [intOf]; omega
      · go_wp2_with (first
          | (go_at_call 27; (with_reducible refine (HM.out _).mono ?_); rintro e w' ⟨rfl, rfl⟩))
        go_round
        case rel =>
          refine ⟨i + 1, f, q, by go_num, rfl, HWQ.out, by omega, by omega, by omega, by omega, by have := HQ.out; omega, .inr ?_⟩
          have := HQ.out
          rcases HR.out with ⟨rfl, _, _⟩ | ⟨g1, g2, g3, g4⟩ <;> omega
        case measure => simp [intOf]; omega
    · by_cases hf : f < 0
      · have HT := Lib.hid (show touchN a b = (0, 0) from if_neg (by rcases HR.out with ⟨rfl, _, _⟩ | ⟨g1, g2, g3, g4⟩ <;> omega))
        go_wp2_with (first
          | (go_at_call 27; (with_reducible refine (HM.out _).mono ?_); rintro e w' ⟨rfl, rfl⟩))
        go_ret2
        exact ⟨by rw [HT.out]; rfl, rfl⟩
      · have HT := Lib.hid (show ((touchN a b).1 : Int) = f ∧ ((touchN a b).2 : Int) = l + 1 from by
          rcases HR.out with ⟨rfl, g2, _⟩ | ⟨g1, g2, g3, g4⟩
          · omega
          · rw [show touchN a b = (a / 52, (b - 1) / 52 + 1) from if_pos (by omega)]
            exact ⟨by omega, by omega⟩)
        go_wp2_with (first
          | (go_at_call 27; (with_reducible refine (HM.out _).mono ?_); rintro e w' ⟨rfl, rfl⟩))
        go_ret2
        exact ⟨by rw [HT.out.1, HT.out.2]; rfl, rfl⟩
set_option maxRecDepth 8000 in
theorem touch_any (n m : Int) (h : I63 n) (h2 : I63 m) (w : World) : Calls Tryd.prog 43 #[.int .i64 n, .int .i64 m] w fun e w' => e = .returned (.tuple #[.int .i64 ((touchN (nr n) (nr m)).1 : Int), .int .i64 ((touchN (nr n) (nr m)).2 : Int)]) ∧ Below w.heap.size w w' := by
  have hln := nr_le n
  have hlm := nr_le m
  have HN : Hid (∀ w, Calls Tryd.prog 59 #[.int .i64 n] w fun e w' => e = .returned (.int .i64 (nr n : Int)) ∧ w' = w) := fun w => place_any n h w
  have HM : Hid (∀ w, Calls Tryd.prog 59 #[.int .i64 m] w fun e w' => e = .returned (.int .i64 (nr m : Int)) ∧ w' = w) := fun w => place_any m h2 w
  generalize nr n = a at *
  generalize nr m = b at *
  by_cases hlt : (a : Int) < (b : Int)
  · have ht : touchN a b = (a / 52, (b - 1) / 52 + 1) := by unfold touchN; rw [if_pos (by omega)]
    rw [ht]
    have H1 : Hid (∀ w, Calls Tryd.prog 51 #[.int .i64 (a : Int)] w fun e w' => e = .returned (.agg #[.int .i64 ((a / 52 : Nat) : Int), .int .i64 ((a % 52 : Nat) : Int)]) ∧ Below w.heap.size w w') := fun w => by
      have := where_any a (by unfold I63; omega) w; rwa [nr_nat _ hln] at this
    have H2 : Hid (∀ w, Calls Tryd.prog 51 #[.int .i64 ((b : Int) - 1)] w fun e w' => e = .returned (.agg #[.int .i64 (((b - 1) / 52 : Nat) : Int), .int .i64 (((b - 1) % 52 : Nat) : Int)]) ∧ Below w.heap.size w w') := fun w => by
      have := where_any ((b - 1 : Nat) : Int) (by unfold I63; omega) w; rwa [nr_nat _ (by omega), show ((b - 1 : Nat) : Int) = (b : Int) - 1 from by omega] at this
    have hq : (((b - 1) / 52 : Nat) : Int) ≤ 16 := by omega
    generalize (b - 1) / 52 = q at *
    generalize (b - 1) % 52 = r at *
    generalize a / 52 = q2 at *
    generalize a % 52 = r2 at *
    clear ht
    go_enter Tryd.func43, Tryd.ntmps43
    have hf1 : ∀ w, (Instr.field 92 (.agg #[.int .i64 q2, .int .i64 r2]) 0).run Tryd.prog w = .ok (.int .i64 q2) w := fun _ => by kernel_rfl
    have hf2 : ∀ w, (Instr.field 92 (.agg #[.int .i64 q, .int .i64 r]) 0).run Tryd.prog w = .ok (.int .i64 q) w := fun _ => by kernel_rfl
    go_wp2_with (first
      | (go_at_call 59; (with_reducible refine (HN.out _).mono ?_); rintro e w' ⟨rfl, rfl⟩)
      | (go_at_call 59; (with_reducible refine (HM.out _).mono ?_); rintro e w' ⟨rfl, rfl⟩)
      | (go_at_call 51; (with_reducible refine (H1.out _).mono ?_); rintro e w1 ⟨rfl, hb⟩; have HB1 := Lib.hid hb; clear hb)
      | (go_at_call 51; (with_reducible refine (H2.out _).mono ?_); rintro e w2 ⟨rfl, hb⟩; have HB2 := Lib.hid (bchain HB1.out hb); clear hb))
    go_ret2
    exact ⟨rfl, HB2.out⟩
  · have ht : touchN a b = (0, 0) := by unfold touchN; rw [if_neg (by omega)]
    rw [ht]
    clear ht
    go_enter Tryd.func43, Tryd.ntmps43
    go_wp2_with (first
      | (go_at_call 59; (with_reducible refine (HN.out _).mono ?_); rintro e w' ⟨rfl, rfl⟩)
      | (go_at_call 59; (with_reducible refine (HM.out _).mono ?_); rintro e w' ⟨rfl, rfl⟩))
    go_ret2
    exact ⟨rfl, Below.refl _ _⟩
end Go.Proofs.YtjlnceldnbpapaaDoor
/-
  LAYER 16 (plan): what a body's sectors are, and what sectors' body is (plain mathematics). No condition.
-/
namespace Go.Proofs.YtjlnceldnbpapaaDoor
open Go.RowKit
/-- the i-th sector of a list that is told by its bytes -/
def secOf (fs : List Int) (i : Nat) : List Int := (fs.drop (i * 64)).take 64
theorem secOf_length (fs : List Int) (n i : Nat) (h : fs.length = n * 64) (hi : i < n) : (secOf fs i).length = 64 := by unfold secOf; simp; omega
/-- is it stamped? -/
def okAt (x : Int) (n : Nat) (fs : List Int) (i : Nat) : Bool := decide (i < n) && decide (sealed x i ((secOf fs i).drop 12) = secOf fs i)
/-- its room, zeros if it isn't stamped -/
def roomAt (x : Int) (n : Nat) (fs : List Int) (i : Nat) : List Int := if okAt x n fs i = true then (secOf fs i).drop 12 else List.replicate 52 0
def flatB (x : Int) (n : Nat) (fs : List Int) : Nat → List Int
  | 0 => []
  | k + 1 => flatB x n fs k ++ roomAt x n fs k
def flatK (x : Int) (n : Nat) (fs : List Int) : Nat → List Bool
  | 0 => []
  | k + 1 => flatK x n fs k ++ [okAt x n fs k]
theorem roomAt_length (x : Int) (n : Nat) (fs : List Int) (h : fs.length = n * 64) (i : Nat) : (roomAt x n fs i).length = 52 := by
  unfold roomAt
  split
  · rename_i h1
    simp only [okAt, Bool.and_eq_true, decide_eq_true_eq] at h1
    rw [List.length_drop, secOf_length fs n i h h1.1]
  · simp
theorem flatB_length (x : Int) (n : Nat) (fs : List Int) (h : fs.length = n * 64) : ∀ k, (flatB x n fs k).length = 52 * k
  | 0 => rfl
  | k + 1 => by rw [flatB, List.length_append, flatB_length x n fs h k, roomAt_length x n fs h]; omega
theorem flatK_length (x : Int) (n : Nat) (fs : List Int) : ∀ k, (flatK x n fs k).length = k
  | 0 => rfl
  | k + 1 => by rw [flatK, List.length_append, flatK_length x n fs k]; rfl
theorem okAt_behind (x : Int) (n : Nat) (fs : List Int) (i : Nat) (h : n ≤ i) : okAt x n fs i = false := by
  unfold okAt; rw [decide_eq_false (by omega)]; rfl
theorem okAt_in (x : Int) (n : Nat) (fs : List Int) (i : Nat) (h : i < n) : okAt x n fs i = decide (sealed x i ((secOf fs i).drop 12) = secOf fs i) := by
  unfold okAt; rw [decide_eq_true h]; rfl
theorem roomAt_false (x : Int) (n : Nat) (fs : List Int) (i : Nat) (h : okAt x n fs i = false) : roomAt x n fs i = List.replicate 52 0 := by
  unfold roomAt; rw [if_neg (by rw [h]; simp)]
theorem roomAt_true (x : Int) (n : Nat) (fs : List Int) (i : Nat) (h : okAt x n fs i = true) : roomAt x n fs i = (secOf fs i).drop 12 := by
  unfold roomAt; rw [if_pos h]
theorem flatB_behind (x : Int) (n : Nat) (fs : List Int) (k : Nat) (h : n ≤ k) : ∀ d, flatB x n fs (k + d) = flatB x n fs k ++ List.replicate (52 * d) 0
  | 0 => by simp
  | d + 1 => by
    rw [← Nat.add_assoc, flatB, flatB_behind x n fs k h d, roomAt_false _ _ _ _ (okAt_behind _ _ _ _ (by omega)), List.append_assoc, List.replicate_append_replicate, Nat.mul_add]
theorem flatK_behind (x : Int) (n : Nat) (fs : List Int) (k : Nat) (h : n ≤ k) : ∀ d, flatK x n fs (k + d) = flatK x n fs k ++ List.replicate d false
  | 0 => by simp
  | d + 1 => by
    rw [← Nat.add_assoc, flatK, flatK_behind x n fs k h d, okAt_behind _ _ _ _ (by omega), List.append_assoc, show [false] = List.replicate 1 false from rfl, List.replicate_append_replicate]
/-- the body's block behind k rounds -/
def bodyAt (x : Int) (n : Nat) (fs : List Int) (k : Nat) : List Int := flatB x n fs k ++ List.replicate (832 - 52 * k) 0
def oksAt (x : Int) (n : Nat) (fs : List Int) (k : Nat) : List Bool := flatK x n fs k ++ List.replicate (16 - k) false
theorem bodyAt_length (x : Int) (n : Nat) (fs : List Int) (h : fs.length = n * 64) (k : Nat) (hk : k ≤ 16) : (bodyAt x n fs k).length = 832 := by
  unfold bodyAt; rw [List.length_append, flatB_length x n fs h, List.length_replicate]; omega
theorem oksAt_length (x : Int) (n : Nat) (fs : List Int) (k : Nat) (hk : k ≤ 16) : (oksAt x n fs k).length = 16 := by
  unfold oksAt; rw [List.length_append, flatK_length, List.length_replicate]; omega
theorem bodyAt_zero (x : Int) (n : Nat) (fs : List Int) : bodyAt x n fs 0 = List.replicate 832 0 := rfl
theorem oksAt_zero (x : Int) (n : Nat) (fs : List Int) : oksAt x n fs 0 = List.replicate 16 false := rfl
theorem splice_mid {α : Type} (a b c : List α) (d : List α) (h : c.length = b.length) (k : Nat) (hk : a.length = k) : splice (a ++ (b ++ d)) k c = a ++ (c ++ d) := by
  subst hk
  unfold splice
  rw [List.take_left', List.drop_append, List.drop_eq_nil_of_le (by omega), List.nil_append]
  · congr 2
    rw [show a.length + c.length - a.length = b.length from by omega, List.drop_left']
    rfl
  · rfl
theorem splice_nil {α : Type} (l : List α) (k : Nat) : splice l k [] = l := by simp [splice]
theorem bodyAt_true (x : Int) (n : Nat) (fs : List Int) (h : fs.length = n * 64) (k : Nat) (hk : k < 16) (ho : okAt x n fs k = true) :
    splice (bodyAt x n fs k) (52 * k) ((secOf fs k).drop 12) = bodyAt x n fs (k + 1) := by
  have hr := roomAt_length x n fs h k
  rw [roomAt_true _ _ _ _ ho] at hr
  unfold bodyAt
  rw [show 832 - 52 * k = 52 + (832 - 52 * (k + 1)) from by omega, ← List.replicate_append_replicate,
    splice_mid _ (List.replicate 52 0) _ _ (by simpa using hr) _ (flatB_length x n fs h k), flatB, roomAt_true _ _ _ _ ho, List.append_assoc]
theorem bodyAt_false (x : Int) (n : Nat) (fs : List Int) (k : Nat) (hk : k < 16) (ho : okAt x n fs k = false) : bodyAt x n fs k = bodyAt x n fs (k + 1) := by
  unfold bodyAt
  rw [flatB, roomAt_false _ _ _ _ ho, List.append_assoc, List.replicate_append_replicate, show 52 + (832 - 52 * (k + 1)) = 832 - 52 * k from by omega]
theorem oksAt_next (x : Int) (n : Nat) (fs : List Int) (k : Nat) (hk : k < 16) : (oksAt x n fs k).set k (okAt x n fs k) = oksAt x n fs (k + 1) := by
  unfold oksAt
  rw [show 16 - k = 1 + (16 - (k + 1)) from by omega, ← List.replicate_append_replicate, List.set_append_right _ _ (by rw [flatK_length]; omega), flatK_length, Nat.sub_self, flatK, List.append_assoc]
  rfl
theorem bodyAt_end (x : Int) (n : Nat) (fs : List Int) : bodyAt x n fs (min n 16) = flatB x n fs 16 := by
  by_cases h : n ≤ 16
  · rw [Nat.min_eq_left h]
    have := flatB_behind x n fs n (Nat.le_refl _) (16 - n)
    rw [show n + (16 - n) = 16 from by omega] at this
    rw [this]; unfold bodyAt; rw [show 832 - 52 * n = 52 * (16 - n) from by omega]
  · rw [Nat.min_eq_right (by omega)]; unfold bodyAt; simp
theorem oksAt_end (x : Int) (n : Nat) (fs : List Int) : oksAt x n fs (min n 16) = flatK x n fs 16 := by
  by_cases h : n ≤ 16
  · rw [Nat.min_eq_left h]
    have := flatK_behind x n fs n (Nat.le_refl _) (16 - n)
    rw [show n + (16 - n) = 16 from by omega] at this
    rw [this]; rfl
  · rw [Nat.min_eq_right (by omega)]; unfold oksAt; simp
/-- the bytes of a body that its i-th sector has -/
def partB (body : List Int) (i : Nat) : List Int := (body.drop (52 * i)).take 52
/-- k sectors of a body, from the a-th on -/
def writeB (x : Int) (body : List Int) (a : Nat) : Nat → List Int
  | 0 => []
  | k + 1 => writeB x body a k ++ sealed x ((a + k : Nat) : Int) (partB body (a + k))
theorem writeB_length (x : Int) (body : List Int) (a : Nat) : ∀ k, (writeB x body a k).length = k * 64
  | 0 => rfl
  | k + 1 => by rw [writeB, List.length_append, writeB_length x body a k, sealed_length]; omega
/-- the row of d sectors behind k rounds -/
def rowAt (x : Int) (body : List Int) (a d k : Nat) : List Int := writeB x body a k ++ List.replicate ((d - k) * 64) 0
theorem rowAt_length (x : Int) (body : List Int) (a d k : Nat) (hk : k ≤ d) : (rowAt x body a d k).length = d * 64 := by
  unfold rowAt; rw [List.length_append, writeB_length, List.length_replicate, ← Nat.add_mul]; congr 1; omega
theorem rowAt_zero (x : Int) (body : List Int) (a d : Nat) : rowAt x body a d 0 = List.replicate (d * 64) 0 := by simp [rowAt, writeB]
theorem rowAt_end (x : Int) (body : List Int) (a d : Nat) : rowAt x body a d d = writeB x body a d := by simp [rowAt]
theorem rowAt_next (x : Int) (body : List Int) (a d k : Nat) (hk : k < d) :
    splice (rowAt x body a d k) (k * 64) (sealed x ((a + k : Nat) : Int) (partB body (a + k))) = rowAt x body a d (k + 1) := by
  unfold rowAt
  rw [show (d - k) * 64 = 64 + (d - (k + 1)) * 64 from by omega, ← List.replicate_append_replicate,
    splice_mid _ (List.replicate 64 0) _ _ (by rw [sealed_length]; simp) _ (writeB_length x body a k), writeB, List.append_assoc]
/-- all sectors of a segment, n of them written -/
def wholeK (x : Int) (body : List Int) (n : Nat) : Nat → List Int
  | 0 => []
  | k + 1 => wholeK x body n k ++ (if k < n then sealed x (k : Int) (partB body k) else z64)
theorem wholeK_length (x : Int) (body : List Int) (n : Nat) : ∀ k, (wholeK x body n k).length = k * 64
  | 0 => rfl
  | k + 1 => by
    rw [wholeK, List.length_append, wholeK_length x body n k]
    split
    · rw [sealed_length]; omega
    · rw [z64_length]; omega
theorem wholeK_in (x : Int) (body : List Int) (n : Nat) : ∀ k, k ≤ n → wholeK x body n k = writeB x body 0 k
  | 0, _ => rfl
  | k + 1, h => by rw [wholeK, wholeK_in x body n k (by omega), if_pos (by omega), writeB, Nat.zero_add]
theorem wholeK_behind (x : Int) (body : List Int) (n : Nat) : ∀ d, wholeK x body n (n + d) = writeB x body 0 n ++ List.replicate (d * 64) 0
  | 0 => by rw [Nat.add_zero, wholeK_in _ _ _ _ (Nat.le_refl _)]; simp
  | d + 1 => by
    rw [← Nat.add_assoc, wholeK, wholeK_behind x body n d, if_neg (by omega), List.append_assoc, z64, List.replicate_append_replicate, Nat.add_mul]
theorem whole_splice (x : Int) (body : List Int) (n : Nat) (h : n ≤ 16) : splice (List.replicate 1024 (0 : Int)) 0 (writeB x body 0 n) = wholeK x body n 16 := by
  have h1 := wholeK_behind x body n (16 - n)
  rw [show n + (16 - n) = 16 from by omega] at h1
  rw [h1]
  unfold splice
  rw [List.take_zero, List.nil_append, writeB_length, List.drop_replicate, show 1024 - (0 + n * 64) = (16 - n) * 64 from by omega]
/-- the i-th sector of a whole segment -/
theorem secOf_whole (x : Int) (body : List Int) (n i : Nat) : ∀ k, i < k → secOf (wholeK x body n k) i = if i < n then sealed x (i : Int) (partB body i) else z64
  | 0, h => absurd h (by omega)
  | k + 1, h => by
    have hl := wholeK_length x body n k
    by_cases hik : i < k
    · rw [← secOf_whole x body n i k hik]
      unfold secOf
      rw [wholeK, List.drop_append_of_le_length (by omega), List.take_append_of_le_length (by simp; omega)]
    · obtain rfl : i = k := by omega
      unfold secOf
      rw [wholeK, List.drop_left' hl]
      refine List.take_of_length_le ?_
      split
      · rw [sealed_length]; omega
      · rw [z64_length]; omega
theorem z64_sealed : z64 = sealed 0 0 [] := by decide
theorem okAt_whole (x : Int) (hx : U64 x) (h0 : x ≠ 0) (body : List Int) (n i : Nat) (hi : i < 16) : okAt x 16 (wholeK x body n 16) i = decide (i < n) := by
  rw [okAt_in _ _ _ _ hi, secOf_whole x body n i 16 hi]
  by_cases h : i < n
  · rw [if_pos h, sealed_own, decide_eq_true rfl, decide_eq_true h]
  · rw [if_neg h, z64_sealed, decide_eq_false h]
    refine decide_eq_false fun he => h0 ?_
    exact ((sealed_eq 0 x 0 i (by unfold U64; omega) hx []).1 he).1.symm
theorem flatB_get (x : Int) (n : Nat) (fs : List Int) (hl : fs.length = n * 64) (i r : Nat) (hr : r < 52) : ∀ k, i < k → (flatB x n fs k).getD (52 * i + r) 0 = (roomAt x n fs i).getD r 0
  | 0, h => absurd h (by omega)
  | k + 1, h => by
    have h1 := flatB_length x n fs hl k
    rw [flatB]
    by_cases hik : i < k
    · rw [getD_app_l _ _ _ (by omega), flatB_get x n fs hl i r hr k hik]
    · obtain rfl : i = k := by omega
      rw [getD_app_r _ _ _ (by omega), h1, Nat.add_sub_cancel_left]
theorem getB_app_l (a b : List Bool) (j : Nat) (h : j < a.length) : (a ++ b).getD j false = a.getD j false := by simp [List.getD, List.getElem?_append, h]
theorem getB_app_r (a b : List Bool) (j : Nat) (h : a.length ≤ j) : (a ++ b).getD j false = b.getD (j - a.length) false := by simp [List.getD, List.getElem?_append, Nat.not_lt.2 h]
theorem flatK_get (x : Int) (n : Nat) (fs : List Int) (i : Nat) : ∀ k, i < k → (flatK x n fs k).getD i false = okAt x n fs i
  | 0, h => absurd h (by omega)
  | k + 1, h => by
    have h1 := flatK_length x n fs k
    rw [flatK]
    by_cases hik : i < k
    · rw [getB_app_l _ _ _ (by omega), flatK_get x n fs i k hik]
    · obtain rfl : i = k := by omega
      rw [getB_app_r _ _ _ (by omega), h1]; simp
/-- the body of a whole segment -/
theorem back_get (x : Int) (hx : U64 x) (h0 : x ≠ 0) (body : List Int) (n j : Nat) (hj : j < 832) :
    (flatB x 16 (wholeK x body n 16) 16).getD j 0 = if j < 52 * n ∧ j < body.length then body.getD j 0 else 0 := by
  have hj2 : 52 * (j / 52) + j % 52 = j := by omega
  have h1 := flatB_get x 16 (wholeK x body n 16) (wholeK_length x body n 16) (j / 52) (j % 52) (by omega) 16 (by omega)
  rw [hj2] at h1
  rw [h1]
  have ho := okAt_whole x hx h0 body n (j / 52) (by omega)
  by_cases hn : j / 52 < n
  · rw [decide_eq_true hn] at ho
    rw [roomAt_true _ _ _ _ ho, secOf_whole x body n _ 16 (by omega), if_pos hn, sealed_room, room_get _ _ (by omega)]
    unfold partB
    have h2 : ((body.drop (52 * (j / 52))).take 52).getD (j % 52) 0 = body.getD j 0 := by
      simp only [List.getD, List.getElem?_take, show j % 52 < 52 from by omega, if_true, List.getElem?_drop, hj2]
    rw [h2]
    by_cases hb : j < body.length
    · rw [if_pos ⟨by omega, hb⟩]
    · rw [if_neg (by omega)]
      simp [List.getD, List.getElem?_eq_none (Nat.not_lt.1 hb)]
  · rw [decide_eq_false hn] at ho
    rw [roomAt_false _ _ _ _ ho, if_neg (by omega), getD_replicate]
/-- are all of d sectors from the a-th on true? -/
def cov (bs : List Bool) (a d : Nat) : Bool := (List.range d).all fun i => bs.getD (a + i) false
theorem cov_short (bs : List Bool) (a d i : Nat) (hi : i < d) (h : bs.getD (a + i) false = false) : cov bs a d = false := by
  refine Bool.eq_false_iff.2 fun h1 => ?_
  have := List.all_eq_true.1 h1 i (List.mem_range.2 hi)
  rw [h] at this; cases this
theorem cov_all (bs : List Bool) (a d : Nat) (h : ∀ i, i < d → bs.getD (a + i) false = true) : cov bs a d = true :=
  List.all_eq_true.2 fun i hi => h i (List.mem_range.1 hi)
/-- which sectors a segment's places lie in -/
theorem touch_le (a b : Nat) (hb : b ≤ 832) : (touchN a b).1 ≤ (touchN a b).2 ∧ (touchN a b).2 ≤ 16 ∧ ((touchN a b).1 = (touchN a b).2 → (touchN a b).1 = 0) := by
  unfold touchN
  split
  · refine ⟨by simp only; omega, by simp only; omega, by simp only; omega⟩
  · simp
theorem touch_zero (b : Nat) : (touchN 0 b).1 = 0 := by
  unfold touchN; split <;> rfl
end Go.Proofs.YtjlnceldnbpapaaDoor
/-
  LAYER 16 (plan), part: the bytes of a body that its sector has. No condition.
-/
namespace Go.Proofs.YtjlnceldnbpapaaDoor
open Go.RowKit
/-- where a part begins, and how many bytes it has -/
def qF (len i : Nat) : Nat := min (i * 52) len
def qN (len i : Nat) : Nat := min (qF len i + 52) len - qF len i
theorem part_list (zs : List Int) (len i : Nat) (h : zs.length = len) : (zs.drop (qF len i)).take (qN len i) = partB zs i := by
  unfold qN qF partB
  by_cases h1 : i * 52 ≤ len
  · rw [Nat.min_eq_left h1, Nat.mul_comm]
    by_cases h2 : 52 * i + 52 ≤ len
    · rw [Nat.min_eq_left h2]; congr 1; omega
    · rw [Nat.min_eq_right (by omega), List.take_of_length_le (by simp; omega), List.take_of_length_le (by simp; omega)]
  · rw [Nat.min_eq_right (by omega), List.drop_eq_nil_of_le (by omega), List.drop_eq_nil_of_le (by omega)]; simp
set_option maxRecDepth 8000 in
set_option maxHeartbeats 800000 in
theorem part_any (a : Option Addr) (len cap i : Nat) (hlc : len ≤ cap) (hl : len ≤ 1000000) (hi : i ≤ 1000) (w : World) :
    Calls Tryd.prog 45 #[.slice a len cap, .int .i64 (i : Int)] w fun e w' => e = .returned (sliced a (qF len i) (qF len i + qN len i) (qF len i + qN len i) 1) ∧ w' = w := by
  have h1 : ((qF len i : Nat) : Int) = min ((i : Int) * 52) (len : Int) := by unfold qF; omega
  have h2 : ((qF len i + qN len i : Nat) : Int) = min (((qF len i : Nat) : Int) + 52) (len : Int) := by unfold qN; have : qF len i ≤ len := by unfold qF; omega
                                                                                                        omega
  generalize qF len i = f at *
  generalize qN len i = n at *
  have hfn : f + n ≤ len := by omega
  rw [h1] at h2
  obtain ⟨v, hv⟩ : ∃ v, sliced a f (f + n) (f + n) 1 = v := ⟨_, rfl⟩
  rw [hv]
  have HV := Lib.hid hv
  clear hv
  by_cases c1 : (len : Int) < (i : Int) * 52
  · have h4 : (len : Int) < len + 52 := by omega
    obtain rfl : f = len := by omega
    obtain rfl : n = 0 := by omega
    clear h1 h2
    go_enter Tryd.func45, Tryd.ntmps45
    go_wp2
    go_ret
    exact ⟨by rw [← HV.out]; simp [sliced], rfl⟩
  · obtain rfl : f = i * 52 := by omega
    by_cases c2 : (len : Int) < (i : Int) * 52 + 52
    · obtain ⟨m, rfl⟩ : ∃ m, len = i * 52 + m := ⟨len - i * 52, by omega⟩
      obtain rfl : n = m := by omega
      clear h1 h2
      by_cases h0 : n = 0
      · subst h0
        go_enter Tryd.func45, Tryd.ntmps45
        go_wp2
        go_ret
        exact ⟨by rw [← HV.out]; simp [sliced], rfl⟩
      · go_enter Tryd.func45, Tryd.ntmps45
        go_wp2
        go_ret
        exact ⟨by rw [← HV.out]; simp [sliced, h0], rfl⟩
    · obtain rfl : n = 52 := by omega
      clear h1 h2
      go_enter Tryd.func45, Tryd.ntmps45
      go_wp2
      go_ret
      exact ⟨by rw [← HV.out]; simp [sliced], rfl⟩
/-- .. as a slice -/
theorem part_ri (v : Value) (len i : Nat) (zs : List Int) (hl : len ≤ 1000000) (hi : i ≤ 1000) (w : World) (h : RI .u8 w v len zs) :
    Calls Tryd.prog 45 #[v, .int .i64 (i : Int)] w fun e w' => ∃ v', e = .returned v' ∧ RI .u8 w v' (qN len i) (partB zs i) ∧ w' = w := by
  have hzl := h.length
  obtain ⟨a, cap, rfl, _, hc, _⟩ := id h
  refine (part_any a len cap i hc hl hi w).mono ?_
  rintro e w' ⟨rfl, rfl⟩
  refine ⟨_, rfl, ?_, rfl⟩
  have hfn : qF len i + qN len i ≤ len := by unfold qN; have : qF len i ≤ len := by unfold qF; omega
                                             omega
  have := h.cut (qF len i) (qN len i) (qF len i + qN len i) hfn (Nat.le_refl _) (by omega)
  rwa [part_list zs len i hzl] at this
end Go.Proofs.YtjlnceldnbpapaaDoor
/-
  LAYER 16 (plan), Write and Whole: what the program's answer. No condition.
-/
namespace Go.Proofs.YtjlnceldnbpapaaDoor
open Go.RowKit
theorem wpl_make_row {w : World} {ops : Array Oper} {rest : List Oper} {o : Oper} {a : Act} {Q : Exit → Act → World → Prop} (hgd : o.guard = none) (x y : Operand) (ho : o.op = Op.makeSlice 34 x y) (n : Nat) (hx : a.eval x = .int .i64 (n : Int)) (hy : a.eval y = .int .i64 (n : Int)) (hn : n ≤ 1000000)
    (h : ∀ g w', Hid (RW w' g (List.replicate (n * 64) 0)) → Hid (w.heap.size ≤ g) → Hid (Below w.heap.size w w') → wpList Tryd.prog ops Q rest (a.put o.dst (.slice (some ⟨g, 0, none⟩) n n)) w') : wpList Tryd.prog ops Q (o :: rest) a w := by
  refine wpList_plain hgd fun K hK => ?_
  have hrun := make_row_run n (by omega) w
  unfold Oper.wp
  simp [execOp, ho, hx, hy, hrun, Result.andThen]
  exact hK _ _ (h _ _ (heap_alloc_last w _) (Nat.le_refl _) (below_alloc w _))
set_option maxRecDepth 8000 in
set_option maxHeartbeats 1000000 in
theorem write_any (x : Int) (hx : U64 x) (v : Value) (len : Nat) (zs : List Int) (hlen : len ≤ 1000000) (f t : Int) (hf : I63 f) (ht : I63 t) (w : World) (h : RI .u8 w v len zs) (a d : Nat) (ha : (touchN (nr f) (nr t)).1 = a) (hd : (touchN (nr f) (nr t)).2 - a = d) :
    Calls Tryd.prog 29 #[.int .u64 x, v, .int .i64 f, .int .i64 t] w fun e w' => ∃ g, e = .returned (.tuple #[.int .i64 (a : Int), .slice (some ⟨g, 0, none⟩) d d]) ∧
      FS w' (.slice (some ⟨g, 0, none⟩) d d) d (writeB x zs a d) ∧ Below w.heap.size w w' := by
  have HT : Hid (∀ w : World, Calls Tryd.prog 43 #[.int .i64 f, .int .i64 t] w fun e w' => e = .returned (.tuple #[.int .i64 ((touchN (nr f) (nr t)).1 : Int), .int .i64 ((touchN (nr f) (nr t)).2 : Int)]) ∧ Below w.heap.size w w') := fun w => touch_any f t hf ht w
  obtain ⟨hab, hb16, h0⟩ := touch_le (nr f) (nr t) (nr_le t)
  clear h0
  rw [ha] at HT hab
  generalize (touchN (nr f) (nr t)).2 = b at *
  clear ha
  have hdb : (b : Int) - (a : Int) = (d : Int) := by omega
  have hd16 : d ≤ 16 := by omega
  have ha16 : a + d ≤ 16 := by omega
  have HR := Lib.hid h
  have HX := Lib.hid hx
  clear h hx hf ht hd hab hb16
  go_enter Tryd.func29, Tryd.ntmps29
  go_wp2_with (first
    | (go_at_call 43; (with_reducible refine (HT.out _).mono ?_); rintro e w1 ⟨rfl, hb⟩; have HB1 := Lib.hid hb; clear hb)
    | (refine wpl_make_row rfl _ _ rfl d rfl rfl (by omega) ?_; intro g w2 HW0 HG hb; have HG := Lib.hid (Nat.le_trans HB1.out.size HG.out); have HB0 := Lib.hid (bch HB1.out hb.out); clear hb))
  have HWZ : Hid (RW w2 g (rowAt x zs a d 0)) := Lib.hid (by rw [rowAt_zero]; exact HW0.out)
  clear HW0
  go_wp2
  go_loopw [27] (fun iv wr => ∃ k : Nat, iv = .int .i64 k ∧ k ≤ d ∧ Hid (RW wr g (rowAt x zs a d k)) ∧ Hid (Below w.heap.size w wr)) (fun iv _ => d - (intOf iv).toNat)
  case atStart => exact ⟨0, rfl, by omega, HWZ, HB0⟩
  case round =>
    obtain ⟨k, rfl, hk, HW, HB⟩ := hrel
    by_cases hlt : (k : Int) < (d : Int)
    · obtain ⟨q, hq⟩ : ∃ q : Nat, a + k = q := ⟨_, rfl⟩
      have hqi : (a : Int) + (k : Int) = (q : Int) := by omega
      have hq16 : q ≤ 16 := by omega
      obtain ⟨l, hl⟩ : ∃ l, sealed x (q : Int) (partB zs q) = l := ⟨_, rfl⟩
      have HLL := Lib.hid (show l.length = 64 from by rw [← hl]; exact sealed_length _ _ _)
      have HRL := Lib.hid (rowAt_length x zs a d k hk)
      have HNX := Lib.hid (rowAt_next x zs a d k (by omega))
      rw [hq, hl] at HNX
      have HS : Hid (∀ (v : Value) (n : Nat) (w : World), RI .u8 w v n (partB zs q) → Calls Tryd.prog 44 #[.int .u64 x, .int .i64 (q : Int), v] w fun e w' => e = .returned (.agg (sv l)) ∧ Below w.heap.size w w') := fun v n w h => by
        rw [← hl]; exact seal_any x q HX.out (by unfold I63; omega) v n _ w h
      have HR1 := Lib.hid (HR.out.keep HB.out)
      clear hl hq
      go_wp2_with (first
        | (go_at_call 45; (with_reducible refine (part_ri v len q zs hlen (by omega) _ HR1.out).mono ?_); rintro e w3 ⟨v3, rfl, hr, rfl⟩; have HR3 := Lib.hid hr; clear hr)
        | (go_at_call 44; (with_reducible refine (HS.out _ _ _ HR3.out).mono ?_); rintro e w4 ⟨rfl, hb⟩; have HW4 := Lib.hid (HW.out.keep hb); have HB4 := Lib.hid (bch HB.out hb); clear hb)
        | (refine wpl_put_row rfl _ _ rfl g d k _ l HW4.out HRL.out (by omega) HLL.out (k * 64) rfl rfl rfl ?_; intro w5 HW5 hg5; have HW5 := Lib.hid (HNX.out ▸ HW5.out); have HB5 := Lib.hid (below_grown HB4.out hg5.out HG.out HB4.out.size); clear hg5))
      go_roundw
      case rel => exact ⟨k + 1, by simp, by omega, HW5, HB5⟩
      case measure => simp [intOf]; omega
    · obtain rfl : k = d := by omega
      go_wp2
      go_ret2
      have h1 := HW.out
      rw [rowAt_end] at h1
      exact ⟨g, rfl, h1.fs (writeB_length x zs a k) (by omega), HB.out⟩
set_option maxRecDepth 8000 in
set_option maxHeartbeats 1000000 in
theorem whole_any (x : Int) (hx : U64 x) (v : Value) (len : Nat) (zs : List Int) (hlen : len ≤ 1000000) (t : Int) (ht : I63 t) (w : World) (h : RI .u8 w v len zs) :
    Calls Tryd.prog 19 #[.int .u64 x, v, .int .i64 t] w fun e w' => ∃ v', e = .returned v' ∧ FS w' v' 16 (wholeK x zs (touchN 0 (nr t)).2 16) ∧ Below w.heap.size w w' := by
  obtain ⟨hab, hb16, h0⟩ := touch_le 0 (nr t) (nr_le t)
  have hz := touch_zero (nr t)
  have h00 : nr 0 = 0 := by decide
  have HWR : Hid (∀ (w : World), RI .u8 w v len zs → Calls Tryd.prog 29 #[.int .u64 x, v, .int .i64 0, .int .i64 t] w fun e w' => ∃ g, e = .returned (.tuple #[.int .i64 0, .slice (some ⟨g, 0, none⟩) (touchN 0 (nr t)).2 (touchN 0 (nr t)).2]) ∧
      FS w' (.slice (some ⟨g, 0, none⟩) (touchN 0 (nr t)).2 (touchN 0 (nr t)).2) (touchN 0 (nr t)).2 (writeB x zs 0 (touchN 0 (nr t)).2) ∧ Below w.heap.size w w') := fun w h =>
    write_any x hx v len zs hlen 0 t (by unfold I63; omega) ht w h 0 (touchN 0 (nr t)).2 (by rw [h00]; exact hz) (by rw [h00]; rfl)
  generalize (touchN 0 (nr t)).2 = b at *
  have HSP := Lib.hid (whole_splice x zs b hb16)
  have HR := Lib.hid h
  clear h hx ht hab h0 hz h00
  go_enter Tryd.func19, Tryd.ntmps19
  go_wp2_with (first
    | (refine wpl_make_row rfl _ _ rfl 16 rfl rfl (by omega) ?_; intro g w1 HW1 HG hb; have HR1 := Lib.hid (HR.out.keep hb.out); have HB1 := Lib.hid hb.out; clear hb)
    | (go_at_call 29; (with_reducible refine (HWR.out _ HR1.out).mono ?_); rintro e w2 ⟨g2, rfl, hf, hb⟩; have HF2 := Lib.hid hf; have HW2 := Lib.hid (HW1.out.keep hb); have HB2 := Lib.hid (bch HB1.out hb); clear hf hb)
    | (refine wpl_copy_row rfl _ _ rfl g 16 16 _ HW2.out (by rw [List.length_replicate]) rfl _ b _ rfl HF2.out hb16 ?_; intro w3 HW3 hg3; have HW3 := Lib.hid (HSP.out ▸ HW3.out); have HB3 := Lib.hid (below_grown HB2.out hg3.out HG.out HB2.out.size); clear hg3))
  go_ret
  exact ⟨_, rfl, HW3.out.fs (wholeK_length x zs b 16) (by omega), HB3.out⟩
end Go.Proofs.YtjlnceldnbpapaaDoor
