/-
  TEXTS JOINED: SpanWhere, SpanTouch, PlanMath, WholeB, SpanCode, CutCode, CutList. Each one's own words stand at its head.
-/
import Derived.Test.YtgegbpnmfpjdmaaGreatDoorJ12
import Derived.Test.YtgegbpnmfpjdmaaGreatDoorJ1
import Derived.Laws.StructEq
import Derived.Deep.WholeRow
import Derived.Test.YtgegbpnmfpjdmaaGreatDoorJ0
import Derived.Test.YtgegbpnmfpjdmaaGreatDoorJ5
import Derived.Deep.MidRow
namespace Go.Proofs.YtgegbpnmfpjdmaaGreatDoor
open Go.RowKit
theorem spot_info : (Tryz.prog.info? 121).map (·.size) = some 2 := by kernel_rfl
theorem nearer_any (n m : Int) (h : I63 n) (h2 : 0 ≤ m ∧ m ≤ 832) (w : World) : Calls Tryz.prog 97 #[.int .i64 n, .int .i64 m] w fun e w' => e = .returned (.int .i64 (min (max n 0) m)) ∧ w' = w := by
  have h' : -9223372036854775808 ≤ n ∧ n ≤ 9223372036854775807 := h
  go_enter Tryz.func97, Tryz.ntmps97
  go_wp2
  all_goals
    go_ret
    exact ⟨ret_int (by omega), rfl⟩
theorem place_any (n : Int) (h : I63 n) (w : World) : Calls Tryz.prog 96 #[.int .i64 n] w fun e w' => e = .returned (.int .i64 (nr n : Int)) ∧ w' = w := by
  have HN : Hid (∀ w, Calls Tryz.prog 97 #[.int .i64 n, .int .i64 832] w fun e w' => e = .returned (.int .i64 (nr n : Int)) ∧ w' = w) := fun w =>
    (nearer_any n 832 h (by omega) w).mono fun e w' ⟨he, hw⟩ => ⟨by rw [he]; unfold nr; congr 2; omega, hw⟩
  go_enter Tryz.func96, Tryz.ntmps96
  go_wp2_with (first
    | (go_at_call 97; (with_reducible refine (HN.out _).mono ?_); rintro e w' ⟨rfl, rfl⟩))
  go_ret
  exact ⟨rfl, rfl⟩
theorem where_any (n : Int) (h : I63 n) (w : World) : Calls Tryz.prog 69 #[.int .i64 n] w fun e w' => e = .returned (.agg #[.int .i64 ((nr n / 52 : Nat) : Int), .int .i64 ((nr n % 52 : Nat) : Int)]) ∧ Below w.heap.size w w' := by
  have hle := nr_le n
  have HP : Hid (∀ w, Calls Tryz.prog 96 #[.int .i64 n] w fun e w' => e = .returned (.int .i64 (nr n : Int)) ∧ w' = w) := fun w => place_any n h w
  generalize nr n = a at *
  have hq : (a : Int).tdiv 52 = ((a / 52 : Nat) : Int) := by rw [Int.tdiv_eq_ediv_of_nonneg (by omega)]; omega
  have hm : (a : Int).tmod 52 = ((a % 52 : Nat) : Int) := by rw [Int.tmod_eq_emod_of_nonneg (by omega)]; omega
  obtain ⟨q, hq2⟩ : ∃ q, a / 52 = q := ⟨_, rfl⟩
  obtain ⟨r, hr2⟩ : ∃ r, a % 52 = r := ⟨_, rfl⟩
  rw [hq2] at hq ⊢
  rw [hr2] at hm ⊢
  have hq3 : (q : Int) ≤ 16 := by omega
  have hr3 : (r : Int) ≤ 51 := by omega
  clear hq2 hr2
  go_enter Tryz.func69, Tryz.ntmps69
  go_wp2_with (first
    | (go_at_call 96; (with_reducible refine (HP.out _).mono ?_); rintro e w' ⟨rfl, rfl⟩))
  exact bodyPost_ret_by (v := .agg #[.int .i64 q, .int .i64 r]) (results_cell_row rfl _ _ w.heap.size _ #[.int .i64 q, .int .i64 r] (0, 0) _ rfl (heap_alloc_last w _) Tryz.underlying121 rfl spot_info) rfl ⟨rfl, (Below.refl _ _).alloc (Nat.le_refl _) _⟩
theorem wrap_id (x : Int) (h : -1000 ≤ x ∧ x ≤ 10000) : IntKind.i64.wrap x = x := by
  exact IntWalk.i64_in _ (by omega)
theorem bchain {a b c : World} (h : Below a.heap.size a b) (k : Below b.heap.size b c) : Below a.heap.size a c := h.trans (k.mono h.size)
end Go.Proofs.YtgegbpnmfpjdmaaGreatDoor
namespace Go.Proofs.YtgegbpnmfpjdmaaGreatDoor
open Go.RowKit
def touchN (a b : Nat) : Nat × Nat := if a < b then (a / 52, (b - 1) / 52 + 1) else (0, 0)
set_option maxRecDepth 8000 in
set_option maxHeartbeats 800000 in
theorem rtouch_any (n m : Int) (h : I63 n) (h2 : I63 m) (w : World) : Calls Tryz.prog 77 #[.int .i64 n, .int .i64 m] w fun e w' => e = .returned (.tuple #[.int .i64 ((touchN (nr n) (nr m)).1 : Int), .int .i64 ((touchN (nr n) (nr m)).2 : Int)]) ∧ w' = w := by
  have hle := nr_le n
  have hle2 := nr_le m
  have HN : Hid (∀ w, Calls Tryz.prog 63 #[.int .i64 n] w fun e w' => e = .returned (.int .i64 (nr n : Int)) ∧ w' = w) := fun w => near_any n h w
  have HM : Hid (∀ w, Calls Tryz.prog 63 #[.int .i64 m] w fun e w' => e = .returned (.int .i64 (nr m : Int)) ∧ w' = w) := fun w => near_any m h2 w
  generalize nr n = a at *
  generalize nr m = b at *
  go_enter Tryz.func77, Tryz.ntmps77
  go_wp2_with (first
    | (go_at_call 63; (with_reducible refine (HN.out _).mono ?_); rintro e w' ⟨rfl, rfl⟩))
  go_loop [6, 7, 8] (fun fv lv iv => ∃ (i : Nat) (f l : Int), iv = .int .i64 i ∧ fv = .int .i64 f ∧ lv = .int .i64 l ∧ i ≤ 832 ∧ -1 ≤ f ∧ f ≤ 16 ∧ -1 ≤ l ∧ l ≤ 16 ∧ Hid ((i = a ∧ f = -1 ∧ l = -1) ∨ (a < i ∧ i ≤ b ∧ f = ((a / 52 : Nat) : Int) ∧ l = (((i - 1) / 52 : Nat) : Int)))) (fun _ _ iv => 832 - (intOf iv).toNat)
  case atStart => exact ⟨a, -1, -1, rfl, rfl, rfl, by omega, by omega, by omega, by omega, by omega, .inl ⟨rfl, rfl, rfl⟩⟩
  case round =>
    obtain ⟨i, f, l, rfl, rfl, rfl, hi, hf1, hf2, hl1, hl2, HR⟩ := hrel
    have hd : (i : Int).tdiv 52 = ((i / 52 : Nat) : Int) := by rw [Int.tdiv_eq_ediv_of_nonneg (by omega)]; omega
    obtain ⟨q, hq⟩ : ∃ q, i / 52 = q := ⟨_, rfl⟩
    rw [hq] at hd
    have hwq : wrap64 (q : Int) = (q : Int) := by unfold wrap64; omega
    have HQ := Lib.hid hq
    have HWQ := Lib.hid (congrArg (Value.int IntKind.i64) hwq)
    clear hq hwq
    by_cases hlt : (i : Int) < (b : Int)
    · by_cases hf : f < 0
      · go_wp2_with (first
          | (go_at_call 63; (with_reducible refine (HM.out _).mono ?_); rintro e w' ⟨rfl, rfl⟩))
        go_round
        case rel =>
          refine ⟨i + 1, q, q, by go_num, HWQ.out, HWQ.out, by omega, by omega, by have := HQ.out; omega, by omega, by have := HQ.out; omega, .inr ?_⟩
          have := HQ.out
          rcases HR.out with ⟨rfl, _, _⟩ | ⟨g1, g2, g3, g4⟩ <;> omega
        case measure => simp [intOf]; omega
      · go_wp2_with (first
          | (go_at_call 63; (with_reducible refine (HM.out _).mono ?_); rintro e w' ⟨rfl, rfl⟩))
        go_round
        case rel =>
          refine ⟨i + 1, f, q, by go_num, rfl, HWQ.out, by omega, by omega, by omega, by omega, by have := HQ.out; omega, .inr ?_⟩
          have := HQ.out
          rcases HR.out with ⟨rfl, _, _⟩ | ⟨g1, g2, g3, g4⟩ <;> omega
        case measure => simp [intOf]; omega
    · by_cases hf : f < 0
      · have HT := Lib.hid (show touchN a b = (0, 0) from if_neg (by rcases HR.out with ⟨rfl, _, _⟩ | ⟨g1, g2, g3, g4⟩ <;> omega))
        go_wp2_with (first
          | (go_at_call 63; (with_reducible refine (HM.out _).mono ?_); rintro e w' ⟨rfl, rfl⟩))
        go_ret2
        exact ⟨by rw [HT.out]; rfl, rfl⟩
      · have HT := Lib.hid (show ((touchN a b).1 : Int) = f ∧ ((touchN a b).2 : Int) = l + 1 from by
          rcases HR.out with ⟨rfl, g2, _⟩ | ⟨g1, g2, g3, g4⟩
          · omega
          · rw [show touchN a b = (a / 52, (b - 1) / 52 + 1) from if_pos (by omega)]
            exact ⟨by omega, by omega⟩)
        go_wp2_with (first
          | (go_at_call 63; (with_reducible refine (HM.out _).mono ?_); rintro e w' ⟨rfl, rfl⟩))
        go_ret2
        exact ⟨by rw [HT.out.1, HT.out.2]; rfl, rfl⟩
set_option maxRecDepth 8000 in
theorem touch_any (n m : Int) (h : I63 n) (h2 : I63 m) (w : World) : Calls Tryz.prog 93 #[.int .i64 n, .int .i64 m] w fun e w' => e = .returned (.tuple #[.int .i64 ((touchN (nr n) (nr m)).1 : Int), .int .i64 ((touchN (nr n) (nr m)).2 : Int)]) ∧ Below w.heap.size w w' := by
  have hln := nr_le n
  have hlm := nr_le m
  have HN : Hid (∀ w, Calls Tryz.prog 96 #[.int .i64 n] w fun e w' => e = .returned (.int .i64 (nr n : Int)) ∧ w' = w) := fun w => place_any n h w
  have HM : Hid (∀ w, Calls Tryz.prog 96 #[.int .i64 m] w fun e w' => e = .returned (.int .i64 (nr m : Int)) ∧ w' = w) := fun w => place_any m h2 w
  generalize nr n = a at *
  generalize nr m = b at *
  by_cases hlt : (a : Int) < (b : Int)
  · have ht : touchN a b = (a / 52, (b - 1) / 52 + 1) := by unfold touchN; rw [if_pos (by omega)]
    rw [ht]
    have H1 : Hid (∀ w, Calls Tryz.prog 69 #[.int .i64 (a : Int)] w fun e w' => e = .returned (.agg #[.int .i64 ((a / 52 : Nat) : Int), .int .i64 ((a % 52 : Nat) : Int)]) ∧ Below w.heap.size w w') := fun w => by
      have := where_any a (by unfold I63; omega) w; rwa [nr_nat _ hln] at this
    have H2 : Hid (∀ w, Calls Tryz.prog 69 #[.int .i64 ((b : Int) - 1)] w fun e w' => e = .returned (.agg #[.int .i64 (((b - 1) / 52 : Nat) : Int), .int .i64 (((b - 1) % 52 : Nat) : Int)]) ∧ Below w.heap.size w w') := fun w => by
      have := where_any ((b - 1 : Nat) : Int) (by unfold I63; omega) w; rwa [nr_nat _ (by omega), show ((b - 1 : Nat) : Int) = (b : Int) - 1 from by omega] at this
    have hq : (((b - 1) / 52 : Nat) : Int) ≤ 16 := by omega
    generalize (b - 1) / 52 = q at *
    generalize (b - 1) % 52 = r at *
    generalize a / 52 = q2 at *
    generalize a % 52 = r2 at *
    clear ht
    go_enter Tryz.func93, Tryz.ntmps93
    have hf1 : ∀ w, (Instr.field 121 (.agg #[.int .i64 q2, .int .i64 r2]) 0).run Tryz.prog w = .ok (.int .i64 q2) w := fun _ => by kernel_rfl
    have hf2 : ∀ w, (Instr.field 121 (.agg #[.int .i64 q, .int .i64 r]) 0).run Tryz.prog w = .ok (.int .i64 q) w := fun _ => by kernel_rfl
    go_wp2_with (first
      | (go_at_call 96; (with_reducible refine (HN.out _).mono ?_); rintro e w' ⟨rfl, rfl⟩)
      | (go_at_call 96; (with_reducible refine (HM.out _).mono ?_); rintro e w' ⟨rfl, rfl⟩)
      | (go_at_call 69; (with_reducible refine (H1.out _).mono ?_); rintro e w1 ⟨rfl, hb⟩; have HB1 := Lib.hid hb; clear hb)
      | (go_at_call 69; (with_reducible refine (H2.out _).mono ?_); rintro e w2 ⟨rfl, hb⟩; have HB2 := Lib.hid (bchain HB1.out hb); clear hb))
    go_ret2
    exact ⟨rfl, HB2.out⟩
  · have ht : touchN a b = (0, 0) := by unfold touchN; rw [if_neg (by omega)]
    rw [ht]
    clear ht
    go_enter Tryz.func93, Tryz.ntmps93
    go_wp2_with (first
      | (go_at_call 96; (with_reducible refine (HN.out _).mono ?_); rintro e w' ⟨rfl, rfl⟩)
      | (go_at_call 96; (with_reducible refine (HM.out _).mono ?_); rintro e w' ⟨rfl, rfl⟩))
    go_ret2
    exact ⟨rfl, Below.refl _ _⟩
end Go.Proofs.YtgegbpnmfpjdmaaGreatDoor
namespace Go.Proofs.YtgegbpnmfpjdmaaGreatDoor
open Go.RowKit
def secOf (fs : List Int) (i : Nat) : List Int := (fs.drop (i * 64)).take 64
theorem secOf_length (fs : List Int) (n i : Nat) (h : fs.length = n * 64) (hi : i < n) : (secOf fs i).length = 64 := by unfold secOf; simp; omega
def okAt (x : Int) (n : Nat) (fs : List Int) (i : Nat) : Bool := decide (i < n) && decide (sealed x i ((secOf fs i).drop 12) = secOf fs i)
theorem okAt_in (x : Int) (n : Nat) (fs : List Int) (i : Nat) (h : i < n) : okAt x n fs i = decide (sealed x i ((secOf fs i).drop 12) = secOf fs i) := by
  unfold okAt; rw [decide_eq_true h]; rfl
theorem splice_mid {α : Type} (a b c : List α) (d : List α) (h : c.length = b.length) (k : Nat) (hk : a.length = k) : splice (a ++ (b ++ d)) k c = a ++ (c ++ d) := by
  subst hk
  unfold splice
  rw [List.take_left', List.drop_append, List.drop_eq_nil_of_le (by omega), List.nil_append]
  · congr 2
    rw [show a.length + c.length - a.length = b.length from by omega, List.drop_left']
    rfl
  · rfl
def partB (body : List Int) (i : Nat) : List Int := (body.drop (52 * i)).take 52
def writeB (x : Int) (body : List Int) (a : Nat) : Nat → List Int
  | 0 => []
  | k + 1 => writeB x body a k ++ sealed x ((a + k : Nat) : Int) (partB body (a + k))
theorem writeB_length (x : Int) (body : List Int) (a : Nat) : ∀ k, (writeB x body a k).length = k * 64
  | 0 => rfl
  | k + 1 => by rw [writeB, List.length_append, writeB_length x body a k, sealed_length]; omega
def rowAt (x : Int) (body : List Int) (a d k : Nat) : List Int := writeB x body a k ++ List.replicate ((d - k) * 64) 0
theorem rowAt_length (x : Int) (body : List Int) (a d k : Nat) (hk : k ≤ d) : (rowAt x body a d k).length = d * 64 := by
  unfold rowAt; rw [List.length_append, writeB_length, List.length_replicate, ← Nat.add_mul]; congr 1; omega
theorem rowAt_zero (x : Int) (body : List Int) (a d : Nat) : rowAt x body a d 0 = List.replicate (d * 64) 0 := by simp [rowAt, writeB]
theorem rowAt_end (x : Int) (body : List Int) (a d : Nat) : rowAt x body a d d = writeB x body a d := by simp [rowAt]
theorem rowAt_next (x : Int) (body : List Int) (a d k : Nat) (hk : k < d) :
    splice (rowAt x body a d k) (k * 64) (sealed x ((a + k : Nat) : Int) (partB body (a + k))) = rowAt x body a d (k + 1) := by
  unfold rowAt
  rw [show (d - k) * 64 = 64 + (d - (k + 1)) * 64 from by omega, ← List.replicate_append_replicate,
    splice_mid _ (List.replicate 64 0) _ _ (by rw [sealed_length]; simp) _ (writeB_length x body a k), writeB, List.append_assoc]
def wholeK (x : Int) (body : List Int) (n : Nat) : Nat → List Int
  | 0 => []
  | k + 1 => wholeK x body n k ++ (if k < n then sealed x (k : Int) (partB body k) else z64)
theorem wholeK_length (x : Int) (body : List Int) (n : Nat) : ∀ k, (wholeK x body n k).length = k * 64
  | 0 => rfl
  | k + 1 => by
    rw [wholeK, List.length_append, wholeK_length x body n k]
    split
    · rw [sealed_length]; omega
    · rw [z64_length]; omega
theorem wholeK_in (x : Int) (body : List Int) (n : Nat) : ∀ k, k ≤ n → wholeK x body n k = writeB x body 0 k
  | 0, _ => rfl
  | k + 1, h => by rw [wholeK, wholeK_in x body n k (by omega), if_pos (by omega), writeB, Nat.zero_add]
theorem wholeK_behind (x : Int) (body : List Int) (n : Nat) : ∀ d, wholeK x body n (n + d) = writeB x body 0 n ++ List.replicate (d * 64) 0
  | 0 => by rw [Nat.add_zero, wholeK_in _ _ _ _ (Nat.le_refl _)]; simp
  | d + 1 => by
    rw [← Nat.add_assoc, wholeK, wholeK_behind x body n d, if_neg (by omega), List.append_assoc, z64, List.replicate_append_replicate, Nat.add_mul]
theorem secOf_whole (x : Int) (body : List Int) (n i : Nat) : ∀ k, i < k → secOf (wholeK x body n k) i = if i < n then sealed x (i : Int) (partB body i) else z64
  | 0, h => absurd h (by omega)
  | k + 1, h => by
    have hl := wholeK_length x body n k
    by_cases hik : i < k
    · rw [← secOf_whole x body n i k hik]
      unfold secOf
      rw [wholeK, List.drop_append_of_le_length (by omega), List.take_append_of_le_length (by simp; omega)]
    · obtain rfl : i = k := by omega
      unfold secOf
      rw [wholeK, List.drop_left' hl]
      refine List.take_of_length_le ?_
      split
      · rw [sealed_length]; omega
      · rw [z64_length]; omega
theorem z64_sealed : z64 = sealed 0 0 [] := by decide
theorem okAt_whole (x : Int) (hx : U64 x) (h0 : x ≠ 0) (body : List Int) (n i : Nat) (hi : i < 16) : okAt x 16 (wholeK x body n 16) i = decide (i < n) := by
  rw [okAt_in _ _ _ _ hi, secOf_whole x body n i 16 hi]
  by_cases h : i < n
  · rw [if_pos h, sealed_own, decide_eq_true rfl, decide_eq_true h]
  · rw [if_neg h, z64_sealed, decide_eq_false h]
    refine decide_eq_false fun he => h0 ?_
    exact ((sealed_eq 0 x 0 i (by unfold U64; omega) hx []).1 he).1.symm
theorem touch_le (a b : Nat) (hb : b ≤ 832) : (touchN a b).1 ≤ (touchN a b).2 ∧ (touchN a b).2 ≤ 16 ∧ ((touchN a b).1 = (touchN a b).2 → (touchN a b).1 = 0) := by
  unfold touchN
  split
  · refine ⟨by simp only; omega, by simp only; omega, by simp only; omega⟩
  · simp
end Go.Proofs.YtgegbpnmfpjdmaaGreatDoor
namespace Go.Proofs.YtgegbpnmfpjdmaaGreatDoor
open Go.RowKit
end Go.Proofs.YtgegbpnmfpjdmaaGreatDoor
namespace Go.Proofs.YtgegbpnmfpjdmaaGreatDoor
open Go.RowKit
def atN (s o : Int) : Nat := min ((min (max s 0) 16).toNat * 52 + (min (max o 0) 52).toNat) 832
set_option maxRecDepth 8000 in
theorem at_any (s o : Int) (h : I63 s) (h2 : I63 o) (w : World) : Calls Tryz.prog 70 #[.agg #[.int .i64 s, .int .i64 o]] w fun e w' => e = .returned (.int .i64 (atN s o : Int)) ∧ Below w.heap.size w w' := by
  obtain ⟨x, hx⟩ : ∃ x, min (max s 0) 16 = x := ⟨_, rfl⟩
  obtain ⟨y, hy⟩ : ∃ y, min (max o 0) 52 = y := ⟨_, rfl⟩
  have hx0 : 0 ≤ x := by omega
  have hx1 : x ≤ 16 := by omega
  have hy0 : 0 ≤ y := by omega
  have hy1 : y ≤ 52 := by omega
  have H1 : Hid (∀ w, Calls Tryz.prog 97 #[.int .i64 s, .int .i64 16] w fun e w' => e = .returned (.int .i64 x) ∧ w' = w) := fun w => hx ▸ nearer_any s 16 h (by omega) w
  have H2 : Hid (∀ w, Calls Tryz.prog 97 #[.int .i64 o, .int .i64 52] w fun e w' => e = .returned (.int .i64 y) ∧ w' = w) := fun w => hy ▸ nearer_any o 52 h2 (by omega) w
  have hwr : IntKind.i64.wrap (IntKind.i64.wrap (52 * x) + y) = 52 * x + y := by rw [wrap_id (52 * x) (by omega), wrap_id (52 * x + y) (by omega)]
  have H3 : Hid (∀ w, Calls Tryz.prog 96 #[.int .i64 (52 * x + y)] w fun e w' => e = .returned (.int .i64 (atN s o : Int)) ∧ w' = w) := fun w =>
    (place_any (52 * x + y) (by unfold I63; omega) w).mono fun e w' ⟨he, hw⟩ => ⟨by rw [he]; unfold nr atN; rw [hx, hy]; congr 2; omega, hw⟩
  generalize atN s o = at' at *
  clear hx hy
  unfold I63 at h h2
  go_enter Tryz.func70, Tryz.ntmps70
  go_wp2
  refine wp_region_held_drew (S := (fun w' => w' = (w.alloc (.cells #[.int .i64 s, .int .i64 o] 121)).drew)) (by kernel_rfl) rfl (fun hS => ?_)
  refine rgw 0 ⟨some 3, .fieldAddr 121 (.tmp 1) 0, 0, _, _, none⟩ hS ?_
  refine rgw 1 ⟨some 4, .load 3 (.tmp 3), 3, _, _, none⟩ hS ?_
  refine rgw 4 ⟨some 7, .fieldAddr 121 (.tmp 1) 1, 0, _, _, none⟩ hS ?_
  refine rgw 5 ⟨some 8, .load 3 (.tmp 7), 3, _, _, none⟩ hS ?_
  refine rg_one 2 ⟨some 5, .call { callee := .value (.func 97), args := #[.tmp 4, .const (.int .i64 16)], argTypes := #[3, 3] }, 3, _, _, none⟩ (by kernel_rfl) rfl (fun K hK => ?_)
  go_simp
  (go_at_call 97; (with_reducible refine (H1.out _).mono ?_); rintro e w2 ⟨rfl, rfl⟩)
  refine hK.out _ _ ?_ (fun hS1 => ?_)
  · (exact hS)
  clear hK K hS; have hS := hS1; clear hS1
  (try simp only [rgp])
  refine rgw 3 ⟨some 6, .binOp .mul 3 (.const (.int .i64 52)) (.tmp 5) 3, 3, _, _, none⟩ hS ?_
  refine rg_one 6 ⟨some 9, .call { callee := .value (.func 97), args := #[.tmp 8, .const (.int .i64 52)], argTypes := #[3, 3] }, 3, _, _, none⟩ (by kernel_rfl) rfl (fun K hK => ?_)
  go_simp
  (go_at_call 97; (with_reducible refine (H2.out _).mono ?_); rintro e w2 ⟨rfl, rfl⟩)
  refine hK.out _ _ ?_ (fun hS1 => ?_)
  · (exact hS)
  clear hK K hS; have hS := hS1; clear hS1
  (try simp only [rgp])
  refine rgw 7 ⟨some 10, .binOp .add 3 (.tmp 6) (.tmp 9) 3, 3, _, _, none⟩ hS ?_
  refine rg_one 8 ⟨some 11, .call { callee := .value (.func 96), args := #[.tmp 10], argTypes := #[3] }, 3, _, _, none⟩ (by kernel_rfl) rfl (fun K hK => ?_)
  go_simp
  (go_at_call 96; (with_reducible refine (H3.out _).mono ?_); rintro e w2 ⟨rfl, rfl⟩)
  refine hK.out _ _ ?_ (fun hS1 => ?_)
  · (exact hS)
  clear hK K hS; have hS := hS1; clear hS1
  (try simp only [rgp])
  refine rgw 9 ⟨some 2, .assign (.tmp 11), 3, _, _, none⟩ hS ?_
  refine wpAnyH_done (by kernel_rfl) ?_ _
  go_wp2
  go_ret
  exact ⟨rfl, ((Below.refl _ _).alloc (Nat.le_refl _) _).drew⟩
theorem at_nat (s o a : Nat) (hs : s ≤ 16) (ho : o ≤ 51) (ha : s * 52 + o = a) (ha2 : a ≤ 832) (w : World) : Calls Tryz.prog 70 #[.agg #[.int .i64 s, .int .i64 o]] w fun e w' => e = .returned (.int .i64 (a : Int)) ∧ Below w.heap.size w w' :=
  (at_any s o (by unfold I63; omega) (by unfold I63; omega) w).mono fun e w' ⟨he, hw⟩ => ⟨by rw [he]; unfold atN; congr 2; omega, hw⟩
set_option maxRecDepth 8000 in
theorem left_any (n : Int) (h : I63 n) (w : World) : Calls Tryz.prog 89 #[.int .i64 n] w fun e w' => e = .returned (.int .i64 (leftN (nr n) : Int)) ∧ Below w.heap.size w w' := by
  have hle := nr_le n
  have HW : Hid (∀ w, Calls Tryz.prog 69 #[.int .i64 n] w fun e w' => e = .returned (.agg #[.int .i64 ((nr n / 52 : Nat) : Int), .int .i64 ((nr n % 52 : Nat) : Int)]) ∧ Below w.heap.size w w') := fun w => where_any n h w
  generalize nr n = a at *
  have HA : Hid (∀ w, Calls Tryz.prog 70 #[.agg #[.int .i64 ((a / 52 : Nat) : Int), .int .i64 ((a % 52 : Nat) : Int)]] w fun e w' => e = .returned (.int .i64 (a : Int)) ∧ Below w.heap.size w w') := fun w =>
    at_nat (a / 52) (a % 52) a (by omega) (by omega) (by omega) hle w
  have hm : (a : Int).tmod 208 = ((a % 208 : Nat) : Int) := by rw [Int.tmod_eq_emod_of_nonneg (by omega)]; omega
  have hmd := Nat.div_add_mod a 52
  obtain ⟨q, hq2⟩ : ∃ q, a / 52 = q := ⟨_, rfl⟩
  obtain ⟨r, hr2⟩ : ∃ r, a % 52 = r := ⟨_, rfl⟩
  obtain ⟨k, hk2⟩ : ∃ k, a % 208 = k := ⟨_, rfl⟩
  have hr3 : r < 52 := by omega
  have hk3 : (k : Int) < 208 := by omega
  rw [hq2, hr2] at HW HA hmd
  rw [hk2] at hm
  have HL := Lib.hid (show leftN a = if a = 832 then 0 else 208 - k by unfold leftN; rw [hk2])
  generalize leftN a = la at *
  have HM := Lib.hid hmd
  have HR := Lib.hid hr3
  clear hq2 hr2 hk2 hmd hr3
  by_cases h8 : a = 832
  · have hq : (q : Int) = 16 := by have := HM.out; have := HR.out; omega
    have hr : (r : Int) = 0 := by have := HM.out; have := HR.out; omega
    go_enter Tryz.func89, Tryz.ntmps89
    go_wp2_with (first
      | (go_at_call 69; (with_reducible refine (HW.out _).mono ?_); rintro e w1 ⟨rfl, hb⟩; have HB1 := Lib.hid hb; clear hb))
    go_ret
    exact ⟨ret_int (by rw [HL.out, if_pos h8]; rfl), HB1.out.alloc HB1.out.size _⟩
  · have hne : ¬ (q : Int) = 16 := by have := HM.out; have := HR.out; omega
    go_enter Tryz.func89, Tryz.ntmps89
    go_wp2_with (first
      | (go_at_call 69; (with_reducible refine (HW.out _).mono ?_); rintro e w1 ⟨rfl, hb⟩; have HB1 := Lib.hid hb; clear hb)
      | (go_at_call 70; (with_reducible refine (HA.out _).mono ?_); rintro e w2 ⟨rfl, hb⟩; have HB2 := Lib.hid (bchain (HB1.out.alloc HB1.out.size _) hb); clear hb))
    go_ret
    exact ⟨ret_int (by rw [HL.out, if_neg h8]; omega), HB2.out⟩
set_option maxRecDepth 8000 in
theorem begin_any (n : Int) (h : I63 n) (w : World) : Calls Tryz.prog 38 #[.int .i64 n] w fun e w' => e = .returned (.int .i64 (beginN (nr n) : Int)) ∧ Below w.heap.size w w' := by
  have hle := nr_le n
  have HW : Hid (∀ w, Calls Tryz.prog 69 #[.int .i64 n] w fun e w' => e = .returned (.agg #[.int .i64 ((nr n / 52 : Nat) : Int), .int .i64 ((nr n % 52 : Nat) : Int)]) ∧ Below w.heap.size w w') := fun w => where_any n h w
  generalize nr n = a at *
  have hb := begin_le a hle
  have hmd := Nat.div_add_mod a 52
  obtain ⟨q, hq2⟩ : ∃ q, a / 52 = q := ⟨_, rfl⟩
  obtain ⟨r, hr2⟩ : ∃ r, a % 52 = r := ⟨_, rfl⟩
  have hr3 : r < 52 := by omega
  rw [hq2, hr2] at HW
  rw [hq2, hr2] at hmd
  have hbg : beginN a = if 41 < r then (q + 1) * 52 else a := by unfold beginN; rw [hq2, hr2]
  generalize beginN a = be at *
  clear hq2 hr2
  have hr4 : (r : Int) ≤ 51 := by omega
  have hq4 : (q : Int) ≤ 16 := by omega
  by_cases h4 : 41 < r
  · rw [if_pos h4] at hbg
    have HA : Hid (∀ w, Calls Tryz.prog 70 #[.agg #[.int .i64 ((q : Int) + 1), .int .i64 0]] w fun e w' => e = .returned (.int .i64 (be : Int)) ∧ Below w.heap.size w w') := fun w =>
      at_nat (q + 1) 0 be (by omega) (by omega) (by omega) (by omega) w
    clear hmd hb hbg
    go_enter Tryz.func38, Tryz.ntmps38
    go_wp2_with (first
      | (go_at_call 69; (with_reducible refine (HW.out _).mono ?_); rintro e w1 ⟨rfl, hb⟩; have HB1 := Lib.hid hb; clear hb)
      | (go_at_call 70; (with_reducible refine (HA.out _).mono ?_); rintro e w2 ⟨rfl, hb⟩; have HB2 := Lib.hid (bchain (HB1.out.alloc HB1.out.size _) hb); clear hb))
    go_ret
    exact ⟨rfl, HB2.out⟩
  · rw [if_neg h4] at hbg
    subst hbg
    have HA : Hid (∀ w, Calls Tryz.prog 70 #[.agg #[.int .i64 (q : Int), .int .i64 (r : Int)]] w fun e w' => e = .returned (.int .i64 (be : Int)) ∧ Below w.heap.size w w') := fun w =>
      at_nat q r be (by omega) (by omega) (by omega) (by omega) w
    clear hmd hb
    go_enter Tryz.func38, Tryz.ntmps38
    go_wp2_with (first
      | (go_at_call 69; (with_reducible refine (HW.out _).mono ?_); rintro e w1 ⟨rfl, hb⟩; have HB1 := Lib.hid hb; clear hb)
      | (go_at_call 70; (with_reducible refine (HA.out _).mono ?_); rintro e w2 ⟨rfl, hb⟩; have HB2 := Lib.hid (bchain (HB1.out.alloc HB1.out.size _) hb); clear hb))
    go_ret
    exact ⟨rfl, HB2.out⟩
end Go.Proofs.YtgegbpnmfpjdmaaGreatDoor
namespace Go.Proofs.YtgegbpnmfpjdmaaGreatDoor
open Go.RowKit
set_option maxRecDepth 8000 in
theorem kind_any (x y : Bool) (w : World) : Calls Tryz.prog 109 #[.bool x, .bool y] w fun e w' => e = .returned (.int .i64 (kindN x y)) ∧ w' = w := by
  cases x <;> cases y <;>
  · go_enter Tryz.func109, Tryz.ntmps109
    go_wp2
    go_ret
    exact ⟨rfl, rfl⟩
set_option maxRecDepth 8000 in
theorem room_any (n : Int) (h : I63 n) (w : World) : Calls Tryz.prog 65 #[.int .i64 n] w fun e w' => e = .returned (.int .i64 (roomI (nr n))) ∧ Below w.heap.size w w' := by
  have hle := nr_le n
  have hbl := begin_le _ hle
  have hll := left_le _ hbl
  have H1 : Hid (∀ w, Calls Tryz.prog 38 #[.int .i64 n] w fun e w' => e = .returned (.int .i64 (beginN (nr n) : Int)) ∧ Below w.heap.size w w') := fun w => begin_any n h w
  have hbr := begin_room _ hle
  obtain ⟨r, hr⟩ : ∃ r, roomI (nr n) = r := ⟨_, rfl⟩
  rw [hr]
  unfold roomI at hr
  generalize nr n = a at *
  generalize beginN a = b at *
  have H2 : Hid (∀ w, Calls Tryz.prog 89 #[.int .i64 (b : Int)] w fun e w' => e = .returned (.int .i64 (leftN b : Int)) ∧ Below w.heap.size w w') := fun w => by
    have := left_any b (by unfold I63; omega) w; rwa [nr_nat _ hbl] at this
  generalize leftN b = l at *
  clear h
  by_cases h8 : b = 832
  · subst h8
    rw [if_pos rfl] at hr
    subst hr
    go_enter Tryz.func65, Tryz.ntmps65
    go_wp2_with (first
      | (go_at_call 38; (with_reducible refine (H1.out _).mono ?_); rintro e w1 ⟨rfl, hb⟩; have HB1 := Lib.hid hb; clear hb))
    go_ret
    exact ⟨rfl, HB1.out⟩
  · rw [if_neg h8] at hr
    have hb8 : ¬ (b : Int) = 832 := by omega
    have hdv : ((832 : Int) - b - l).tdiv 208 = (((832 - b - l) / 208 : Nat) : Int) := by rw [Int.tdiv_eq_ediv_of_nonneg (by omega)]; omega
    obtain ⟨q, hq⟩ : ∃ q, (832 - b - l) / 208 = q := ⟨_, rfl⟩
    rw [hq] at hdv hr
    have hq4 : (q : Int) ≤ 4 := by omega
    have hl11 : (11 : Int) ≤ l := by omega
    have hsum : (b : Int) + l ≤ 832 := by omega
    have HR := Lib.hid hr
    clear hr hq hbr hll
    go_enter Tryz.func65, Tryz.ntmps65
    go_wp2_with (first
      | (go_at_call 38; (with_reducible refine (H1.out _).mono ?_); rintro e w1 ⟨rfl, hb⟩; have HB1 := Lib.hid hb; clear hb)
      | (go_at_call 89; (with_reducible refine (H2.out _).mono ?_); rintro e w2 ⟨rfl, hb⟩; have HB2 := Lib.hid (bch HB1.out hb); clear hb))
    go_ret
    exact ⟨ret_int (by rw [← HR.out]), HB2.out⟩
set_option maxRecDepth 8000 in
theorem fits_any (a n : Int) (ha : I63 a) (w : World) : Calls Tryz.prog 35 #[.int .i64 a, .int .i64 n] w fun e w' => e = .returned (.bool (fitI a n)) ∧ Below w.heap.size w w' := by
  have H1 : Hid (∀ w, Calls Tryz.prog 65 #[.int .i64 a] w fun e w' => e = .returned (.int .i64 (roomI (nr a))) ∧ Below w.heap.size w w') := fun w => room_any a ha w
  by_cases h0 : n < 0
  · rw [fitI_neg a n h0]
    clear ha
    go_enter Tryz.func35, Tryz.ntmps35
    go_wp2
    go_ret
    exact ⟨rfl, Below.refl _ _⟩
  · have h0' : 0 ≤ n := by omega
    have he : fitI a n = decide (n ≤ roomI (nr a)) := by unfold fitI; simp [h0']
    rw [he]
    generalize roomI (nr a) = r at *
    by_cases hc : n ≤ r
    · rw [decide_eq_true hc]
      clear ha he
      go_enter Tryz.func35, Tryz.ntmps35
      go_wp2_with (first
        | (go_at_call 65; (with_reducible refine (H1.out _).mono ?_); rintro e w1 ⟨rfl, hb⟩; have HB1 := Lib.hid hb; clear hb))
      go_ret
      exact ⟨by first | rfl | exact ret_bool (decide_eq_true hc), HB1.out⟩
    · rw [decide_eq_false hc]
      clear ha he
      go_enter Tryz.func35, Tryz.ntmps35
      go_wp2_with (first
        | (go_at_call 65; (with_reducible refine (H1.out _).mono ?_); rintro e w1 ⟨rfl, hb⟩; have HB1 := Lib.hid hb; clear hb))
      go_ret
      exact ⟨by first | rfl | exact ret_bool (decide_eq_false (by omega)), HB1.out⟩
end Go.Proofs.YtgegbpnmfpjdmaaGreatDoor
namespace Go.Proofs.YtgegbpnmfpjdmaaGreatDoor
open Go.RowKit
abbrev pL (p : PC) : List Value := [.int .i64 p.at_, .int .i64 p.kind, .int .i64 p.from_, .int .i64 p.to]
abbrev pV (p : PC) : Value := .agg #[.int .i64 p.at_, .int .i64 p.kind, .int .i64 p.from_, .int .i64 p.to]
def pF (l : List PC) : List Value := (l.map pL).flatten
theorem pF_length (l : List PC) : (pF l).length = l.length * 4 := by
  have := flat_length 4 (l.map pL) (fun e he => by obtain ⟨o, _, rfl⟩ := List.mem_map.1 he; rfl)
  simpa [pF] using this
theorem pF_snoc (l : List PC) (c : PC) : pF (l ++ [c]) = pF l ++ pL c := by simp [pF]
def PS (w : World) (v : Value) (l : List PC) : Prop := CS 4 w v l.length (pF l)
theorem PS.kin {w w' : World} (hb : Kin w w') {v : Value} {l : List PC} (h : PS w v l) : PS w' v l := CS.kin hb h
theorem PS.keep {w w' : World} {v : Value} {l : List PC} (h : PS w v l) (hb : Below w.heap.size w w') : PS w' v l := h.kin (Kin.below hb)
theorem PS.form {w : World} {v : Value} {l : List PC} (h : PS w v l) : ∃ a cap, v = .slice a l.length cap ∧ l.length ≤ cap ∧ cap ≤ 9223372036854775807 ∧ (a = none → cap = 0) := CS.form h
theorem PS.at_ {w : World} {a : Option Addr} {n cap : Nat} {l : List PC} (h : PS w (.slice a n cap) l) (i : Nat) (o : PC) (ho : l[i]? = some o) :
    ∃ b off, a = some ⟨b, off, none⟩ ∧ w.rangeAt b (off + i * 4) (pL o) := by
  obtain ⟨hi, _⟩ := List.getElem?_eq_some_iff.1 ho
  have hn : n = l.length := by obtain ⟨_, _, hv, _⟩ := id h; simp at hv; exact hv.2.1
  subst hn
  obtain ⟨b, off, rfl, hc⟩ := CS.at_ h i hi
  refine ⟨b, off, rfl, fun j v hv => ?_⟩
  have hj : j < 4 := (List.getElem?_eq_some_iff.1 hv).1
  have h7 := flat_get 4 (l.map pL) i j (fun e he => by obtain ⟨o, _, rfl⟩ := List.mem_map.1 he; rfl) hj (pL o) (by simp [ho])
  exact ((hc j hj).trans h7).trans hv
theorem PS.own {w : World} {base : Nat} {e : TypeId} {v : Value} {l : List PC} (h : w.ownsRow base e 4 v l.length (pF l)) : PS w v l := CS.own h
theorem PS.nil (w : World) : PS w (.slice none 0 0) [] := ⟨none, 0, rfl, rfl, Nat.le_refl _, by omega, fun _ => rfl, fun h => absurd h (by simp)⟩
theorem pc_cells {w : World} {b o : Nat} {c : PC} (h : w.rangeAt b o (pL c)) : w.cell? ⟨b, o, none⟩ = some (.int .i64 c.at_) ∧ w.cell? ⟨b, o + 1, none⟩ = some (.int .i64 c.kind) ∧ w.cell? ⟨b, o + 2, none⟩ = some (.int .i64 c.from_) ∧ w.cell? ⟨b, o + 3, none⟩ = some (.int .i64 c.to) :=
  ⟨h 0 _ rfl, h 1 _ rfl, h 2 _ rfl, h 3 _ rfl⟩
theorem pc_info : (Tryz.prog.info? 83).map (·.size) = some 4 := by kernel_rfl
theorem wpl_load_pc {w : World} {ops : Array Oper} {rest : List Oper} {o : Oper} {a : Act} {Q : Exit → Act → World → Prop} (hgd : o.guard = none) {b off : Nat} {c : PC} (x : Operand) (ho : o.op = .load 83 x) (hx : a.eval x = .pointer (some ⟨b, off, none⟩)) (h : w.rangeAt b off (pL c))
    (hk : wpList Tryz.prog ops Q rest (a.put o.dst (pV c)) w) : wpList Tryz.prog ops Q (o :: rest) a w :=
  wpList_load_mid hgd 83 x ho b off hx (pL c) _ h Tryz.underlying83 rfl pc_info hk
theorem pc_parts : (Tryz.prog.info? 83).map (fun i => (i.zero, i.size, i.bytes)) = some (some (.agg #[.int .i64 0, .int .i64 0, .int .i64 0, .int .i64 0]), 4, 32) := by kernel_rfl
section
variable {w : World} {ops : Array Oper} {rest : List Oper} {o : Oper} {a : Act} {Q : Exit → Act → World → Prop}
theorem blk_news {g : Nat} {c : PC} (hblk : w.heap[g]? = some (.cells (pL c).toArray 83 (0, 0))) (j : Nat) (u : Value) (hj : (pL c)[j]? = some u) : w.cell? ((⟨g, 0, none⟩ : Addr).add j) = some u := by
  have hc : w.cell? ⟨g, j, none⟩ = some u := by rw [cell_of_row _ g j _ _ _ hblk]; simpa using hj
  by_cases h0 : j = 0
  · subst h0; simpa [Addr.add] using hc
  · simpa [Addr.add, h0] using hc
theorem wpl_app_pc (hgd : o.guard = none) (s x : Operand)
    (ho : o.op = .call { callee := .builtin .append, args := #[s, x], argTypes := #[39, 39] })
    (base : Nat) (v : Value) (n : Nat) (l : List PC) (hs : a.eval s = v) (hown : Hid (w.ownsRow base 83 4 v n (pF l)))
    (g : Nat) (c : PC) (hx : a.eval x = .slice (some ⟨g, 0, none⟩) 1 1) (hblk : w.heap[g]? = some (.cells (pL c).toArray 83 (0, 0))) (hn : n ≤ 1000000)
    (B : Nat) (W : World) (hb : Hid (Below B W w)) (hB : B ≤ base) (hbase : base ≤ w.heap.size)
    (h : ∀ v' w', Hid (w'.ownsRow base 83 4 v' (n + 1) (pF (l ++ [c]))) → Hid (Below B W w') → Hid (w.grownBy w' v.ownBlock) → wpList Tryz.prog ops Q rest (a.put o.dst v') w') : wpList Tryz.prog ops Q (o :: rest) a w := by
  obtain ⟨i, hi, hz0, hz1, hz2⟩ := info_parts pc_parts
  refine wpList_append_own_wide w hgd s x 39 ho base 83 i _ 4 32 Tryz.underlying39 hi hz0 hz1 hz2 rfl (by omega) v n (pF l) hs hown.out ⟨g, 0, none⟩ 1 1 (pL c) hx (by simp) (blk_news hblk) (by simp [Value.oneCell']) (by unfold maxLen; omega) (by omega) hbase ?_
  intro v' w' h1 h2 _
  exact h v' w' (by rw [pF_snoc]; exact h1) (hb.out.grown h2 (by omega) (fun q hq => by have := (hown.out.lt q hq).1; omega)) h2
theorem wp_app_pc {K : Act → World → Prop} (s x : Operand)
    (ho : o.op = .call { callee := .builtin .append, args := #[s, x], argTypes := #[39, 39] })
    (base : Nat) (v : Value) (n : Nat) (l : List PC) (hs : a.eval s = v) (hown : w.ownsRow base 83 4 v n (pF l))
    (g : Nat) (c : PC) (hx : a.eval x = .slice (some ⟨g, 0, none⟩) 1 1) (hblk : w.heap[g]? = some (.cells (pL c).toArray 83 (0, 0))) (hn : n ≤ 1000000) (hbase : base ≤ w.heap.size)
    (h : ∀ v' w', Hid (w'.ownsRow base 83 4 v' (n + 1) (pF (l ++ [c]))) → Hid (w.grownBy w' v.ownBlock) → K (a.put o.dst v') w') : Oper.wp Tryz.prog o a w K Q := by
  obtain ⟨i, hi, hz0, hz1, hz2⟩ := info_parts pc_parts
  refine wp_append_own_wide w s x 39 ho base 83 i _ 4 32 Tryz.underlying39 hi hz0 hz1 hz2 rfl (by omega) v n (pF l) hs hown ⟨g, 0, none⟩ 1 1 (pL c) hx (by simp) (blk_news hblk) (by simp [Value.oneCell']) (by unfold maxLen; omega) (by omega) hbase ?_
  intro v' w' h1 h2 _
  exact h v' w' (by rw [pF_snoc]; exact h1) h2
end
end Go.Proofs.YtgegbpnmfpjdmaaGreatDoor
