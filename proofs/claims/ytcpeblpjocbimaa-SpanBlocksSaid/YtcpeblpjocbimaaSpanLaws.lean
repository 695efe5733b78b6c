/-
  THE WALKS OF THE LAWS SpanTouches, SpanBlocks, SpanPlaces: whatever places come in: the call returns true and changes nothing that was there.
-/
import Derived.Test.YtcpeblpjocbimaaSpanCode
import Derived.Laws.StructEq
namespace Go.Proofs.Ytcpeblpjocbimaa
open Go.RowKit
theorem chain {a b c : World} (h : Below a.heap.size a b) (k : Below b.heap.size b c) : Below a.heap.size a c := h.trans (k.mono h.size)
set_option maxRecDepth 8000 in
theorem awake_any (w : World) : Calls Try.prog 10 #[] w fun e w' => e = .returned (.bool true) ∧ Below w.heap.size w w' := by
  have H1 : Hid (∀ w, Calls Try.prog 6 #[.int .i64 52] w fun e w' => e = .returned (.agg #[.int .i64 1, .int .i64 0]) ∧ Below w.heap.size w w') := fun w => where_any 52 (by unfold I63; omega) w
  have H2 : Hid (∀ w, Calls Try.prog 11 #[.int .i64 200] w fun e w' => e = .returned (.int .i64 208) ∧ Below w.heap.size w w') := fun w => begin_any 200 (by unfold I63; omega) w
  have H3 : Hid (∀ w, Calls Try.prog 12 #[.int .i64 0] w fun e w' => e = .returned (.int .i64 208) ∧ Below w.heap.size w w') := fun w => left_any 0 (by unfold I63; omega) w
  go_enter Try.func10, Try.ntmps10
  go_wp2_with (first
    | (go_at_call 6; (with_reducible refine (H1.out _).mono ?_); rintro e w1 ⟨rfl, hb⟩; have HB1 := Lib.hid hb; clear hb)
    | (go_at_call 11; (with_reducible refine (H2.out _).mono ?_); rintro e w2 ⟨rfl, hb⟩; have HB2 := Lib.hid (chain HB1.out hb); clear hb)
    | (go_at_call 12; (with_reducible refine (H3.out _).mono ?_); rintro e w3 ⟨rfl, hb⟩; have HB3 := Lib.hid (chain HB2.out hb); clear hb))
  go_ret
  exact ⟨rfl, HB3.out⟩
set_option maxRecDepth 8000 in
theorem touches_walk (n m : Int) (h : I63 n) (h2 : I63 m) (W : World) : Calls Try.prog 5 #[.int .i64 n, .int .i64 m] W fun e w' => e = .returned (.bool true) ∧ Below W.heap.size W w' := by
  have H1 : Hid (∀ w, Calls Try.prog 15 #[.int .i64 n, .int .i64 m] w fun e w' => e = .returned (.tuple #[.int .i64 ((touchN (nr n) (nr m)).1 : Int), .int .i64 ((touchN (nr n) (nr m)).2 : Int)]) ∧ Below w.heap.size w w') := fun w => touch_any n m h h2 w
  have H2 : Hid (∀ w, Calls Try.prog 16 #[.int .i64 n, .int .i64 m] w fun e w' => e = .returned (.tuple #[.int .i64 ((touchN (nr n) (nr m)).1 : Int), .int .i64 ((touchN (nr n) (nr m)).2 : Int)]) ∧ w' = w) := fun w => rtouch_any n m h h2 w
  generalize touchN (nr n) (nr m) = t at *
  go_enter Try.func5, Try.ntmps5
  go_wp2_with (first
    | (go_at_call 15; (with_reducible refine (H1.out _).mono ?_); rintro e w1 ⟨rfl, hb⟩; have HB1 := Lib.hid hb; clear hb)
    | (go_at_call 16; (with_reducible refine (H2.out _).mono ?_); rintro e w2 ⟨rfl, rfl⟩)
    | (go_at_call 10; (with_reducible refine (awake_any _).mono ?_); rintro e w3 ⟨rfl, hb⟩; have HB3 := Lib.hid (chain HB1.out hb); clear hb))
  go_ret
  exact ⟨rfl, HB3.out⟩
set_option maxRecDepth 8000 in
set_option maxHeartbeats 800000 in
theorem blocks_walk (n : Int) (h : I63 n) (W : World) : Calls Try.prog 4 #[.int .i64 n] W fun e w' => e = .returned (.bool true) ∧ Below W.heap.size W w' := by
  have hle := nr_le n
  have H1 : Hid (∀ w, Calls Try.prog 11 #[.int .i64 n] w fun e w' => e = .returned (.int .i64 (beginN (nr n) : Int)) ∧ Below w.heap.size w w') := fun w => begin_any n h w
  have H2 : Hid (∀ w, Calls Try.prog 12 #[.int .i64 n] w fun e w' => e = .returned (.int .i64 (leftN (nr n) : Int)) ∧ Below w.heap.size w w') := fun w => left_any n h w
  have H3 : Hid (∀ w, Calls Try.prog 13 #[.int .i64 n] w fun e w' => e = .returned (.int .i64 (leftN (nr n) : Int)) ∧ w' = w) := fun w => rleft_any n h w
  have H4 : Hid (∀ w, Calls Try.prog 14 #[.int .i64 n] w fun e w' => e = .returned (.int .i64 (beginN (nr n) : Int)) ∧ w' = w) := fun w => rbegin_any n h w
  generalize nr n = a at *
  have hbl := begin_le a hle
  have hba := begin_again a
  have hbr := begin_room a hle
  generalize beginN a = b at *
  have hbi : I63 (b : Int) := by unfold I63; omega
  have H5 : Hid (∀ w, Calls Try.prog 11 #[.int .i64 (b : Int)] w fun e w' => e = .returned (.int .i64 (b : Int)) ∧ Below w.heap.size w w') := fun w => by
    have := begin_any b hbi w; rwa [nr_nat _ hbl, hba] at this
  have H6 : Hid (∀ w, Calls Try.prog 12 #[.int .i64 (b : Int)] w fun e w' => e = .returned (.int .i64 (leftN b : Int)) ∧ Below w.heap.size w w') := fun w => by
    have := left_any b hbi w; rwa [nr_nat _ hbl] at this
  have H7 : Hid (∀ w, Calls Try.prog 6 #[.int .i64 (b : Int)] w fun e w' => e = .returned (.agg #[.int .i64 ((b / 52 : Nat) : Int), .int .i64 ((b % 52 : Nat) : Int)]) ∧ Below w.heap.size w w') := fun w => by
    have := where_any b hbi w; rwa [nr_nat _ hbl] at this
  generalize leftN a = la at *
  generalize leftN b = lb at *
  obtain ⟨o, ho⟩ : ∃ o, b % 52 = o := ⟨_, rfl⟩
  obtain ⟨s, hs⟩ : ∃ s, b / 52 = s := ⟨_, rfl⟩
  rw [ho, hs] at H7
  rw [ho] at hbr
  obtain ⟨B, hB⟩ : ∃ B, (b : Int) = B := ⟨_, rfl⟩
  rw [hB] at H1 H4 H5 H6 H7
  have hbr' : B = 832 ∨ (11 ≤ (lb : Int) ∧ (o : Int) ≤ 41) := by omega
  clear hba hbi ho hs h hB hbr hbl
  by_cases h832 : B = 832
  · subst h832
    go_enter Try.func4, Try.ntmps4
    go_wp2_with (first
      | (go_at_call 11; (with_reducible refine (H5.out _).mono ?_); rintro e w9 ⟨rfl, hb⟩; have HB9 := Lib.hid (chain HB2.out hb); clear hb)
      | (go_at_call 11; (with_reducible refine (H1.out _).mono ?_); rintro e w1 ⟨rfl, hb⟩; have HB1 := Lib.hid hb; clear hb)
      | (go_at_call 12; (with_reducible refine (H2.out _).mono ?_); rintro e w2 ⟨rfl, hb⟩; have HB2 := Lib.hid (chain HB1.out hb); clear hb)
      | (go_at_call 13; (with_reducible refine (H3.out _).mono ?_); rintro e w3 ⟨rfl, rfl⟩)
      | (go_at_call 14; (with_reducible refine (H4.out _).mono ?_); rintro e w4 ⟨rfl, rfl⟩)
      | (go_at_call 10; (with_reducible refine (awake_any _).mono ?_); rintro e w8 ⟨rfl, hb⟩; have HB8 := Lib.hid (chain HB9.out hb); clear hb))
    go_ret
    exact ⟨rfl, HB8.out⟩
  · have hl : 11 ≤ (lb : Int) := by omega
    have h41 : (o : Int) ≤ 41 := by omega
    have hfd : ∀ w : World, (Instr.field 23 (.agg #[.int .i64 (s : Int), .int .i64 (o : Int)]) 1).run Try.prog w = .ok (.int .i64 (o : Int)) w := fun _ => by kernel_rfl
    go_enter Try.func4, Try.ntmps4
    go_wp2_with (first
      | (go_at_call 11; (with_reducible refine (H5.out _).mono ?_); rintro e w9 ⟨rfl, hb⟩; have HB9 := Lib.hid (chain HB7.out hb); clear hb)
      | (go_at_call 11; (with_reducible refine (H1.out _).mono ?_); rintro e w1 ⟨rfl, hb⟩; have HB1 := Lib.hid hb; clear hb)
      | (go_at_call 12; (with_reducible refine (H2.out _).mono ?_); rintro e w2 ⟨rfl, hb⟩; have HB2 := Lib.hid (chain HB1.out hb); clear hb)
      | (go_at_call 12; (with_reducible refine (H6.out _).mono ?_); rintro e w6 ⟨rfl, hb⟩; have HB6 := Lib.hid (chain HB2.out hb); clear hb)
      | (go_at_call 6; (with_reducible refine (H7.out _).mono ?_); rintro e w7 ⟨rfl, hb⟩; have HB7 := Lib.hid (chain HB6.out hb); clear hb)
      | (go_at_call 13; (with_reducible refine (H3.out _).mono ?_); rintro e w3 ⟨rfl, rfl⟩)
      | (go_at_call 14; (with_reducible refine (H4.out _).mono ?_); rintro e w4 ⟨rfl, rfl⟩)
      | (go_at_call 10; (with_reducible refine (awake_any _).mono ?_); rintro e w8 ⟨rfl, hb⟩; have HB8 := Lib.hid (chain HB9.out hb); clear hb))
    go_ret
    exact ⟨rfl, HB8.out⟩
/-- a number as the nearer one of 0 and most -/
def cl (n : Int) (most : Nat) : Nat := (min (max n 0) most).toNat
theorem cl_le (n : Int) (most : Nat) : cl n most ≤ most := by unfold cl; omega
theorem at_cl (s o : Int) : atN s o = nr ((cl s 16 * 52 + cl o 52 : Nat) : Int) := by unfold atN nr cl; omega
theorem at_where (a : Nat) (h : a ≤ 832) : atN ((a / 52 : Nat) : Int) ((a % 52 : Nat) : Int) = a := by unfold atN; omega
set_option maxRecDepth 8000 in
set_option maxHeartbeats 1000000 in
theorem places_walk (n s o : Int) (h : I63 n) (hs : I63 s) (ho : I63 o) (W : World) : Calls Try.prog 3 #[.int .i64 n, .agg #[.int .i64 s, .int .i64 o]] W fun e w' => e = .returned (.bool true) ∧ Below W.heap.size W w' := by
  have hle := nr_le n
  have H1 : Hid (∀ w, Calls Try.prog 6 #[.int .i64 n] w fun e w' => e = .returned (.agg #[.int .i64 ((nr n / 52 : Nat) : Int), .int .i64 ((nr n % 52 : Nat) : Int)]) ∧ Below w.heap.size w w') := fun w => where_any n h w
  have H2 : Hid (∀ w, Calls Try.prog 7 #[.int .i64 n] w fun e w' => e = .returned (.tuple #[.int .i64 ((nr n / 52 : Nat) : Int), .int .i64 ((nr n % 52 : Nat) : Int)]) ∧ w' = w) := fun w => rwhere_any n h w
  have H3 : Hid (∀ w, Calls Try.prog 8 #[.agg #[.int .i64 ((nr n / 52 : Nat) : Int), .int .i64 ((nr n % 52 : Nat) : Int)]] w fun e w' => e = .returned (.int .i64 (nr n : Int)) ∧ Below w.heap.size w w') := fun w => by
    have := at_any ((nr n / 52 : Nat) : Int) ((nr n % 52 : Nat) : Int) (by unfold I63; omega) (by unfold I63; omega) w
    rwa [at_where _ hle] at this
  have H4 : Hid (∀ w, Calls Try.prog 9 #[.int .i64 n] w fun e w' => e = .returned (.int .i64 (nr n : Int)) ∧ w' = w) := fun w => near_any n h w
  have H5 : Hid (∀ w, Calls Try.prog 8 #[.agg #[.int .i64 s, .int .i64 o]] w fun e w' => e = .returned (.int .i64 (nr ((cl s 16 * 52 + cl o 52 : Nat) : Int) : Int)) ∧ Below w.heap.size w w') := fun w => by
    have := at_any s o hs ho w
    rwa [at_cl] at this
  generalize nr n = a at *
  obtain ⟨p, hp⟩ : ∃ p, a / 52 = p := ⟨_, rfl⟩
  obtain ⟨q, hq⟩ : ∃ q, a % 52 = q := ⟨_, rfl⟩
  rw [hp, hq] at H1 H2 H3
  clear hp hq hle
  go_enter Try.func3, Try.ntmps3
  go_wp2_with (first
    | (go_at_call 6; (with_reducible refine (H1.out _).mono ?_); rintro e w1 ⟨rfl, hb⟩; have HB1 := Lib.hid hb; clear hb)
    | (go_at_call 7; (with_reducible refine (H2.out _).mono ?_); rintro e w2 ⟨rfl, rfl⟩)
    | (go_at_call 8; (with_reducible refine (H3.out _).mono ?_); rintro e w3 ⟨rfl, hb⟩; have HB3 := Lib.hid hb; clear hb)
    | (go_at_call 9; (with_reducible refine (H4.out _).mono ?_); rintro e w4 ⟨rfl, rfl⟩))
  have HB0 := Lib.hid ((Below.refl W.heap.size W).alloc (Nat.le_refl _) (.cells #[.int .i64 s, .int .i64 o] 23))
  have HB2 := Lib.hid ((Below.refl w1.heap.size w1).alloc (Nat.le_refl _) (.cells #[.int .i64 (p : Int), .int .i64 (q : Int)] 23))
  have HB4 := Lib.hid (chain (chain (chain HB0.out HB1.out) HB2.out) HB3.out)
  have hk0 : (W.alloc (.cells #[.int .i64 s, .int .i64 o] 23)).heap[W.heap.size]? = some (.cells #[.int .i64 s, .int .i64 o] 23 (0, 0)) := by show (W.heap.push _)[W.heap.size]? = _; simp
  have hc0 : w4.cell? ⟨W.heap.size, 0, none⟩ = some (.int .i64 s) := cell_keep HB3.out (cell_keep HB2.out (cell_keep HB1.out (by rw [cell_of_row _ _ _ _ _ _ hk0]; rfl)))
  have hc1 : w4.cell? ⟨W.heap.size, 1, none⟩ = some (.int .i64 o) := cell_keep HB3.out (cell_keep HB2.out (cell_keep HB1.out (by rw [cell_of_row _ _ _ _ _ _ hk0]; rfl)))
  clear hk0 HB0 HB1 HB2 HB3
  have hs1 := cl_le s 16
  have ho1 := cl_le o 52
  go_loop [8, 9] (fun wv iv => ∃ i : Nat, iv = .int .i64 i ∧ wv = .int .i64 ((i * 52 : Nat) : Int) ∧ i ≤ cl s 16) (fun _ iv => 16 - (intOf iv).toNat)
  case atStart => exact ⟨0, rfl, rfl, by omega⟩
  case round =>
    obtain ⟨i, rfl, rfl, hi⟩ := hrel
    have HLT : Hid (i < cl s 16 ↔ ((i : Int) < s ∧ (i : Int) < 16)) := by show i < cl s 16 ↔ _; unfold cl; omega
    by_cases hlt : i < cl s 16
    · obtain ⟨g1, g2⟩ := HLT.out.1 hlt
      go_wp2
      go_round
      case rel => exact ⟨i + 1, by go_num, by first | (congr 1; omega) | congr 1, by omega⟩
      case measure => simp [intOf]; omega
    · have HI : Hid (i = cl s 16) := by show i = cl s 16; omega
      have hx : ¬ ((i : Int) < s ∧ (i : Int) < 16) := fun g => hlt (HLT.out.2 g)
      have hi16 : (i : Int) ≤ 16 := by omega
      rcases (by omega : ¬ (i : Int) < s ∨ ((i : Int) < s ∧ ¬ (i : Int) < 16)) with g1 | ⟨g1, g2⟩
      all_goals
        go_wp2
        go_loop [8, 10] (fun wv jv => ∃ j : Nat, jv = .int .i64 j ∧ wv = .int .i64 ((i * 52 + j : Nat) : Int) ∧ j ≤ cl o 52) (fun _ jv => 52 - (intOf jv).toNat)
        case atStart => exact ⟨0, rfl, rfl, by omega⟩
        case round =>
          obtain ⟨j, rfl, rfl, hj⟩ := hrel
          have HJT : Hid (j < cl o 52 ↔ ((j : Int) < o ∧ (j : Int) < 52)) := by show j < cl o 52 ↔ _; unfold cl; omega
          by_cases hjt : j < cl o 52
          · obtain ⟨k1, k2⟩ := HJT.out.1 hjt
            go_wp2
            go_round
            case rel => exact ⟨j + 1, by go_num, by first | (congr 1; omega) | congr 1, by omega⟩
            case measure => simp [intOf]; omega
          · have HJ : Hid (j = cl o 52) := by show j = cl o 52; omega
            have hy : ¬ ((j : Int) < o ∧ (j : Int) < 52) := fun g => hjt (HJT.out.2 g)
            have hj52 : (j : Int) ≤ 52 := by omega
            have HN5 : Hid (∀ w, Calls Try.prog 9 #[.int .i64 ((i : Int) * 52 + (j : Int))] w fun e w' => e = .returned (.int .i64 (nr ((cl s 16 * 52 + cl o 52 : Nat) : Int) : Int)) ∧ w' = w) := fun w => by
              have := near_any ((cl s 16 * 52 + cl o 52 : Nat) : Int) (by unfold I63; omega) w
              rw [← HI.out, ← HJ.out] at this ⊢
              have e : ((i * 52 + j : Nat) : Int) = (i : Int) * 52 + (j : Int) := by omega
              rw [e] at this ⊢
              exact this
            rcases (by omega : ¬ (j : Int) < o ∨ ((j : Int) < o ∧ ¬ (j : Int) < 52)) with k1 | ⟨k1, k2⟩
            all_goals
              go_wp2_with (first
                | (go_at_call 8; (with_reducible refine (H5.out _).mono ?_); rintro e w5 ⟨rfl, hb⟩; have HB5 := Lib.hid (chain HB4.out hb); clear hb)
                | (go_at_call 9; (with_reducible refine (HN5.out _).mono ?_); rintro e w6 ⟨rfl, rfl⟩)
                | (go_at_call 10; (with_reducible refine (awake_any _).mono ?_); rintro e w7 ⟨rfl, hb⟩; have HB7 := Lib.hid (chain HB5.out hb); clear hb))
              go_ret
              exact ⟨rfl, HB7.out⟩
end Go.Proofs.Ytcpeblpjocbimaa
