/-
  awake OF LAYER 19: it answers true and changes nothing that was there; Few. The table of half a byte's steps must lie in its block as start-up lays it.
-/
import Derived.Test.YthickhfbllddjaaDoorJA
import Derived.Test.YthickhfbllddjaaDoorJC
import Derived.Test.YthickhfbllddjaaDoorJE
import Derived.Test.YthickhfbllddjaaDoorJoinRefF
namespace Go.Proofs.YthickhfbllddjaaDoor
open Go.RowKit
theorem SR.rl_ {base : Nat} {w : World} {v bl : Value} {es : List (List Int × Value)} {R : List (List Int)} (r : SR base w v es.length es bl) (h : es.map Prod.fst = R) : RL .u8 w v R.length R := by
  have := r.rl
  rw [h] at this
  rwa [show es.length = R.length from by rw [← h, List.length_map]] at this
theorem sc_whole_bytes (x : Int) (zs : List Int) (h : isB zs) (n : Nat) : ∀ k, isB (wholeK x zs n k)
  | 0 => isB.nil
  | k + 1 => by
    unfold wholeK
    refine (sc_whole_bytes x zs h n k).append ?_
    split
    · exact (sealed_bytes x k _ (bytes_of_mem ((h.drop _).take _))).mem
    · intro y hy; have := List.eq_of_mem_replicate hy; omega
/-- a record that fits into what is left of its block -/
theorem sc_end_one {x : Int} {n : Nat} (hb : beginN (nr x) ≠ 832) (hn : n ≤ leftN (beginN (nr x)) - 11) : fitI x n = true ∧ endI x n = beginN (nr x) + 11 + n := by
  have h0 : Run (nr x) n 0 := Run.zero (nr_le x)
  have h1 := h0.next (.inl rfl) hb
  have hf : fS (nr x) n (0 + 1) = n := by
    rw [fS_next, fS_zero]
    show 0 + min (n - 0) (leftN (beginN (nr x)) - 11) = n
    omega
  obtain ⟨hfit, hc⟩ := h1.end_ (nr_le x) (by omega) hf
  have hcut := cuts_cnt (nr_le x) hfit
  rw [hc] at hcut
  obtain ⟨q1, _, q3⟩ := told_yes hcut hfit
  refine ⟨q1, q3.trans ?_⟩
  rw [pS_next, fS_zero]
  show beginN (nr x) + 11 + min (n - 0) (leftN (beginN (nr x)) - 11) = _
  omega
def scTwo : List (List Int) := [[97], [98, 99]]
theorem sc_two : fitsF scTwo = true ∧ endF scTwo = 25 := by
  have f0 : fitI ((0 : Nat) : Int) (1 : Nat) = true := by decide
  have f1 : fitI ((12 : Nat) : Int) (2 : Nat) = true := by decide
  have e1 : endF [[97]] = 12 := by
    have h := endF_snoc [] [97]
    rw [List.nil_append, endF_nil] at h
    rw [h]
    exact (sc_end_one (x := ((0 : Nat) : Int)) (n := 1) (by decide) (by decide)).2
  have g1 : fitsF [[97]] = true := by
    have h := fitsF_snoc [] [97]
    rw [List.nil_append] at h
    rw [h]
    have : fitsF [] = true := rfl
    rw [this, endF_nil]
    exact f0
  constructor
  · have h := fitsF_snoc [[97]] [98, 99]
    rw [show [[97]] ++ [[98, 99]] = scTwo from rfl] at h
    rw [h, g1, e1]
    exact f1
  · have h := endF_snoc [[97]] [98, 99]
    rw [show [[97]] ++ [[98, 99]] = scTwo from rfl, e1] at h
    rw [h]
    exact (sc_end_one (x := ((12 : Nat) : Int)) (n := 2) (by decide) (by decide)).2
theorem sc_two_isB : ∀ l ∈ scTwo, isB l := by
  intro l hl x hx
  simp only [scTwo, List.mem_cons, List.not_mem_nil, or_false] at hl
  rcases hl with rfl | rfl <;> simp at hx <;> omega
theorem awake_rl (w : World) : RL .u8 (((w.alloc (.cells #[.int .u8 97] 5 (1, 2))).alloc (.cells #[.int .u8 98, .int .u8 99] 5 (2, 3))).alloc (.cells #[.slice (some ⟨w.heap.size, 0, none⟩) 1 1, .slice (some ⟨w.heap.size + 1, 0, none⟩) 2 2] 38))
    (.slice (some ⟨w.heap.size + 1 + 1, 0, none⟩) 2 2) 2 scTwo := by
  obtain ⟨h1, h2, h3⟩ := alloc3 w (.cells #[.int .u8 97] 5 (1, 2)) (.cells #[.int .u8 98, .int .u8 99] 5 (2, 3)) (.cells #[.slice (some ⟨w.heap.size, 0, none⟩) 1 1, .slice (some ⟨w.heap.size + 1, 0, none⟩) 2 2] 38)
  generalize ((w.alloc (.cells #[.int .u8 97] 5 (1, 2))).alloc (.cells #[.int .u8 98, .int .u8 99] 5 (2, 3))).alloc (.cells #[.slice (some ⟨w.heap.size, 0, none⟩) 1 1, .slice (some ⟨w.heap.size + 1, 0, none⟩) 2 2] 38) = w1 at h1 h2 h3 ⊢
  refine ⟨[.slice (some ⟨w.heap.size, 0, none⟩) 1 1, .slice (some ⟨w.heap.size + 1, 0, none⟩) 2 2], ⟨_, 2, rfl, rfl, Nat.le_refl _, by omega, fun h => by simp at h, fun _ => ⟨w.heap.size + 1 + 1, 0, rfl, fun j hj => ?_⟩⟩, rfl, fun j e l he hl => ?_⟩
  · rw [Nat.zero_add, cell_of_row _ (w.heap.size + 1 + 1) j _ _ _ h3]; simp
  · match j, he, hl with
    | 0, he, hl =>
      simp [scTwo] at he hl
      subst he hl
      refine ⟨_, 1, rfl, rfl, by simp, by omega, fun e => by simp at e, fun _ => ⟨_, 0, rfl, fun j hj => ?_⟩⟩
      obtain rfl : j = 0 := by simp at hj; exact hj
      exact Joins.cell_of_block h1 0
    | 1, he, hl =>
      simp [scTwo] at he hl
      subst he hl
      refine ⟨_, 2, rfl, rfl, by simp, by omega, fun e => by simp at e, fun _ => ⟨_, 0, rfl, fun j hj => ?_⟩⟩
      match j, hj with
      | 0, _ => exact Joins.cell_of_block h2 0
      | 1, _ => exact Joins.cell_of_block h2 1
set_option maxRecDepth 8000 in
set_option maxHeartbeats 4000000 in
theorem awake_any (w : World) (hT : Tab w) : Calls Tryd.prog 6 #[] w fun e w' => e = .returned (.bool true) ∧ Below w.heap.size w w' := by
  have HA := Lib.hid (awake_rl w)
  have HB := Lib.hid (kbelow3 w (.cells #[.int .u8 97] 5 (1, 2)) (.cells #[.int .u8 98, .int .u8 99] 5 (2, 3)) (.cells #[.slice (some ⟨w.heap.size, 0, none⟩) 1 1, .slice (some ⟨w.heap.size + 1, 0, none⟩) 2 2] 38))
  have hu3 : U64 3 := by unfold U64; omega
  have HS : Hid (∀ W v, RL .u8 W v 2 scTwo → Calls Tryd.prog 12 #[.int .u64 3, v] W fun e w' =>
      ∃ v, e = .returned (.tuple #[v, .bool true]) ∧ FS w' v 16 (wholeK 3 (bodyF (3 % 4294967296) scTwo) (touchN 0 (endF scTwo)).2 16) ∧ Below W.heap.size W w') := Lib.hid fun W v h =>
    (rsectors_any 3 hu3 v 2 scTwo (by omega) sc_two_isB W h).mono fun e w' h => by
      rcases h with ⟨_, v, h1, h2, h3⟩ | ⟨h1, _⟩
      · exact ⟨v, h1, h2, h3⟩
      · rw [sc_two.1] at h1; cases h1
  have hbf : isB (wholeK 3 (bodyF (3 % 4294967296) scTwo) (touchN 0 (endF scTwo)).2 16) := by
    have hb0 := bodyF_bytes (ep := 3 % 4294967296) scTwo sc_two_isB scTwo.length (Nat.le_refl _)
    rw [List.take_length] at hb0
    exact sc_whole_bytes 3 _ hb0 _ 16
  have HC : Hid (∀ W v, Below w.heap.size w W → FS W v 16 (wholeK 3 (bodyF (3 % 4294967296) scTwo) (touchN 0 (endF scTwo)).2 16) → Calls Tryd.prog 7 #[.int .u64 3, v] W fun e w' =>
      ∃ b off cap pv pn pc x c, e = .returned (.agg (tA (.slice (some ⟨b, off, none⟩) 2 cap) (.slice pv pn pc) 25 1)) ∧ w'.cell? ⟨b, off + 1, none⟩ = some (.slice x 2 c) ∧ RI .u8 w' (.slice x 2 c) 2 [98, 99] ∧ Below W.heap.size W w') := Lib.hid fun W v hb h =>
    (scan_any 3 hu3 v 16 _ hbf W h (hT.keep hb)).mono fun e w' ⟨rv, pv, es, h1, h2, h3, h4, h5⟩ => by
      obtain ⟨t1, t2, t3, t4⟩ := told_whole hu3 (by decide) ((fitsF_iff scTwo).1 sc_two.1) (fun z hz => by simp only [scTwo, List.mem_cons, List.not_mem_nil, or_false] at hz; rcases hz with rfl | rfl <;> simp)
      have hr := h2.rl_ (h3.trans t1)
      obtain ⟨a, cap, rfl, _⟩ := hr.form
      obtain ⟨b, off, rfl, hc⟩ := hr.at_ (by decide)
      obtain ⟨x, c, hc1, hc2⟩ := hc 1 (by decide)
      obtain ⟨pa, pc, rfl⟩ := own_form h4
      refine ⟨b, off, cap, pa, (scOf 3 16 (wholeK 3 (bodyF (3 % 4294967296) scTwo) (touchN 0 (endF scTwo)).2 16)).places.length, pc, x, c, ?_, hc1, hc2, h5⟩
      rw [h1]
      unfold scOf
      rw [t3, sc_two.2]
      rw [sc_two.2] at t4
      rw [t4]
      rfl
  have c1 := Go.Joins.run_convert_bytes_const_at (P := Tryd.prog) w 38 5 #[.int .u8 97] 1 1 w.heap.size rfl Tryd.underlying38 Tryd.underlying5
  have c2 := Go.Joins.run_convert_bytes_const_at (P := Tryd.prog) (w.alloc (.cells #[.int .u8 97] 5 (1, 2))) 38 5 #[.int .u8 98, .int .u8 99] 2 2 (w.heap.size + 1) (by simp) Tryd.underlying38 Tryd.underlying5
  clear hu3 hbf hT
  go_enter Tryd.func6, Tryd.ntmps6
  go_wp2_with (first
    | (go_at_call 12; (refine (HS.out _ _ HA.out).mono ?_); rintro e w1 ⟨v1, rfl, hs, hb⟩; have HS1 := Lib.hid hs; have HB1 := Lib.hid (bch HB.out hb); clear hs hb)
    | (go_at_call 7; (refine (HC.out _ _ HB1.out HS1.out).mono ?_); rintro e w2 ⟨b, off, cap, pv, pn, pc, x, c, rfl, hc, hr, hb⟩; have HB2 := Lib.hid (bch HB1.out hb); obtain ⟨w3, hw3⟩ : ∃ q, w2.alloc (.cells (tA (.slice (some ⟨b, off, none⟩) 2 cap) (.slice pv pn pc) 25 1) 28) = q := ⟨_, rfl⟩; have hk3 : w3.heap[w2.heap.size]? = some (.cells (tA (.slice (some ⟨b, off, none⟩) 2 cap) (.slice pv pn pc) 25 1) 28 (0, 0)) := (by rw [← hw3]; exact heap_alloc_last w2 _); have hb3 : Below w2.heap.size w2 w3 := (by rw [← hw3]; exact balloc _ _); have HB3 := Lib.hid (bch HB2.out hb3); have y0 : w3.cell? ⟨w2.heap.size, 0, none⟩ = some (.slice (some ⟨b, off, none⟩) 2 cap) := cell_of_row w3 w2.heap.size 0 _ _ _ hk3; have y2 : w3.cell? ⟨w2.heap.size, 2, none⟩ = some (.int .i64 25) := cell_of_row w3 w2.heap.size 2 _ _ _ hk3; have y3 : w3.cell? ⟨w2.heap.size, 3, none⟩ = some (.int .i64 1) := cell_of_row w3 w2.heap.size 3 _ _ _ hk3; have hc3 := cell_keep hb3 hc; have hs3 : (convert 38 9 (.slice x 2 c)).run Tryd.prog w3 = .ok (.string ⟨#[98, 99]⟩) w3 := conv_ri (hr.keep hb3); clear hk3 hb3 hc hr hb))
  go_ret
  exact ⟨rfl, HB3.out⟩
/-- few and short -/
def fewB (ls : List (List Int)) : Bool := ls.all (fun l => decide (l.length ≤ 512)) && decide (ls.length ≤ 100)
set_option maxRecDepth 8000 in
set_option maxHeartbeats 2000000 in
theorem few_any (v : Value) (n : Nat) (ls : List (List Int)) (w : World) (h : RL .u8 w v n ls) : Calls Tryd.prog 13 #[v] w fun e w' => e = .returned (.bool (fewB ls)) ∧ Below w.heap.size w w' := by
  have hle := h.le
  have HL := Lib.hid h.length
  have HH := Lib.hid h
  obtain ⟨a, cap, rfl, _⟩ := h.form
  clear h
  go_enter Tryd.func13, Tryd.ntmps13
  go_wp2
  go_loopw [3] (fun iv wr => ∃ i : Nat, iv = .int .i64 (i : Int) ∧ i ≤ n ∧ Hid (∀ j, j < i → (ls.getD j []).length ≤ 512) ∧ Hid (Below w.heap.size w wr)) (fun iv _ => n - (intOf iv).toNat)
  case atStart => exact ⟨0, rfl, by omega, Lib.hid (fun j hj => absurd hj (by omega)), Lib.hid (Below.refl _ _)⟩
  case round =>
    obtain ⟨i, rfl, hi, HA, HB⟩ := hrel
    by_cases hlt : (i : Int) < (n : Int)
    · obtain ⟨b, off, rfl, hat⟩ := (HH.out.keep HB.out).at_ (by omega)
      obtain ⟨x, c, hc, _⟩ := hat i (by omega)
      obtain ⟨m, hm⟩ : ∃ m, (ls.getD i []).length = m := ⟨_, rfl⟩
      rw [hm] at hc
      have HM := Lib.hid hm
      clear hat hm
      by_cases h5 : (m : Int) > 512
      · have HNO : Hid (fewB ls = false) := Lib.hid (by
          unfold fewB
          have : ls.all (fun l => decide (l.length ≤ 512)) = false := by
            rw [Bool.eq_false_iff]
            intro hh
            have := List.all_eq_true.1 hh (ls.getD i []) (by simp [List.getD, show i < ls.length by rw [HL.out]; omega])
            have := of_decide_eq_true this
            rw [HM.out] at this
            omega
          rw [this]; rfl)
        go_wp2
        (first | go_ret2 | go_ret3 | go_ret)
        exact ⟨ret_bool HNO.out.symm, HB.out⟩
      · have HAN : Hid (∀ j, j < i + 1 → (ls.getD j []).length ≤ 512) := Lib.hid (fun j hj => by
          by_cases ej : j = i
          · rw [ej, HM.out]; omega
          · exact HA.out j (by omega))
        go_wp2
        go_roundw
        case rel => exact ⟨i + 1, by go_num, by omega, HAN, HB⟩
        case measure => simp [intOf]; omega
    · have HALL : Hid (fewB ls = decide ((n : Int) ≤ 100)) := Lib.hid (by
        unfold fewB
        have : ls.all (fun l => decide (l.length ≤ 512)) = true := List.all_eq_true.2 fun l hl => by
          obtain ⟨j, hj, rfl⟩ := List.getElem_of_mem hl
          have := HA.out j (by rw [HL.out] at hj; omega)
          simp only [List.getD, List.getElem?_eq_getElem hj, Option.getD_some] at this
          exact decide_eq_true this
        rw [this, HL.out, Bool.true_and]
        exact decide_eq_decide.2 (by omega))
      go_wp2
      go_ret
      exact ⟨ret_bool (by rw [HALL.out]), HB.out⟩
theorem fewB_parts {ls : List (List Int)} (h : fewB ls = true) : ls.length ≤ 100 ∧ ∀ z ∈ ls, z.length ≤ 512 := by
  unfold fewB at h
  rw [Bool.and_eq_true] at h
  exact ⟨of_decide_eq_true h.2, fun z hz => of_decide_eq_true (List.all_eq_true.1 h.1 z hz)⟩
end Go.Proofs.YthickhfbllddjaaDoor
