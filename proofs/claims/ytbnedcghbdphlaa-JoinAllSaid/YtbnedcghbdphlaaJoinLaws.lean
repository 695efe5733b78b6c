/-
  awake OF LAYER 15, AND THE WALK OF JoinAll: whatever fragments come in: the call returns true and changes nothing that was there.
-/
import Derived.Test.YtbnedcghbdphlaaJoinJoin
import Derived.Test.YtbnedcghbdphlaaJoinRefJ
import Derived.Test.YtbnedcghbdphlaaFieldSame
namespace Go.Proofs.Ytbnedcghbdphlaa
open Go.RowKit
abbrev abL : List (List Int × Value) → List (List Int) := List.map Prod.fst
theorem awake_if (w : World) : IF (((w.alloc (.cells #[.int .u8 97] 5 (1, 2))).alloc (.cells #[.int .u8 98] 5 (1, 2))).alloc (.cells #[.int .i64 2, .int .u32 0, .slice (some ⟨w.heap.size, 0, none⟩) 1 1, .int .i64 4, .int .u32 0, .slice (some ⟨w.heap.size + 1, 0, none⟩) 1 1] 34))
    (.slice (some ⟨w.heap.size + 1 + 1, 0, none⟩) 2 2) 2 [(⟨2, 0, [97]⟩, .slice (some ⟨w.heap.size, 0, none⟩) 1 1), (⟨4, 0, [98]⟩, .slice (some ⟨w.heap.size + 1, 0, none⟩) 1 1)] := by
  obtain ⟨h1, h2, h3⟩ := alloc3 w (.cells #[.int .u8 97] 5 (1, 2)) (.cells #[.int .u8 98] 5 (1, 2)) (.cells #[.int .i64 2, .int .u32 0, .slice (some ⟨w.heap.size, 0, none⟩) 1 1, .int .i64 4, .int .u32 0, .slice (some ⟨w.heap.size + 1, 0, none⟩) 1 1] 34)
  generalize ((w.alloc (.cells #[.int .u8 97] 5 (1, 2))).alloc (.cells #[.int .u8 98] 5 (1, 2))).alloc (.cells #[.int .i64 2, .int .u32 0, .slice (some ⟨w.heap.size, 0, none⟩) 1 1, .int .i64 4, .int .u32 0, .slice (some ⟨w.heap.size + 1, 0, none⟩) 1 1] 34) = w1 at h1 h2 h3 ⊢
  refine ⟨⟨_, 2, rfl, rfl, by omega, by omega, fun e => by simp at e, fun _ => ⟨_, 0, rfl, fun j hj => ?_⟩⟩, fun e he => ?_⟩
  · rw [Nat.zero_add, cell_of_row w1 _ j _ _ _ h3]
    match j, hj with
    | 0, _ => rfl
    | 1, _ => rfl
    | 2, _ => rfl
    | 3, _ => rfl
    | 4, _ => rfl
    | 5, _ => rfl
  · simp only [List.mem_cons, List.not_mem_nil, or_false] at he
    rcases he with rfl | rfl
    · refine ⟨_, 1, rfl, rfl, by simp, by omega, fun e => by simp at e, fun _ => ⟨_, 0, rfl, fun j hj => ?_⟩⟩
      obtain rfl : j = 0 := by simp at hj; exact hj
      exact Joins.cell_of_block h1 0
    · refine ⟨_, 1, rfl, rfl, by simp, by omega, fun e => by simp at e, fun _ => ⟨_, 0, rfl, fun j hj => ?_⟩⟩
      obtain rfl : j = 0 := by simp at hj; exact hj
      exact Joins.cell_of_block h2 0
set_option maxRecDepth 8000 in
theorem awake_any (w : World) : Calls Try.prog 6 #[] w fun e w' => e = .returned (.bool true) ∧ Below w.heap.size w w' := by
  have HA := Lib.hid (awake_if w)
  have HB := Lib.hid (kbelow3 w (.cells #[.int .u8 97] 5 (1, 2)) (.cells #[.int .u8 98] 5 (1, 2)) (.cells #[.int .i64 2, .int .u32 0, .slice (some ⟨w.heap.size, 0, none⟩) 1 1, .int .i64 4, .int .u32 0, .slice (some ⟨w.heap.size + 1, 0, none⟩) 1 1] 34))
  have HJ : Hid (∀ W, IF W (.slice (some ⟨w.heap.size + 1 + 1, 0, none⟩) 2 2) 2 [(⟨2, 0, [97]⟩, .slice (some ⟨w.heap.size, 0, none⟩) 1 1), (⟨4, 0, [98]⟩, .slice (some ⟨w.heap.size + 1, 0, none⟩) 1 1)] →
      Calls Try.prog 11 #[.slice (some ⟨w.heap.size + 1 + 1, 0, none⟩) 2 2] W fun e w' =>
        ∃ b off cap x c, e = .returned (.tuple #[.slice (some ⟨b, off, none⟩) 1 cap, .int .i64 0]) ∧ w'.cell? ⟨b, off, none⟩ = some (.slice x 2 c) ∧ (convert 26 9 (.slice x 2 c)).run Try.prog w' = .ok (.string ⟨#[97, 98]⟩) w' ∧ Below W.heap.size W w') := Lib.hid fun W h =>
    (join_any _ 2 _ W h (by omega)).mono fun e w' ⟨u, rs, h1, h2, h3, h4⟩ => by
      have e0 : jRun false [] [] (List.map Prod.fst [((⟨2, 0, [97]⟩ : FR), Value.slice (some ⟨w.heap.size, 0, none⟩) 1 1), (⟨4, 0, [98]⟩, .slice (some ⟨w.heap.size + 1, 0, none⟩) 1 1)]) = ([[97, 98]], 0) := by simp only [List.map]; decide
      rw [e0] at h1 h3
      have hr := h2.rl
      rw [h3] at hr
      have h5 : rs.length = 1 := by have := congrArg List.length h3; simpa using this
      rw [h5] at hr
      obtain ⟨a, cap, rfl, _⟩ := hr.form
      obtain ⟨b, off, rfl, hc⟩ := hr.at_ (by omega)
      obtain ⟨x, c, hc1, hc2⟩ := hc 0 (by omega)
      exact ⟨b, off, cap, x, c, h1, hc1, conv_ri hc2, h4⟩
  have c1 := Go.Joins.run_convert_bytes_const_at (P := Try.prog) w 26 5 #[.int .u8 97] 1 1 w.heap.size rfl Try.underlying26 Try.underlying5
  have c2 := Go.Joins.run_convert_bytes_const_at (P := Try.prog) (w.alloc (.cells #[.int .u8 97] 5 (1, 2))) 26 5 #[.int .u8 98] 1 1 (w.heap.size + 1) (by simp) Try.underlying26 Try.underlying5
  go_enter Try.func6, Try.ntmps6
  go_wp2_with (first
    | (go_at_call 11; (with_reducible refine (HJ.out _ HA.out).mono ?_); rintro e w1 ⟨b, off, cap, x, c, rfl, hc, hs, hb⟩; have HB1 := Lib.hid (bch HB.out hb); clear hb))
  go_ret
  exact ⟨rfl, HB1.out⟩
set_option maxRecDepth 8000 in
set_option maxHeartbeats 800000 in
theorem all_walk (v : Value) (n : Nat) (es : List (FR × Value)) (W : World) (hif : IF W v n es) (hsz : ∀ e ∈ es, (e.1.data.length : Int) ≤ 140737488351232) (hbs : ∀ e ∈ es, isB e.1.data) :
    Calls Try.prog 4 #[v] W fun e w' => e = .returned (.bool true) ∧ Below W.heap.size W w' := by
  have HI := Lib.hid hif
  obtain ⟨la, lc, rfl, _⟩ := hif.form
  by_cases hbig : (n : Int) > 200
  · clear hif hsz hbs
    go_enter Try.func4, Try.ntmps4
    go_wp2_with (first
      | (go_at_call 6; (with_reducible refine (awake_any _).mono ?_); rintro e w5 ⟨rfl, hb⟩; have HB5 := Lib.hid hb; clear hb))
    go_ret
    exact ⟨rfl, HB5.out⟩
  · have hrb := jRun_isB (es.map Prod.fst) false [] [] isB.nil (by simp) (fun f hf => by obtain ⟨e, he, rfl⟩ := List.mem_map.1 hf; exact hbs e he)
    obtain ⟨⟨R1, R2⟩, hR⟩ : ∃ R, jRun false [] [] (es.map Prod.fst) = R := ⟨_, rfl⟩
    rw [hR] at hrb
    simp only at hrb
    have H1 : Hid (∀ w, Below W.heap.size W w → Calls Try.prog 11 #[.slice la n lc] w fun e w' => ∃ u, e = .returned (.tuple #[u, .int .i64 R2]) ∧ RL .u8 w' u R1.length R1 ∧ Below w.heap.size w w') := Lib.hid fun w hb =>
      (join_any _ n es w (hif.keep hb) (by omega)).mono fun e w' ⟨u, rs, h1, h2, h3, h4⟩ => by
        rw [hR] at h1 h3
        have hr := h2.rl
        simp only at h3
        rw [h3] at hr
        exact ⟨u, h1, by rw [← h3, List.length_map]; rw [← h3] at hr; exact hr, h4⟩
    have H2 : Hid (∀ w, Below W.heap.size W w → Calls Try.prog 12 #[.slice la n lc] w fun e w' => ∃ u, e = .returned (.tuple #[u, .int .i64 R2]) ∧ RL .u8 w' u R1.length R1 ∧ Below w.heap.size w w') := Lib.hid fun w hb =>
      (rjoin_any _ n es w (hif.keep hb) (by omega) hsz).mono fun e w' ⟨u, rs, h1, h2, h3, h4⟩ => by
        rw [hR] at h1 h3
        have hr := h2.rl
        simp only at h3
        rw [h3] at hr
        exact ⟨u, h1, by rw [← h3, List.length_map]; rw [← h3] at hr; exact hr, h4⟩
    have H3 : Hid (∀ (a b : Value) (w : World), RL .u8 w a R1.length R1 → RL .u8 w b R1.length R1 → Calls Try.prog 13 #[a, b] w fun e w' => e = .returned (.bool true) ∧ Below w.heap.size w w') := Lib.hid fun a b w h1 h2 =>
      (same_any a b _ _ R1 R1 w h1 h2 hrb hrb).mono fun e w' ⟨g1, g2⟩ => ⟨by rw [g1]; simp, g2⟩
    clear hif hsz hbs hrb hR
    go_enter Try.func4, Try.ntmps4
    go_wp2_with (first
      | (go_at_call 11; (with_reducible refine (H1.out _ (Below.refl _ _)).mono ?_); rintro e w1 ⟨u1, rfl, hr1, hb1⟩; have HR1 := Lib.hid hr1; have HB1 := Lib.hid hb1; clear hr1 hb1)
      | (go_at_call 12; (with_reducible refine (H2.out _ HB1.out).mono ?_); rintro e w2 ⟨u2, rfl, hr2, hb2⟩; have HR1 := Lib.hid (HR1.out.keep hb2); have HR2 := Lib.hid hr2; have HB2 := Lib.hid (bch HB1.out hb2); clear hr2 hb2)
      | (go_at_call 13; (with_reducible refine (H3.out _ _ _ HR1.out HR2.out).mono ?_); rintro e w3 ⟨rfl, hb3⟩; have HB3 := Lib.hid (bch HB2.out hb3); clear hb3)
      | (go_at_call 6; (with_reducible refine (awake_any _).mono ?_); rintro e w5 ⟨rfl, hb⟩; have HB5 := Lib.hid (bch HB3.out hb); clear hb))
    go_ret
    exact ⟨rfl, HB5.out⟩
end Go.Proofs.Ytbnedcghbdphlaa
