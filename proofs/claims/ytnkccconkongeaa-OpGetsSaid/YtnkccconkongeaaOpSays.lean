/-
  WHAT THE PROGRAM'S FUNCTIONS OF LAYER 10 (op) ANSWER, as contracts to be shown; 'awake' over them.
-/
import Derived.Test.YtnkccconkongeaaOpMath
import Derived.Test.YtnkccconkongeaaOpSame
namespace Go.Proofs.Ytnkccconkongeaa
open Go.RowKit
/-- the text of what a slice of bytes holds -/
theorem conv_ri {w : World} {v : Value} {n : Nat} {zs : List Int} (h : RI .u8 w v n zs) : (convert 22 9 v).run Try.prog w = .ok (.string (strOfNums zs)) w :=
  conv_of Try.underlying22 Try.underlying5 Try.underlying9 h
theorem text_append (a b : List Int) : strOfNums a ++ strOfNums b = strOfNums (a ++ b) := by
  show (⟨_⟩ : ByteArray) ++ ⟨_⟩ = ⟨_⟩
  apply ByteArray.ext
  simp
structure OpSays : Prop where
  right : ∀ (k : Int) (s t : ByteArray) (w : World), Calls Try.prog 7 #[.agg (oA k s t)] w fun e w' => e = .returned (.bool (opRight k s t)) ∧ Below w.heap.size w w'
  put : ∀ (v : Value) (len : Nat) (zs : List Int) (k : Int) (s t : ByteArray) (w : World), RI .u8 w v len zs → (len : Int) ≤ 150000000000000 → opRight k s t = true →
    Calls Try.prog 6 #[v, .agg (oA k s t)] w fun e w' => ∃ v', e = .returned (.tuple #[v', .int .i64 0]) ∧ w'.ownsRow w.heap.size 5 1 v' (zs ++ opB k s t).length (il .u8 (zs ++ opB k s t)) ∧ Below w.heap.size w w'
  wrong : ∀ (v : Value) (len : Nat) (zs : List Int) (k : Int) (s t : ByteArray) (w : World), RI .u8 w v len zs → (len : Int) ≤ 150000000000000 → opRight k s t = false →
    Calls Try.prog 6 #[v, .agg (oA k s t)] w fun e w' => e = .returned (.tuple #[.slice none 0 0, .int .i64 13]) ∧ Below w.heap.size w w'
  get : ∀ (v : Value) (len : Nat) (zs : List Int) (w : World), RI .u8 w v len zs → isB zs → (len : Int) ≤ 200000000000000 →
    Calls Try.prog 11 #[v] w fun e w' => e = .returned (.tuple #[.agg (oA (opG zs).1.1 (opG zs).1.2.1 (opG zs).1.2.2), .int .i64 (opG zs).2.1, .int .i64 (opG zs).2.2]) ∧ Below w.heap.size w w'
  same : ∀ (v1 v2 : Value) (l1 l2 : List AO) (w : World), OS w v1 l1 → OS w v2 l2 →
    Calls Try.prog 13 #[v1, v2] w fun e w' => e = .returned (.bool (decide (l1 = l2))) ∧ Below w.heap.size w w'
theorem awake_bytes : opB 2 ⟨#[97]⟩ ⟨#[]⟩ = [2, 1, 97] := by
  rw [opB_two _ _ (by decide)]
  unfold fb
  rw [show (sl ⟨#[97]⟩).length = 1 from rfl, vb]
  rfl
theorem awake_put (H : OpSays) (w : World) : Calls Try.prog 6 #[.slice none 0 0, .agg (oA 2 ⟨#[97]⟩ ⟨#[]⟩)] w fun e w' =>
    ∃ v, e = .returned (.tuple #[v, .int .i64 0]) ∧ (convert 22 9 v).run Try.prog w' = .ok (.string ⟨#[2, 1, 97]⟩) w' ∧ Below w.heap.size w w' := by
  refine (H.put (.slice none 0 0) 0 [] 2 ⟨#[97]⟩ ⟨#[]⟩ w (RI.nil _ _) (by omega) (by decide)).mono fun e w' ⟨v, he, ho, hb⟩ => ⟨v, he, ?_, hb⟩
  have h := conv_ri (RI.own ho)
  rw [List.nil_append, awake_bytes] at h
  exact h.trans rfl
set_option maxHeartbeats 400000 in
theorem awake_any (H : OpSays) (w : World) : Calls Try.prog 9 #[] w fun e w' => e = .returned (.bool true) ∧ Below w.heap.size w w' := by
  have HH := Lib.hid H
  clear H
  go_enter Try.func9, Try.ntmps9
  go_wp2_with (first
    | (go_at_call 6; (with_reducible refine (awake_put HH.out _).mono ?_); rintro e w' ⟨v, rfl, hc, hb⟩; have HB := Lib.hid hb; clear hb))
  go_ret
  exact ⟨rfl, HB.out⟩
set_option maxRecDepth 8000 in
set_option maxHeartbeats 1000000 in
theorem sames_walk (H : OpSays) (v1 v2 : Value) (l1 l2 : List AO) (W : World) (h1 : OS W v1 l1) (h2 : OS W v2 l2) :
    Calls Try.prog 5 #[v1, v2] W fun e w' => e = .returned (.bool true) ∧ Below W.heap.size W w' := by
  obtain ⟨y, hy⟩ : ∃ y, decide (l1 = l2) = y := ⟨_, rfl⟩
  have HH := Lib.hid H
  have H1 : Hid (∀ w, OS w v1 l1 → OS w v2 l2 → Calls Try.prog 13 #[v1, v2] w fun e w' => e = .returned (.bool y) ∧ Below w.heap.size w w') := Lib.hid fun w a b => by rw [← hy]; exact H.same v1 v2 l1 l2 w a b
  have H2 : Hid (∀ w, OS w v1 l1 → OS w v2 l2 → Calls Try.prog 14 #[v1, v2] w fun e w' => e = .returned (.bool y) ∧ Below w.heap.size w w') := Lib.hid fun w a b => by rw [← hy]; exact rosame_any v1 v2 l1 l2 w a b
  have H3 : Hid (∀ w, OS w v1 l1 → Calls Try.prog 13 #[v1, v1] w fun e w' => e = .returned (.bool true) ∧ Below w.heap.size w w') := Lib.hid fun w a => (H.same v1 v1 l1 l1 w a a).mono fun _ _ ⟨e, b⟩ => ⟨by rw [e]; simp, b⟩
  have HA := Lib.hid (And.intro h1 h2)
  clear h1 h2 hy H
  go_enter Try.func5, Try.ntmps5
  go_wp2_with (first
    | (go_at_call 14; (with_reducible refine (H2.out _ (HA.out.1.keep HB1.out) (HA.out.2.keep HB1.out)).mono ?_); rintro e w2 ⟨rfl, hb⟩; have HB2 := Lib.hid (bch HB1.out hb); clear hb)
    | (go_at_call 13; (with_reducible refine (H3.out _ (HA.out.1.keep HB2.out)).mono ?_); rintro e w3 ⟨rfl, hb⟩; have HB3 := Lib.hid (bch HB2.out hb); clear hb)
    | (go_at_call 13; (with_reducible refine (H1.out _ HA.out.1 HA.out.2).mono ?_); rintro e w1 ⟨rfl, hb⟩; have HB1 := Lib.hid hb; clear hb)
    | (go_at_call 9; (with_reducible refine (awake_any HH.out _).mono ?_); rintro e w4 ⟨rfl, hb⟩; have HB4 := Lib.hid (bch HB3.out hb); clear hb))
  go_ret
  exact ⟨rfl, HB4.out⟩
end Go.Proofs.Ytnkccconkongeaa
