/-
  WHAT A Decode OF LAYER 13 (frag) LEAVES: the fragment that bytes begin with, how many they are, or why there is none. No condition.
-/
import Derived.Test.YtkomlapgjblnlaaDoorFragRef
import Derived.Test.YtkomlapgjblnlaaDoorFragHead
import Derived.Test.YtkomlapgjblnlaaDoorClone
namespace Go.Proofs.YtkomlapgjblnlaaDoor
open Go.RowKit
def DecF (zs : List Int) (ep : Int) (w : World) (r : Ending) (w' : World) : Prop :=
  ∃ a n c, r = .returned (.tuple #[.agg (fA (fragD zs ep).1.kind (fragD zs ep).1.epoch (.slice a n c)), .int .i64 ((fragD zs ep).2.1 : Nat), .int .i64 (fragD zs ep).2.2]) ∧
    w'.ownsRow w.heap.size 5 1 (.slice a n c) n (il .u8 (fragD zs ep).1.data) ∧ Below w.heap.size w w'
theorem decf_none {zs : List Int} {ep x : Int} {w w' : World} (h : fragD zs ep = (noF, 0, x)) (hb : Below w.heap.size w w') : DecF zs ep w (.returned (.tuple #[.agg (fA 0 0 (.slice none 0 0)), .int .i64 0, .int .i64 x])) w' := by
  refine ⟨none, 0, 0, ?_, ?_, hb⟩
  · rw [h]; rfl
  · rw [h]; exact World.ownsRow_nil _ _ _ _
theorem decf_some {zs : List Int} {ep : Int} {k e : Int} {d : List Int} {s : Nat} {a : Option Addr} {n c : Nat} {w w' : World} (h : fragD zs ep = (⟨k, e, d⟩, s, 0)) (ho : w'.ownsRow w.heap.size 5 1 (.slice a n c) n (il .u8 d)) (hb : Below w.heap.size w w') :
    DecF zs ep w (.returned (.tuple #[.agg (fA k e (.slice a n c)), .int .i64 (s : Nat), .int .i64 0])) w' := by
  refine ⟨a, n, c, ?_, ?_, hb⟩
  · rw [h]
  · rw [h]; exact ho
/-- the numbers of a head -/
theorem head_nums (zs : List Int) (hb : isB zs) (h1 : 11 ≤ zs.length) : ∃ (h : List Int) (k e : Int) (n s : Nat), zs.take 11 = h ∧ h.length = 11 ∧ isB h ∧ num zs 6 1 = k ∧ num zs 7 4 = e ∧ num zs 4 2 = n ∧ num zs 0 4 = s ∧
    num h 6 1 = k ∧ num h 7 4 = e ∧ num h 4 2 = n ∧ num h 0 4 = s ∧ 0 ≤ k ∧ k ≤ 255 ∧ 0 ≤ e ∧ e ≤ 4294967295 ∧ n ≤ 65535 ∧ s ≤ 4294967295 := by
  have b1 := num_bd hb 6 1
  have b2 := num_bd hb 7 4
  have b3 := num_bd hb 4 2
  have b4 := num_bd hb 0 4
  have e3 : (2 : Int) ^ (8 * 2) = 65536 := by decide
  have e4 : (2 : Int) ^ (8 * 4) = 4294967296 := by decide
  have e1 : (2 : Int) ^ (8 * 1) = 256 := by decide
  rw [e1] at b1
  rw [e4] at b2 b4
  rw [e3] at b3
  refine ⟨_, _, _, (num zs 4 2).toNat, (num zs 0 4).toNat, rfl, by simp; omega, hb.take 11, rfl, rfl, by omega, by omega, num_take _ _ _ _ (by omega), num_take _ _ _ _ (by omega), ?_, ?_, b1.1, by omega, b2.1, by omega, by omega, by omega⟩
  · rw [num_take _ _ _ _ (by omega)]; omega
  · rw [num_take _ _ _ _ (by omega)]; omega
theorem tail_split (zs : List Int) (n : Nat) (h : 11 ≤ zs.length) : (zs.take (11 + n)).drop 4 = (zs.take 11).drop 4 ++ (zs.drop 11).take n := by
  rw [List.take_add, List.drop_append_of_le_length (by simp; omega)]
/-- which of the cases it is -/
theorem fragOk_no {k : Int} {n : Nat} (h : ¬ (1 ≤ k ∧ k ≤ 4 ∧ n ≤ 197)) : fragOk k n = false := decide_eq_false h
/-- are the first k all 0? -/
def az (zs : List Int) (k : Nat) : Bool := (zs.take k).all (· == 0)
theorem az_zero (zs : List Int) : az zs 0 = true := rfl
theorem az_succ (zs : List Int) (k : Nat) (h : k < zs.length) : az zs (k + 1) = (az zs k && zs.getD k 0 == 0) := by
  unfold az
  rw [List.take_succ_eq_append_getElem h, List.all_append]
  simp [List.getD, h]
theorem az_head (zs : List Int) (k : Nat) (h : k ≤ zs.length) : az zs k = true ↔ zs.take k = List.replicate k 0 := by
  unfold az
  rw [List.all_eq_true]
  constructor
  · intro hq
    refine List.eq_replicate_iff.2 ⟨by simp; omega, fun b hb => by simpa using hq b hb⟩
  · intro hq x hx
    rw [hq] at hx
    simpa using List.eq_of_mem_replicate hx
/-- the cases in which bytes whose head is not empty are a fragment's, or are none's -/
theorem fragD_cases (zs : List Int) (ep k e : Int) (n sz : Nat) (hb : isB zs) (h1 : ¬ zs.length < 11) (h2 : ¬ zs.take 11 = List.replicate 11 0) (hk : num zs 6 1 = k) (he : num zs 7 4 = e) (hn : num zs 4 2 = n) (hsz : 11 + n = sz) :
    (197 < (n : Int) ∧ fragD zs ep = (noF, 0, 2)) ∨ ((n : Int) ≤ 197 ∧ k < 1 ∧ fragD zs ep = (noF, 0, 2)) ∨ ((n : Int) ≤ 197 ∧ 1 ≤ k ∧ 4 < k ∧ fragD zs ep = (noF, 0, 2)) ∨
    ((n : Int) ≤ 197 ∧ 1 ≤ k ∧ k ≤ 4 ∧ e ≠ ep ∧ fragD zs ep = (noF, 0, 2)) ∨ ((n : Int) ≤ 197 ∧ 1 ≤ k ∧ k ≤ 4 ∧ e = ep ∧ zs.length < sz ∧ fragD zs ep = (noF, 0, 1)) ∨
    ((n : Int) ≤ 197 ∧ 1 ≤ k ∧ k ≤ 4 ∧ e = ep ∧ sz ≤ zs.length ∧ fragB k e ((zs.drop 11).take n) ≠ zs.take sz ∧ fragD zs ep = (noF, 0, 3)) ∨
    ((n : Int) ≤ 197 ∧ 1 ≤ k ∧ k ≤ 4 ∧ e = ep ∧ sz ≤ zs.length ∧ fragB k e ((zs.drop 11).take n) = zs.take sz ∧ fragD zs ep = (⟨k, e, (zs.drop 11).take n⟩, sz, 0)) := by
  have hnn : (num zs 4 2).toNat = n := by omega
  by_cases c1 : 197 < (n : Int)
  · exact .inl ⟨c1, fragD_form h1 h2 (.inl (by rw [hk, hnn]; exact fragOk_no (by omega)))⟩
  by_cases c2 : k < 1
  · exact .inr (.inl ⟨by omega, c2, fragD_form h1 h2 (.inl (by rw [hk, hnn]; exact fragOk_no (by omega)))⟩)
  by_cases c3 : 4 < k
  · exact .inr (.inr (.inl ⟨by omega, by omega, c3, fragD_form h1 h2 (.inl (by rw [hk, hnn]; exact fragOk_no (by omega)))⟩))
  have hok : fragOk (num zs 6 1) (num zs 4 2).toNat = true := by rw [hk, hnn]; exact decide_eq_true ⟨by omega, by omega, by omega⟩
  by_cases c4 : e = ep
  · subst c4
    by_cases c5 : zs.length < sz
    · exact .inr (.inr (.inr (.inr (.inl ⟨by omega, by omega, by omega, rfl, c5, fragD_cut h1 h2 hok he (by omega)⟩))))
    have ht := tail_back zs hb (by rw [hnn]; omega)
    have hlen : ((zs.drop 11).take n).length = n := by simp; omega
    have hT : (zs.take sz).drop 4 = fragT k e ((zs.drop 11).take n) := by rw [hk, he, hnn, hsz] at ht; exact ht.symm
    have h04 := num_put hb 0 4 (by omega)
    rw [List.drop_zero] at h04
    have h4 : zs.take 4 = (zs.take sz).take 4 := by rw [List.take_take, Nat.min_eq_left (by omega)]
    by_cases c6 : num zs 0 4 = maskS (ofS ((zs.take (11 + (num zs 4 2).toNat)).drop 4))
    · have hd := fragD_ok h1 h2 hok he (by omega) c6
      rw [hk, he, hnn, hsz] at hd
      refine .inr (.inr (.inr (.inr (.inr (.inr ⟨by omega, by omega, by omega, rfl, by omega, ?_, hd⟩)))))
      rw [hnn, hsz, hT] at c6
      unfold fragB fragS
      rw [← c6, h04, ← hT, h4, List.take_append_drop]
    · have hd := fragD_sum h1 h2 hok he (by omega) c6
      refine .inr (.inr (.inr (.inr (.inr (.inl ⟨by omega, by omega, by omega, rfl, by omega, ?_, hd⟩)))))
      intro hq
      apply c6
      rw [hnn, hsz, hT]
      have hq2 := congrArg (fun l => num l 0 4) hq
      have e4 : (2 : Int) ^ (8 * 4) = 4294967296 := by decide
      have heb := num_bd hb 7 4
      rw [e4, he] at heb
      have hf := (frag_nums k e ((zs.drop 11).take n) [] (by omega) heb).1
      rw [List.append_nil] at hf
      simp only [hf, num_take zs sz 0 4 (by omega)] at hq2
      exact hq2.symm
  · exact .inr (.inr (.inr (.inl ⟨by omega, by omega, by omega, c4, fragD_form h1 h2 (.inr (by rw [he]; exact c4))⟩)))
end Go.Proofs.YtkomlapgjblnlaaDoor
