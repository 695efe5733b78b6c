/-
  TEXTS JOINED: WholeB, Few. Each one's own words stand at its head.
-/
import Derived.Test.YtepaghohojomeaaDoorJ5
import Derived.Test.YtepaghohojomeaaDoorJ3
import Derived.Test.YtepaghohojomeaaDoorJ1
/-
  A SEGMENT'S SECTORS ARE BYTES (layer 16, plain mathematics). No condition.
-/
namespace Go.Proofs.YtepaghohojomeaaDoor
open Go.RowKit
theorem sc_whole_bytes (x : Int) (zs : List Int) (h : isB zs) (n : Nat) : ∀ k, isB (wholeK x zs n k)
  | 0 => isB.nil
  | k + 1 => by
    unfold wholeK
    refine (sc_whole_bytes x zs h n k).append ?_
    split
    · exact (sealed_bytes x k _ (bytes_of_mem ((h.drop _).take _))).mem
    · intro y hy; have := List.eq_of_mem_replicate hy; omega
end Go.Proofs.YtepaghohojomeaaDoor
/-
  Few OF LAYER 19's LAW. No condition.
-/
namespace Go.Proofs.YtepaghohojomeaaDoor
open Go.RowKit
/-- few and short -/
def fewB (ls : List (List Int)) : Bool := ls.all (fun l => decide (l.length ≤ 512)) && decide (ls.length ≤ 100)
set_option maxRecDepth 8000 in
set_option maxHeartbeats 2000000 in
theorem few_any (v : Value) (n : Nat) (ls : List (List Int)) (w : World) (h : RL .u8 w v n ls) : Calls Tryd.prog 6 #[v] w fun e w' => e = .returned (.bool (fewB ls)) ∧ Below w.heap.size w w' := by
  have hle := h.le
  have HL := Lib.hid h.length
  have HH := Lib.hid h
  obtain ⟨a, cap, rfl, _⟩ := h.form
  clear h
  go_enter Tryd.func6, Tryd.ntmps6
  go_wp2
  go_loopw [3] (fun iv wr => ∃ i : Nat, iv = .int .i64 (i : Int) ∧ i ≤ n ∧ Hid (∀ j, j < i → (ls.getD j []).length ≤ 512) ∧ Hid (Below w.heap.size w wr)) (fun iv _ => n - (intOf iv).toNat)
  case atStart => exact ⟨0, rfl, by omega, Lib.hid (fun j hj => absurd hj (by omega)), Lib.hid (Below.refl _ _)⟩
  case round =>
    obtain ⟨i, rfl, hi, HA, HB⟩ := hrel
    by_cases hlt : (i : Int) < (n : Int)
    · obtain ⟨b, off, rfl, hat⟩ := (HH.out.keep HB.out).at_ (by omega)
      obtain ⟨x, c, hc, _⟩ := hat i (by omega)
      obtain ⟨m, hm⟩ : ∃ m, (ls.getD i []).length = m := ⟨_, rfl⟩
      rw [hm] at hc
      have HM := Lib.hid hm
      clear hat hm
      by_cases h5 : (m : Int) > 512
      · have HNO : Hid (fewB ls = false) := Lib.hid (by
          unfold fewB
          have : ls.all (fun l => decide (l.length ≤ 512)) = false := by
            rw [Bool.eq_false_iff]
            intro hh
            have := List.all_eq_true.1 hh (ls.getD i []) (by simp [List.getD, show i < ls.length by rw [HL.out]; omega])
            have := of_decide_eq_true this
            rw [HM.out] at this
            omega
          rw [this]; rfl)
        go_wp2
        (first | go_ret2 | go_ret3 | go_ret)
        exact ⟨ret_bool HNO.out.symm, HB.out⟩
      · have HAN : Hid (∀ j, j < i + 1 → (ls.getD j []).length ≤ 512) := Lib.hid (fun j hj => by
          by_cases ej : j = i
          · rw [ej, HM.out]; omega
          · exact HA.out j (by omega))
        go_wp2
        go_roundw
        case rel => exact ⟨i + 1, by go_num, by omega, HAN, HB⟩
        case measure => simp [intOf]; omega
    · have HALL : Hid (fewB ls = decide ((n : Int) ≤ 100)) := Lib.hid (by
        unfold fewB
        have : ls.all (fun l => decide (l.length ≤ 512)) = true := List.all_eq_true.2 fun l hl => by
          obtain ⟨j, hj, rfl⟩ := List.getElem_of_mem hl
          have := HA.out j (by rw [HL.out] at hj; omega)
          simp only [List.getD, List.getElem?_eq_getElem hj, Option.getD_some] at this
          exact decide_eq_true this
        rw [this, HL.out, Bool.true_and]
        exact decide_eq_decide.2 (by omega))
      go_wp2
      go_ret
      exact ⟨ret_bool (by rw [HALL.out]), HB.out⟩
theorem fewB_parts {ls : List (List Int)} (h : fewB ls = true) : ls.length ≤ 100 ∧ ∀ z ∈ ls, z.length ≤ 512 := by
  unfold fewB at h
  rw [Bool.and_eq_true] at h
  exact ⟨of_decide_eq_true h.2, fun z hz => of_decide_eq_true (List.all_eq_true.1 h.1 z hz)⟩
end Go.Proofs.YtepaghohojomeaaDoor
