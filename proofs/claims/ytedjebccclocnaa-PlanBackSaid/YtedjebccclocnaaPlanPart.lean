/-
  LAYER 16 (plan), part: the bytes of a body that its sector has. No condition.
-/
import Derived.Test.YtedjebccclocnaaPlanCov
namespace Go.Proofs.Ytedjebccclocnaa
open Go.RowKit
/-- where a part begins, and how many bytes it has -/
def pF (len i : Nat) : Nat := min (i * 52) len
def pN (len i : Nat) : Nat := min (pF len i + 52) len - pF len i
theorem part_list (zs : List Int) (len i : Nat) (h : zs.length = len) : (zs.drop (pF len i)).take (pN len i) = partB zs i := by
  unfold pN pF partB
  by_cases h1 : i * 52 ≤ len
  · rw [Nat.min_eq_left h1, Nat.mul_comm]
    by_cases h2 : 52 * i + 52 ≤ len
    · rw [Nat.min_eq_left h2]; congr 1; omega
    · rw [Nat.min_eq_right (by omega), List.take_of_length_le (by simp; omega), List.take_of_length_le (by simp; omega)]
  · rw [Nat.min_eq_right (by omega), List.drop_eq_nil_of_le (by omega), List.drop_eq_nil_of_le (by omega)]; simp
set_option maxRecDepth 8000 in
set_option maxHeartbeats 800000 in
theorem part_any (a : Option Addr) (len cap i : Nat) (hlc : len ≤ cap) (hl : len ≤ 1000000) (hi : i ≤ 1000) (w : World) :
    Calls Try.prog 18 #[.slice a len cap, .int .i64 (i : Int)] w fun e w' => e = .returned (sliced a (pF len i) (pF len i + pN len i) (pF len i + pN len i) 1) ∧ w' = w := by
  have h1 : ((pF len i : Nat) : Int) = min ((i : Int) * 52) (len : Int) := by unfold pF; omega
  have h2 : ((pF len i + pN len i : Nat) : Int) = min (((pF len i : Nat) : Int) + 52) (len : Int) := by unfold pN; have : pF len i ≤ len := by unfold pF; omega
                                                                                                        omega
  generalize pF len i = f at *
  generalize pN len i = n at *
  have hfn : f + n ≤ len := by omega
  rw [h1] at h2
  obtain ⟨v, hv⟩ : ∃ v, sliced a f (f + n) (f + n) 1 = v := ⟨_, rfl⟩
  rw [hv]
  have HV := Lib.hid hv
  clear hv
  by_cases c1 : (len : Int) < (i : Int) * 52
  · have h4 : (len : Int) < len + 52 := by omega
    obtain rfl : f = len := by omega
    obtain rfl : n = 0 := by omega
    clear h1 h2
    go_enter Try.func18, Try.ntmps18
    go_wp2
    go_ret
    exact ⟨by rw [← HV.out]; simp [sliced], rfl⟩
  · obtain rfl : f = i * 52 := by omega
    by_cases c2 : (len : Int) < (i : Int) * 52 + 52
    · obtain ⟨m, rfl⟩ : ∃ m, len = i * 52 + m := ⟨len - i * 52, by omega⟩
      obtain rfl : n = m := by omega
      clear h1 h2
      by_cases h0 : n = 0
      · subst h0
        go_enter Try.func18, Try.ntmps18
        go_wp2
        go_ret
        exact ⟨by rw [← HV.out]; simp [sliced], rfl⟩
      · go_enter Try.func18, Try.ntmps18
        go_wp2
        go_ret
        exact ⟨by rw [← HV.out]; simp [sliced, h0], rfl⟩
    · obtain rfl : n = 52 := by omega
      clear h1 h2
      go_enter Try.func18, Try.ntmps18
      go_wp2
      go_ret
      exact ⟨by rw [← HV.out]; simp [sliced], rfl⟩
/-- .. as a slice -/
theorem part_ri (v : Value) (len i : Nat) (zs : List Int) (hl : len ≤ 1000000) (hi : i ≤ 1000) (w : World) (h : RI .u8 w v len zs) :
    Calls Try.prog 18 #[v, .int .i64 (i : Int)] w fun e w' => ∃ v', e = .returned v' ∧ RI .u8 w v' (pN len i) (partB zs i) ∧ w' = w := by
  have hzl := h.length
  obtain ⟨a, cap, rfl, _, hc, _⟩ := id h
  refine (part_any a len cap i hc hl hi w).mono ?_
  rintro e w' ⟨rfl, rfl⟩
  refine ⟨_, rfl, ?_, rfl⟩
  have hfn : pF len i + pN len i ≤ len := by unfold pN; have : pF len i ≤ len := by unfold pF; omega
                                             omega
  have := h.cut (pF len i) (pN len i) (pF len i + pN len i) hfn (Nat.le_refl _) (by omega)
  rwa [part_list zs len i hzl] at this
end Go.Proofs.Ytedjebccclocnaa
