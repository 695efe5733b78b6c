/-
  THE PIECES OF A RECORD, AND THEIR FRAGMENTS (layer 14), as plain things. No condition.
-/
import Derived.Test.YtbnedcghbdphlaaCutMath
import Derived.Test.YtbnedcghbdphlaaFR
namespace Go.Proofs.Ytbnedcghbdphlaa
theorem Cuts.at_ {a n m j : Nat} (hc : Cuts a n m) (hf : Fit a n) (hj : j < m) : Run a n j ∧ Step a n j := by
  have hr := hc.2.2.2 j (by omega)
  have hi : j = 0 ∨ fS a n j < n := by
    by_cases h0 : j = 0
    · exact .inl h0
    · exact .inr (hc.2.2.1 j (by omega) hj)
  exact ⟨hr, hr.step (hr.go hi hf)⟩
/-- which bytes a piece has -/
theorem pc_ok {x n : Int} {i : Nat} {c : PC} (h : (pcsI x n)[i]? = some c) : ∃ l k : Nat, c.from_ = (l : Int) ∧ c.to = ((l + k : Nat) : Int) ∧ ((l + k : Nat) : Int) ≤ n ∧ l + k ≤ 832 := by
  cases hq : fitI x n with
  | false => rw [(told_no hq).1] at h; simp at h
  | true =>
    obtain ⟨k, m, rfl, hk, hm, hc, hf⟩ := told_of hq
    rw [(told_yes hc hf).2.1] at h
    have hi : i < m := by have := (List.getElem?_eq_some_iff.1 h).1; rwa [firstP_len] at this
    rw [firstP_get _ _ _ _ hi] at h
    obtain rfl := Option.some.inj h
    obtain ⟨_, hs⟩ := hc.at_ hf hi
    have h1 := hs.f_ge
    have h2 := hs.f_le
    exact ⟨fS (nr x) k i, fS (nr x) k (i + 1) - fS (nr x) k i, rfl, by show ((fS (nr x) k (i + 1) : Nat) : Int) = _; omega, by omega, by omega⟩
theorem pcs_len (x n : Int) : (pcsI x n).length ≤ 75 := by
  cases hq : fitI x n with
  | false => rw [(told_no hq).1]; simp
  | true =>
    obtain ⟨k, m, rfl, hk, hm, hc, hf⟩ := told_of hq
    rw [(told_yes hc hf).2.1, firstP_len]; exact hm
/-- a piece's fragment -/
def frOf (ep : Int) (zs : List Int) (c : PC) : FR := ⟨c.kind, ep, (zs.drop c.from_.toNat).take (c.to.toNat - c.from_.toNat)⟩
theorem frOf_data {ep : Int} {zs : List Int} {c : PC} {l k : Nat} (h1 : c.from_ = (l : Int)) (h2 : c.to = ((l + k : Nat) : Int)) : frOf ep zs c = ⟨c.kind, ep, (zs.drop l).take k⟩ := by
  unfold frOf
  rw [h1, h2, Int.toNat_natCast, Int.toNat_natCast, Nat.add_sub_cancel_left]
end Go.Proofs.Ytbnedcghbdphlaa
