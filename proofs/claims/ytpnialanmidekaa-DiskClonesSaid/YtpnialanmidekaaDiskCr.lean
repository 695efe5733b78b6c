/-
  LAYER 8 (disk): what a crash leaves (plain mathematics), and a view of a world without the rows of files that a call makes. Nothing here speaks of the program's functions. No condition.
-/
import Derived.Test.YtpnialanmidekaaDiskMix
import Derived.Test.YtpnialanmidekaaBit
import Derived.Test.YtpnialanmidekaaTmask
namespace Go.Proofs.Ytpnialanmidekaa
open Go.RowKit
/-- one sector behind a crash; i: how many waited ahead of it -/
def secC (kb : List Int) (torn cut : Int) (las seen : List Int) (wt : Bool) (i : Nat) : List Int :=
  if wt = true then (if (i : Int) = torn then mixN las seen (cutN cut) else if bitI kb (i : Int) = true then seen else las) else las
def chunk (l : List Int) (j : Nat) : List Int := (l.drop (j * 64)).take 64
theorem chunk_length (l : List Int) (n j : Nat) (h : l.length = n * 64) (hj : j < n) : (chunk l j).length = 64 := by simp [chunk]; omega
theorem secC_length (kb : List Int) (torn cut : Int) (las seen : List Int) (wt : Bool) (i : Nat) (h : las.length = 64) (h2 : seen.length = 64) : (secC kb torn cut las seen wt i).length = 64 := by
  unfold secC
  split
  · split
    · exact mixN_length _ _ _ h h2 (by unfold cutN; omega)
    · split <;> assumption
  · exact h
/-- the first j sectors of a file behind a crash, and how many waited then -/
def crS (kb : List Int) (torn cut : Int) (f : AF) (i0 : Nat) : Nat → List Int × Nat
  | 0 => ([], i0)
  | j + 1 => ((crS kb torn cut f i0 j).1 ++ secC kb torn cut (chunk f.las j) (chunk f.seen j) (f.ws.getD j false) (crS kb torn cut f i0 j).2, if f.ws.getD j false = true then (crS kb torn cut f i0 j).2 + 1 else (crS kb torn cut f i0 j).2)
theorem crS_length (kb : List Int) (torn cut : Int) (f : AF) (i0 : Nat) (hl : f.las.length = f.n * 64) (hs : f.seen.length = f.n * 64) : ∀ j, j ≤ f.n → (crS kb torn cut f i0 j).1.length = j * 64
  | 0, _ => by simp [crS]
  | j + 1, h => by
    simp only [crS, List.length_append]
    rw [crS_length kb torn cut f i0 hl hs j (by omega), secC_length _ _ _ _ _ _ _ (chunk_length _ f.n j hl (by omega)) (chunk_length _ f.n j hs (by omega))]
    omega
theorem crS_count (kb : List Int) (torn cut : Int) (f : AF) (i0 : Nat) : ∀ j, (crS kb torn cut f i0 j).2 ≤ i0 + j
  | 0 => by simp [crS]
  | j + 1 => by
    have := crS_count kb torn cut f i0 j
    simp only [crS]; split <;> omega
def crFile (kb : List Int) (torn cut : Int) (f : AF) (i0 : Nat) : AF := ⟨f.name, f.n, (crS kb torn cut f i0 f.n).1, (crS kb torn cut f i0 f.n).1, List.replicate f.n false⟩
/-- the first files behind a crash, and how many waited then -/
def crL (kb : List Int) (torn cut : Int) (L : List AF) : Nat → List AF × Nat
  | 0 => ([], 0)
  | k + 1 => match L[k]? with
    | some f => ((crL kb torn cut L k).1 ++ [crFile kb torn cut f (crL kb torn cut L k).2], (crS kb torn cut f (crL kb torn cut L k).2 f.n).2)
    | none => crL kb torn cut L k
theorem crL_step (kb : List Int) (torn cut : Int) (L : List AF) (k : Nat) (f : AF) (h : L[k]? = some f) :
    crL kb torn cut L (k + 1) = ((crL kb torn cut L k).1 ++ [crFile kb torn cut f (crL kb torn cut L k).2], (crS kb torn cut f (crL kb torn cut L k).2 f.n).2) := by simp only [crL, h]
theorem crL_length (kb : List Int) (torn cut : Int) (L : List AF) : ∀ k, k ≤ L.length → (crL kb torn cut L k).1.length = k
  | 0, _ => rfl
  | k + 1, h => by
    obtain ⟨f, hf⟩ := row_some (L := L) (i := k) (by omega)
    rw [crL_step kb torn cut L k f hf]
    simp [crL_length kb torn cut L k (by omega)]
theorem crL_count (kb : List Int) (torn cut : Int) (L : List AF) : ∀ k, (crL kb torn cut L k).2 ≤ usedN (L.take k)
  | 0 => by simp [crL]
  | k + 1 => by
    have h := crL_count kb torn cut L k
    by_cases hk : k < L.length
    · obtain ⟨f, hf⟩ := row_some (L := L) (i := k) hk
      rw [crL_step kb torn cut L k f hf, usedN_take L k f hf]
      have := crS_count kb torn cut f (crL kb torn cut L k).2 f.n
      simp only; omega
    · have h0 : L[k]? = none := List.getElem?_eq_none (by omega)
      simp only [crL, h0]
      rw [List.take_of_length_le (by omega)] at h ⊢
      exact h
def AD.crashR (d : AD) (kb : List Int) (torn cut : Int) : AD := { L := (crL kb torn cut d.L d.L.length).1, cap := d.cap, ops := d.ops, down := false, told := false, after := 0 }
end Go.Proofs.Ytpnialanmidekaa
