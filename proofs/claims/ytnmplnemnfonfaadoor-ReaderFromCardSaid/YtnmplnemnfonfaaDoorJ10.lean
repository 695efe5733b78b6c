/-
  TEXTS JOINED: ScanFrag, ScanTell, ScanStep, StampEmpty, ScanRest, ScanScan, ScanAll. Each one's own words stand at its head.
-/
import Derived.Test.YtnmplnemnfonfaaDoorJ9
import Derived.Test.YtnmplnemnfonfaaDoorJ1
import Derived.Test.YtnmplnemnfonfaaDoorJ4
import Derived.Test.YtnmplnemnfonfaaDoorJ5
import Derived.Test.YtnmplnemnfonfaaDoorJ0
import Derived.Test.YtnmplnemnfonfaaDoorJ6
import Derived.Lib.SliceRun
import Derived.Test.YtnmplnemnfonfaaDoorJ7
namespace Go.Proofs.YtnmplnemnfonfaaDoor
open Go.RowKit
end Go.Proofs.YtnmplnemnfonfaaDoor
namespace Go.Proofs.YtnmplnemnfonfaaDoor
open Go.RowKit
end Go.Proofs.YtnmplnemnfonfaaDoor
namespace Go.Proofs.YtnmplnemnfonfaaDoor
open Go.RowKit
end Go.Proofs.YtnmplnemnfonfaaDoor
namespace Go.Proofs.YtnmplnemnfonfaaDoor
open Go.RowKit
end Go.Proofs.YtnmplnemnfonfaaDoor
namespace Go.Proofs.YtnmplnemnfonfaaDoor
open Go.RowKit
end Go.Proofs.YtnmplnemnfonfaaDoor
namespace Go.Proofs.YtnmplnemnfonfaaDoor
open Go.RowKit
end Go.Proofs.YtnmplnemnfonfaaDoor
namespace Go.Proofs.YtnmplnemnfonfaaDoor
open Go.RowKit
theorem flatB_bytes (x : Int) (n : Nat) (fs : List Int) (h : isB fs) : ∀ k, isB (flatB x n fs k)
  | 0 => isB.nil
  | k + 1 => by
    have ih := flatB_bytes x n fs h k
    have hr : isB (roomAt x n fs k) := by
      unfold roomAt
      split
      · exact ((h.drop _).take _).drop _
      · intro y hy; have := List.eq_of_mem_replicate hy; omega
    unfold flatB
    exact ih.append hr
def scOf (x : Int) (n : Nat) (fs : List Int) : SS := scEnd (x % 4294967296) (flatB x n fs 16) (flatK x n fs 16)
end Go.Proofs.YtnmplnemnfonfaaDoor
