/-
  LAYER 17 (image): what Sectors is to answer. No condition.
-/
import Derived.Test.YtjlnceldnbpapaaDoorImgMath
import Derived.Test.YtjlnceldnbpapaaDoorJPlan
namespace Go.Proofs.YtjlnceldnbpapaaDoor
open Go.RowKit
/-- what Sectors answers -/
def SecF (w : World) (ls : List (List Int)) (ep : Int) (e : Ending) (w' : World) : Prop :=
  (fitsF ls = true ∧ ∃ v, e = .returned (.tuple #[v, .bool true]) ∧ FS w' v 16 (wholeK ep (bodyF (ep % 4294967296) ls) (touchN 0 (endF ls)).2 16) ∧ Below w.heap.size w w') ∨
  (fitsF ls = false ∧ e = .returned (.tuple #[.slice none 0 0, .bool false]) ∧ Below w.heap.size w w')
end Go.Proofs.YtjlnceldnbpapaaDoor
