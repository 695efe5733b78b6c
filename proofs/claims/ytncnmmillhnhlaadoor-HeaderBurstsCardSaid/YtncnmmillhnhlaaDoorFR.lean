/-
  A FRAGMENT (layer 13), as a plain thing. No condition.
-/
import Derived.Test.YtncnmmillhnhlaaDoorBase
namespace Go.Proofs.YtncnmmillhnhlaaDoor
/-- a fragment -/
structure FR where
  kind : Int
  epoch : Int
  data : List Int
deriving instance DecidableEq for FR
end Go.Proofs.YtncnmmillhnhlaaDoor
