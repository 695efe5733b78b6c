/-
  A FRAGMENT (layer 13), as a plain thing. No condition.
-/
import Derived.Test.YtepmiooemjjhdaaBase
namespace Go.Proofs.Ytepmiooemjjhdaa
/-- a fragment -/
structure FR where
  kind : Int
  epoch : Int
  data : List Int
deriving instance DecidableEq for FR
end Go.Proofs.Ytepmiooemjjhdaa
