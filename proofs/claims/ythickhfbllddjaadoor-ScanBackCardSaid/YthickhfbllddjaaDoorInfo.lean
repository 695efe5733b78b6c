/-
  WHAT A BYTE TAKES: one cell, 0 at first. Nothing here speaks of the program's functions. No condition.
-/
import Derived.Test.YthickhfbllddjaaDoorBase
namespace Go.Proofs.YthickhfbllddjaaDoor
theorem Tryd.info_u8 : (Tryd.prog.info? 5).map (fun i => (i.zero, i.size, i.bytes)) = some (some (.int .u8 0), 1, 1) := by kernel_rfl
end Go.Proofs.YthickhfbllddjaaDoor
