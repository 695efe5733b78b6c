/-
  WHAT A BYTE TAKES: one cell, 0 at first. Nothing here speaks of the program's functions. No condition.
-/
import Derived.Test.YtedjebccclocnaaBase
namespace Go.Proofs.Ytedjebccclocnaa
theorem Try.info_u8 : (Try.prog.info? 5).map (fun i => (i.zero, i.size, i.bytes)) = some (some (.int .u8 0), 1, 1) := by kernel_rfl
end Go.Proofs.Ytedjebccclocnaa
