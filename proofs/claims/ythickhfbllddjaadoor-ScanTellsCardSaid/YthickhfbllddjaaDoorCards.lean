/-
  DERIVED. GIVEN WITH THE SEED: THE CARDS: each row of YthickhfbllddjaaDoorRows.lean that lists a variable, with what it lists TIED to the program's text (the seventh form; the later family's looks); each row that meets fmt, with fmt's text TOLD by the authors' own Lean function (tested against real Go, not proved from fmt's source: count such statements apart). THE CARD IS WHAT COUNTS. Prove the row's statement (the work); the ties are given (YthickhfbllddjaaDoorTie.lean); close each card by the builder's one call (the guide's Derived/Test/ToyasCard.lean, 'card_holds'). Laid BY PROGRAM, IN A SANDBOX (cutbox-door.mjs). By AI agents, Wed Nov 11 2026. No macro, syntax, notation, axiom, sorry.
-/
import Derived.Test.YthickhfbllddjaaDoorRows
import GoSem.ClaimSeven
namespace Go.Proofs.YthickhfbllddjaaDoor
namespace Rows

/-- THE TIED CARD OF 'strandlinelaw19.ScanTells'. -/
def scanTellsCard : Claim7 := { stood := { row := scanTellsRow, standIns := [], harness := (true, "c8c6b74ea8f55b9e60a59bac97f12d04b3e3f24679c5df51cf8e5676b4398290"), looks := false }, kinds := [], alts := [], laidByText := true, laidKinds := [.data], laidTests := true, laidLooks := .later }
def ScanTellsCardSaid : Prop := Claim7.holds Tryd.pinned (.plain (OpenSpec.ofChange scanTellsSpec)) scanTellsCard

/-- THE TIED CARD OF 'strandlinelaw19.ScanBack'. -/
def scanBackCard : Claim7 := { stood := { row := scanBackRow, standIns := [], harness := (true, "c8c6b74ea8f55b9e60a59bac97f12d04b3e3f24679c5df51cf8e5676b4398290"), looks := false }, kinds := [], alts := [], laidByText := true, laidKinds := [.data], laidTests := true, laidLooks := .later }
def ScanBackCardSaid : Prop := Claim7.holds Tryd.pinned (.plain (OpenSpec.ofChange scanBackSpec)) scanBackCard

/-- THE TIED CARD OF 'strandlinelaw19.ScanLost'. -/
def scanLostCard : Claim7 := { stood := { row := scanLostRow, standIns := [], harness := (true, "c8c6b74ea8f55b9e60a59bac97f12d04b3e3f24679c5df51cf8e5676b4398290"), looks := false }, kinds := [], alts := [], laidByText := true, laidKinds := [.data], laidTests := true, laidLooks := .later }
def ScanLostCardSaid : Prop := Claim7.holds Tryd.pinned (.plain (OpenSpec.ofChange scanLostSpec)) scanLostCard

/-- THE SECOND FORM's CARD OF 'strandlinelaw19.ScanTells'. -/
def scanTellsUptoCard : Claim7 := { stood := { row := scanTellsUptoRow, standIns := [], harness := (true, "c8c6b74ea8f55b9e60a59bac97f12d04b3e3f24679c5df51cf8e5676b4398290"), looks := false }, kinds := [], alts := [], laidByText := true, laidKinds := [.data], laidTests := true, laidLooks := .later }
def ScanTellsUptoCardSaid : Prop := Claim7.holds Tryd.pinned (.plain (OpenSpec.upto scanTellsSpec)) scanTellsUptoCard

/-- THE SECOND FORM's CARD OF 'strandlinelaw19.ScanBack'. -/
def scanBackUptoCard : Claim7 := { stood := { row := scanBackUptoRow, standIns := [], harness := (true, "c8c6b74ea8f55b9e60a59bac97f12d04b3e3f24679c5df51cf8e5676b4398290"), looks := false }, kinds := [], alts := [], laidByText := true, laidKinds := [.data], laidTests := true, laidLooks := .later }
def ScanBackUptoCardSaid : Prop := Claim7.holds Tryd.pinned (.plain (OpenSpec.upto scanBackSpec)) scanBackUptoCard

/-- THE SECOND FORM's CARD OF 'strandlinelaw19.ScanLost'. -/
def scanLostUptoCard : Claim7 := { stood := { row := scanLostUptoRow, standIns := [], harness := (true, "c8c6b74ea8f55b9e60a59bac97f12d04b3e3f24679c5df51cf8e5676b4398290"), looks := false }, kinds := [], alts := [], laidByText := true, laidKinds := [.data], laidTests := true, laidLooks := .later }
def ScanLostUptoCardSaid : Prop := Claim7.holds Tryd.pinned (.plain (OpenSpec.upto scanLostSpec)) scanLostUptoCard
end Rows
end Go.Proofs.YthickhfbllddjaaDoor
