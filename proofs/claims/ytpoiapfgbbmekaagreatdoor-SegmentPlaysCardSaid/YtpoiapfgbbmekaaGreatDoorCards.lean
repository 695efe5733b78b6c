/-
  DERIVED. GIVEN WITH THE SEED: THE CARDS: each row of YtpoiapfgbbmekaaGreatDoorRows.lean that lists a variable, with what it lists TIED to the program's text (the seventh form; the later family's looks); each row that meets fmt, with fmt's text TOLD by the authors' own Lean function (tested against real Go, not proved from fmt's source: count such statements apart). THE CARD IS WHAT COUNTS. Prove the row's statement (the work); the ties are given (YtpoiapfgbbmekaaGreatDoorTie.lean); close each card by the builder's one call (the guide's Derived/Test/ToyasCard.lean, 'card_holds'). Laid BY PROGRAM, IN A SANDBOX (cutbox-door.mjs). By AI agents, Wed Nov 11 2026. No macro, syntax, notation, axiom, sorry.
-/
import Derived.Test.YtpoiapfgbbmekaaGreatDoorRows
import GoSem.ClaimSeven
namespace Go.Proofs.YtpoiapfgbbmekaaGreatDoor
namespace Rows

/-- THE TIED CARD OF 'strandlinelaw22.SegmentPlays'. -/
def segmentPlaysCard : Claim7 := { stood := { row := segmentPlaysRow, standIns := [], harness := (true, "fac54af357f934ca874fa5bf23c21466ff3ce31e7610e9674976ec1141ac4afd"), looks := true }, kinds := [], alts := [], laidByText := true, laidKinds := [.data, .data, .data, .data, .sentinel, .sentinel], laidTests := true, laidLooks := .later }
def SegmentPlaysCardSaid : Prop := Claim7.holds Tryz.pinned (.plain (OpenSpec.ofChange segmentPlaysSpec)) segmentPlaysCard

/-- THE TIED CARD OF 'strandlinelaw22.SegmentFresh'. -/
def segmentFreshCard : Claim7 := { stood := { row := segmentFreshRow, standIns := [], harness := (true, "fac54af357f934ca874fa5bf23c21466ff3ce31e7610e9674976ec1141ac4afd"), looks := true }, kinds := [], alts := [], laidByText := true, laidKinds := [.data, .data, .data, .data, .sentinel, .sentinel], laidTests := true, laidLooks := .later }
def SegmentFreshCardSaid : Prop := Claim7.holds Tryz.pinned (.plain (OpenSpec.ofChange segmentFreshSpec)) segmentFreshCard

/-- THE TIED CARD OF 'strandlinelaw22.SegmentNobody'. -/
def segmentNobodyCard : Claim7 := { stood := { row := segmentNobodyRow, standIns := [], harness := (true, "fac54af357f934ca874fa5bf23c21466ff3ce31e7610e9674976ec1141ac4afd"), looks := true }, kinds := [], alts := [], laidByText := true, laidKinds := [.data, .data, .data, .data, .sentinel, .sentinel], laidTests := true, laidLooks := .later }
def SegmentNobodyCardSaid : Prop := Claim7.holds Tryz.pinned (.plain (OpenSpec.ofChange segmentNobodySpec)) segmentNobodyCard

/-- THE SECOND FORM's CARD OF 'strandlinelaw22.SegmentPlays'. -/
def segmentPlaysUptoCard : Claim7 := { stood := { row := segmentPlaysUptoRow, standIns := [], harness := (true, "fac54af357f934ca874fa5bf23c21466ff3ce31e7610e9674976ec1141ac4afd"), looks := true }, kinds := [], alts := [], laidByText := true, laidKinds := [.data, .data, .data, .data, .sentinel, .sentinel], laidTests := true, laidLooks := .later }
def SegmentPlaysUptoCardSaid : Prop := Claim7.holds Tryz.pinned (.plain (OpenSpec.upto segmentPlaysSpec)) segmentPlaysUptoCard

/-- THE SECOND FORM's CARD OF 'strandlinelaw22.SegmentFresh'. -/
def segmentFreshUptoCard : Claim7 := { stood := { row := segmentFreshUptoRow, standIns := [], harness := (true, "fac54af357f934ca874fa5bf23c21466ff3ce31e7610e9674976ec1141ac4afd"), looks := true }, kinds := [], alts := [], laidByText := true, laidKinds := [.data, .data, .data, .data, .sentinel, .sentinel], laidTests := true, laidLooks := .later }
def SegmentFreshUptoCardSaid : Prop := Claim7.holds Tryz.pinned (.plain (OpenSpec.upto segmentFreshSpec)) segmentFreshUptoCard

/-- THE SECOND FORM's CARD OF 'strandlinelaw22.SegmentNobody'. -/
def segmentNobodyUptoCard : Claim7 := { stood := { row := segmentNobodyUptoRow, standIns := [], harness := (true, "fac54af357f934ca874fa5bf23c21466ff3ce31e7610e9674976ec1141ac4afd"), looks := true }, kinds := [], alts := [], laidByText := true, laidKinds := [.data, .data, .data, .data, .sentinel, .sentinel], laidTests := true, laidLooks := .later }
def SegmentNobodyUptoCardSaid : Prop := Claim7.holds Tryz.pinned (.plain (OpenSpec.upto segmentNobodySpec)) segmentNobodyUptoCard
end Rows
end Go.Proofs.YtpoiapfgbbmekaaGreatDoor
