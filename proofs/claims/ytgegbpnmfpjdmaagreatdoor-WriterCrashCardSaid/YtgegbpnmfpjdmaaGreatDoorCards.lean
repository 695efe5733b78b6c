/-
  DERIVED. GIVEN WITH THE SEED: THE CARDS: each row of YtgegbpnmfpjdmaaGreatDoorRows.lean that lists a variable, with what it lists TIED to the program's text (the seventh form; the later family's looks); each row that meets fmt, with fmt's text TOLD by the authors' own Lean function (tested against real Go, not proved from fmt's source: count such statements apart). THE CARD IS WHAT COUNTS. Prove the row's statement (the work); the ties are given (YtgegbpnmfpjdmaaGreatDoorTie.lean); close each card by the builder's one call (the guide's Derived/Test/ToyasCard.lean, 'card_holds'). Laid BY PROGRAM, IN A SANDBOX (cutbox-door.mjs). By AI agents, Wed Nov 11 2026. No macro, syntax, notation, axiom, sorry.
-/
import Derived.Test.YtgegbpnmfpjdmaaGreatDoorRows
import GoSem.ClaimSeven
namespace Go.Proofs.YtgegbpnmfpjdmaaGreatDoor
namespace Rows

/-- THE TIED CARD OF 'strandlinelaw23.WriterWrites'. -/
def writerWritesCard : Claim7 := { stood := { row := writerWritesRow, standIns := [], harness := (true, "36cca4231fbec51a355cc1e69965c1231d4f4cd337745a5962a888a39a1e3e80"), looks := false }, kinds := [], alts := [], laidByText := true, laidKinds := [.data, .data, .data, .data], laidTests := true, laidLooks := .later }
def WriterWritesCardSaid : Prop := Claim7.holds Tryz.pinned (.plain (OpenSpec.ofChange writerWritesSpec)) writerWritesCard

/-- THE TIED CARD OF 'strandlinelaw23.WriterCrash'. -/
def writerCrashCard : Claim7 := { stood := { row := writerCrashRow, standIns := [], harness := (true, "36cca4231fbec51a355cc1e69965c1231d4f4cd337745a5962a888a39a1e3e80"), looks := false }, kinds := [], alts := [], laidByText := true, laidKinds := [.data, .data, .data, .data], laidTests := true, laidLooks := .later }
def WriterCrashCardSaid : Prop := Claim7.holds Tryz.pinned (.plain (OpenSpec.ofChange writerCrashSpec)) writerCrashCard

/-- THE TIED CARD OF 'strandlinelaw23.WriterNobody'. -/
def writerNobodyCard : Claim7 := { stood := { row := writerNobodyRow, standIns := [], harness := (true, "36cca4231fbec51a355cc1e69965c1231d4f4cd337745a5962a888a39a1e3e80"), looks := false }, kinds := [], alts := [], laidByText := true, laidKinds := [.data, .data, .data, .data], laidTests := true, laidLooks := .later }
def WriterNobodyCardSaid : Prop := Claim7.holds Tryz.pinned (.plain (OpenSpec.ofChange writerNobodySpec)) writerNobodyCard

/-- THE SECOND FORM's CARD OF 'strandlinelaw23.WriterWrites'. -/
def writerWritesUptoCard : Claim7 := { stood := { row := writerWritesUptoRow, standIns := [], harness := (true, "36cca4231fbec51a355cc1e69965c1231d4f4cd337745a5962a888a39a1e3e80"), looks := false }, kinds := [], alts := [], laidByText := true, laidKinds := [.data, .data, .data, .data], laidTests := true, laidLooks := .later }
def WriterWritesUptoCardSaid : Prop := Claim7.holds Tryz.pinned (.plain (OpenSpec.upto writerWritesSpec)) writerWritesUptoCard

/-- THE SECOND FORM's CARD OF 'strandlinelaw23.WriterCrash'. -/
def writerCrashUptoCard : Claim7 := { stood := { row := writerCrashUptoRow, standIns := [], harness := (true, "36cca4231fbec51a355cc1e69965c1231d4f4cd337745a5962a888a39a1e3e80"), looks := false }, kinds := [], alts := [], laidByText := true, laidKinds := [.data, .data, .data, .data], laidTests := true, laidLooks := .later }
def WriterCrashUptoCardSaid : Prop := Claim7.holds Tryz.pinned (.plain (OpenSpec.upto writerCrashSpec)) writerCrashUptoCard

/-- THE SECOND FORM's CARD OF 'strandlinelaw23.WriterNobody'. -/
def writerNobodyUptoCard : Claim7 := { stood := { row := writerNobodyUptoRow, standIns := [], harness := (true, "36cca4231fbec51a355cc1e69965c1231d4f4cd337745a5962a888a39a1e3e80"), looks := false }, kinds := [], alts := [], laidByText := true, laidKinds := [.data, .data, .data, .data], laidTests := true, laidLooks := .later }
def WriterNobodyUptoCardSaid : Prop := Claim7.holds Tryz.pinned (.plain (OpenSpec.upto writerNobodySpec)) writerNobodyUptoCard
end Rows
end Go.Proofs.YtgegbpnmfpjdmaaGreatDoor
