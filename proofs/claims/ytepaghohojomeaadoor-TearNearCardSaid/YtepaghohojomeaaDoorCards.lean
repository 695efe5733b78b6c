/-
  DERIVED. GIVEN WITH THE SEED: THE CARDS: each row of YtepaghohojomeaaDoorRows.lean that lists a variable, with what it lists TIED to the program's text (the seventh form; the later family's looks); each row that meets fmt, with fmt's text TOLD by the authors' own Lean function (tested against real Go, not proved from fmt's source: count such statements apart). THE CARD IS WHAT COUNTS. Prove the row's statement (the work); the ties are given (YtepaghohojomeaaDoorTie.lean); close each card by the builder's one call (the guide's Derived/Test/ToyasCard.lean, 'card_holds'). Laid BY PROGRAM, IN A SANDBOX (cutbox-door.mjs). By AI agents, Wed Nov 11 2026. No macro, syntax, notation, axiom, sorry.
-/
import Derived.Test.YtepaghohojomeaaDoorRows
import GoSem.ClaimSeven
namespace Go.Proofs.YtepaghohojomeaaDoor
namespace Rows

/-- THE TIED CARD OF 'strandlinelaw20.TearTells'. -/
def tearTellsCard : Claim7 := { stood := { row := tearTellsRow, standIns := [], harness := (true, "95c402e1bbe8b5c21131d04c065a24c082f6ea188a0baed5a881f7ee1606df4a"), looks := false }, kinds := [], alts := [], laidByText := true, laidKinds := [.data], laidTests := true, laidLooks := .later }
def TearTellsCardSaid : Prop := Claim7.holds Tryd.pinned (.plain (OpenSpec.ofChange tearTellsSpec)) tearTellsCard

/-- THE TIED CARD OF 'strandlinelaw20.TearScans'. -/
def tearScansCard : Claim7 := { stood := { row := tearScansRow, standIns := [], harness := (true, "95c402e1bbe8b5c21131d04c065a24c082f6ea188a0baed5a881f7ee1606df4a"), looks := false }, kinds := [], alts := [], laidByText := true, laidKinds := [.data], laidTests := true, laidLooks := .later }
def TearScansCardSaid : Prop := Claim7.holds Tryd.pinned (.plain (OpenSpec.ofChange tearScansSpec)) tearScansCard

/-- THE TIED CARD OF 'strandlinelaw20.TearNear'. -/
def tearNearCard : Claim7 := { stood := { row := tearNearRow, standIns := [], harness := (true, "95c402e1bbe8b5c21131d04c065a24c082f6ea188a0baed5a881f7ee1606df4a"), looks := false }, kinds := [], alts := [], laidByText := true, laidKinds := [.data], laidTests := true, laidLooks := .later }
def TearNearCardSaid : Prop := Claim7.holds Tryd.pinned (.plain (OpenSpec.ofChange tearNearSpec)) tearNearCard

/-- THE SECOND FORM's CARD OF 'strandlinelaw20.TearTells'. -/
def tearTellsUptoCard : Claim7 := { stood := { row := tearTellsUptoRow, standIns := [], harness := (true, "95c402e1bbe8b5c21131d04c065a24c082f6ea188a0baed5a881f7ee1606df4a"), looks := false }, kinds := [], alts := [], laidByText := true, laidKinds := [.data], laidTests := true, laidLooks := .later }
def TearTellsUptoCardSaid : Prop := Claim7.holds Tryd.pinned (.plain (OpenSpec.upto tearTellsSpec)) tearTellsUptoCard

/-- THE SECOND FORM's CARD OF 'strandlinelaw20.TearScans'. -/
def tearScansUptoCard : Claim7 := { stood := { row := tearScansUptoRow, standIns := [], harness := (true, "95c402e1bbe8b5c21131d04c065a24c082f6ea188a0baed5a881f7ee1606df4a"), looks := false }, kinds := [], alts := [], laidByText := true, laidKinds := [.data], laidTests := true, laidLooks := .later }
def TearScansUptoCardSaid : Prop := Claim7.holds Tryd.pinned (.plain (OpenSpec.upto tearScansSpec)) tearScansUptoCard

/-- THE SECOND FORM's CARD OF 'strandlinelaw20.TearNear'. -/
def tearNearUptoCard : Claim7 := { stood := { row := tearNearUptoRow, standIns := [], harness := (true, "95c402e1bbe8b5c21131d04c065a24c082f6ea188a0baed5a881f7ee1606df4a"), looks := false }, kinds := [], alts := [], laidByText := true, laidKinds := [.data], laidTests := true, laidLooks := .later }
def TearNearUptoCardSaid : Prop := Claim7.holds Tryd.pinned (.plain (OpenSpec.upto tearNearSpec)) tearNearUptoCard
end Rows
end Go.Proofs.YtepaghohojomeaaDoor
