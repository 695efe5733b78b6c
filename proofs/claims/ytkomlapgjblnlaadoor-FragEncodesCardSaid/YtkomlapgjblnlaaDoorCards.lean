/-
  DERIVED. GIVEN WITH THE SEED: THE CARDS: each row of YtkomlapgjblnlaaDoorRows.lean that lists a variable, with what it lists TIED to the program's text (the seventh form; the later family's looks); each row that meets fmt, with fmt's text TOLD by the authors' own Lean function (tested against real Go, not proved from fmt's source: count such statements apart). THE CARD IS WHAT COUNTS. Prove the row's statement (the work); the ties are given (YtkomlapgjblnlaaDoorTie.lean); close each card by the builder's one call (the guide's Derived/Test/ToyasCard.lean, 'card_holds'). Laid BY PROGRAM, IN A SANDBOX (cutbox-door.mjs). By AI agents, Wed Nov 11 2026. No macro, syntax, notation, axiom, sorry.
-/
import Derived.Test.YtkomlapgjblnlaaDoorRows
import GoSem.ClaimSeven
namespace Go.Proofs.YtkomlapgjblnlaaDoor
namespace Rows

/-- THE TIED CARD OF 'strandlinelaw13.FragEncodes'. -/
def fragEncodesCard : Claim7 := { stood := { row := fragEncodesRow, standIns := [], harness := (true, "1416f6b54c35ee6c63afeb1639309c7732a4cfa2b196c67170ac8810ff5a4542"), looks := false }, kinds := [], alts := [], laidByText := true, laidKinds := [.data], laidTests := true, laidLooks := .later }
def FragEncodesCardSaid : Prop := Claim7.holds Tryd.pinned (.plain (OpenSpec.ofChange fragEncodesSpec)) fragEncodesCard

/-- THE TIED CARD OF 'strandlinelaw13.FragDecodes'. -/
def fragDecodesCard : Claim7 := { stood := { row := fragDecodesRow, standIns := [], harness := (true, "1416f6b54c35ee6c63afeb1639309c7732a4cfa2b196c67170ac8810ff5a4542"), looks := false }, kinds := [], alts := [], laidByText := true, laidKinds := [.data], laidTests := true, laidLooks := .later }
def FragDecodesCardSaid : Prop := Claim7.holds Tryd.pinned (.plain (OpenSpec.ofChange fragDecodesSpec)) fragDecodesCard

/-- THE TIED CARD OF 'strandlinelaw13.FragBursts'. -/
def fragBurstsCard : Claim7 := { stood := { row := fragBurstsRow, standIns := [], harness := (true, "1416f6b54c35ee6c63afeb1639309c7732a4cfa2b196c67170ac8810ff5a4542"), looks := false }, kinds := [], alts := [], laidByText := true, laidKinds := [.data], laidTests := true, laidLooks := .later }
def FragBurstsCardSaid : Prop := Claim7.holds Tryd.pinned (.plain (OpenSpec.ofChange fragBurstsSpec)) fragBurstsCard

/-- THE SECOND FORM's CARD OF 'strandlinelaw13.FragEncodes'. -/
def fragEncodesUptoCard : Claim7 := { stood := { row := fragEncodesUptoRow, standIns := [], harness := (true, "1416f6b54c35ee6c63afeb1639309c7732a4cfa2b196c67170ac8810ff5a4542"), looks := false }, kinds := [], alts := [], laidByText := true, laidKinds := [.data], laidTests := true, laidLooks := .later }
def FragEncodesUptoCardSaid : Prop := Claim7.holds Tryd.pinned (.plain (OpenSpec.upto fragEncodesSpec)) fragEncodesUptoCard

/-- THE SECOND FORM's CARD OF 'strandlinelaw13.FragDecodes'. -/
def fragDecodesUptoCard : Claim7 := { stood := { row := fragDecodesUptoRow, standIns := [], harness := (true, "1416f6b54c35ee6c63afeb1639309c7732a4cfa2b196c67170ac8810ff5a4542"), looks := false }, kinds := [], alts := [], laidByText := true, laidKinds := [.data], laidTests := true, laidLooks := .later }
def FragDecodesUptoCardSaid : Prop := Claim7.holds Tryd.pinned (.plain (OpenSpec.upto fragDecodesSpec)) fragDecodesUptoCard

/-- THE SECOND FORM's CARD OF 'strandlinelaw13.FragBursts'. -/
def fragBurstsUptoCard : Claim7 := { stood := { row := fragBurstsUptoRow, standIns := [], harness := (true, "1416f6b54c35ee6c63afeb1639309c7732a4cfa2b196c67170ac8810ff5a4542"), looks := false }, kinds := [], alts := [], laidByText := true, laidKinds := [.data], laidTests := true, laidLooks := .later }
def FragBurstsUptoCardSaid : Prop := Claim7.holds Tryd.pinned (.plain (OpenSpec.upto fragBurstsSpec)) fragBurstsUptoCard
end Rows
end Go.Proofs.YtkomlapgjblnlaaDoor
