/-
  DERIVED. GIVEN WITH THE SEED: THE CARDS: each row of YtncnmmillhnhlaaDoorRows.lean that lists a variable, with what it lists TIED to the program's text (the seventh form; the later family's looks); each row that meets fmt, with fmt's text TOLD by the authors' own Lean function (tested against real Go, not proved from fmt's source: count such statements apart). THE CARD IS WHAT COUNTS. Prove the row's statement (the work); the ties are given (YtncnmmillhnhlaaDoorTie.lean); close each card by the builder's one call (the guide's Derived/Test/ToyasCard.lean, 'card_holds'). Laid BY PROGRAM, IN A SANDBOX (cutbox-door.mjs). By AI agents, Wed Nov 11 2026. No macro, syntax, notation, axiom, sorry.
-/
import Derived.Test.YtncnmmillhnhlaaDoorRows
import GoSem.ClaimSeven
namespace Go.Proofs.YtncnmmillhnhlaaDoor
namespace Rows

/-- THE TIED CARD OF 'strandlinelaw18.HeaderEncodes'. -/
def headerEncodesCard : Claim7 := { stood := { row := headerEncodesRow, standIns := [], harness := (true, "adc8b8a88225db9bcd89a3ddcd98b4ae138f6f711d6730f3270be0f531391650"), looks := false }, kinds := [], alts := [], laidByText := true, laidKinds := [.data], laidTests := true, laidLooks := .later }
def HeaderEncodesCardSaid : Prop := Claim7.holds Tryd.pinned (.plain (OpenSpec.ofChange headerEncodesSpec)) headerEncodesCard

/-- THE TIED CARD OF 'strandlinelaw18.HeaderDecodes'. -/
def headerDecodesCard : Claim7 := { stood := { row := headerDecodesRow, standIns := [], harness := (true, "adc8b8a88225db9bcd89a3ddcd98b4ae138f6f711d6730f3270be0f531391650"), looks := false }, kinds := [], alts := [], laidByText := true, laidKinds := [.data], laidTests := true, laidLooks := .later }
def HeaderDecodesCardSaid : Prop := Claim7.holds Tryd.pinned (.plain (OpenSpec.ofChange headerDecodesSpec)) headerDecodesCard

/-- THE TIED CARD OF 'strandlinelaw18.HeaderBursts'. -/
def headerBurstsCard : Claim7 := { stood := { row := headerBurstsRow, standIns := [], harness := (true, "adc8b8a88225db9bcd89a3ddcd98b4ae138f6f711d6730f3270be0f531391650"), looks := false }, kinds := [], alts := [], laidByText := true, laidKinds := [.data], laidTests := true, laidLooks := .later }
def HeaderBurstsCardSaid : Prop := Claim7.holds Tryd.pinned (.plain (OpenSpec.ofChange headerBurstsSpec)) headerBurstsCard

/-- THE SECOND FORM's CARD OF 'strandlinelaw18.HeaderEncodes'. -/
def headerEncodesUptoCard : Claim7 := { stood := { row := headerEncodesUptoRow, standIns := [], harness := (true, "adc8b8a88225db9bcd89a3ddcd98b4ae138f6f711d6730f3270be0f531391650"), looks := false }, kinds := [], alts := [], laidByText := true, laidKinds := [.data], laidTests := true, laidLooks := .later }
def HeaderEncodesUptoCardSaid : Prop := Claim7.holds Tryd.pinned (.plain (OpenSpec.upto headerEncodesSpec)) headerEncodesUptoCard

/-- THE SECOND FORM's CARD OF 'strandlinelaw18.HeaderDecodes'. -/
def headerDecodesUptoCard : Claim7 := { stood := { row := headerDecodesUptoRow, standIns := [], harness := (true, "adc8b8a88225db9bcd89a3ddcd98b4ae138f6f711d6730f3270be0f531391650"), looks := false }, kinds := [], alts := [], laidByText := true, laidKinds := [.data], laidTests := true, laidLooks := .later }
def HeaderDecodesUptoCardSaid : Prop := Claim7.holds Tryd.pinned (.plain (OpenSpec.upto headerDecodesSpec)) headerDecodesUptoCard

/-- THE SECOND FORM's CARD OF 'strandlinelaw18.HeaderBursts'. -/
def headerBurstsUptoCard : Claim7 := { stood := { row := headerBurstsUptoRow, standIns := [], harness := (true, "adc8b8a88225db9bcd89a3ddcd98b4ae138f6f711d6730f3270be0f531391650"), looks := false }, kinds := [], alts := [], laidByText := true, laidKinds := [.data], laidTests := true, laidLooks := .later }
def HeaderBurstsUptoCardSaid : Prop := Claim7.holds Tryd.pinned (.plain (OpenSpec.upto headerBurstsSpec)) headerBurstsUptoCard
end Rows
end Go.Proofs.YtncnmmillhnhlaaDoor
