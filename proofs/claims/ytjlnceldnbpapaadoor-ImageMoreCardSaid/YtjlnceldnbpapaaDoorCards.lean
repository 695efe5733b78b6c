/-
  DERIVED. GIVEN WITH THE SEED: THE CARDS: each row of YtjlnceldnbpapaaDoorRows.lean that lists a variable, with what it lists TIED to the program's text (the seventh form; the later family's looks); each row that meets fmt, with fmt's text TOLD by the authors' own Lean function (tested against real Go, not proved from fmt's source: count such statements apart). THE CARD IS WHAT COUNTS. Prove the row's statement (the work); the ties are given (YtjlnceldnbpapaaDoorTie.lean); close each card by the builder's one call (the guide's Derived/Test/ToyasCard.lean, 'card_holds'). Laid BY PROGRAM, IN A SANDBOX (cutbox-door.mjs). By AI agents, Wed Nov 11 2026. No macro, syntax, notation, axiom, sorry.
-/
import Derived.Test.YtjlnceldnbpapaaDoorRows
import GoSem.ClaimSeven
namespace Go.Proofs.YtjlnceldnbpapaaDoor
namespace Rows

/-- THE TIED CARD OF 'strandlinelaw17.ImageBodies'. -/
def imageBodiesCard : Claim7 := { stood := { row := imageBodiesRow, standIns := [], harness := (true, "3fb13bb449c45befe337913e966bcff6473af6945d21e64c202462fde2a91771"), looks := false }, kinds := [], alts := [], laidByText := true, laidKinds := [.data], laidTests := true, laidLooks := .later }
def ImageBodiesCardSaid : Prop := Claim7.holds Tryd.pinned (.plain (OpenSpec.ofChange imageBodiesSpec)) imageBodiesCard

/-- THE TIED CARD OF 'strandlinelaw17.ImageAdds'. -/
def imageAddsCard : Claim7 := { stood := { row := imageAddsRow, standIns := [], harness := (true, "3fb13bb449c45befe337913e966bcff6473af6945d21e64c202462fde2a91771"), looks := false }, kinds := [], alts := [], laidByText := true, laidKinds := [.data], laidTests := true, laidLooks := .later }
def ImageAddsCardSaid : Prop := Claim7.holds Tryd.pinned (.plain (OpenSpec.ofChange imageAddsSpec)) imageAddsCard

/-- THE TIED CARD OF 'strandlinelaw17.ImageMore'. -/
def imageMoreCard : Claim7 := { stood := { row := imageMoreRow, standIns := [], harness := (true, "3fb13bb449c45befe337913e966bcff6473af6945d21e64c202462fde2a91771"), looks := false }, kinds := [], alts := [], laidByText := true, laidKinds := [.data], laidTests := true, laidLooks := .later }
def ImageMoreCardSaid : Prop := Claim7.holds Tryd.pinned (.plain (OpenSpec.ofChange imageMoreSpec)) imageMoreCard

/-- THE SECOND FORM's CARD OF 'strandlinelaw17.ImageBodies'. -/
def imageBodiesUptoCard : Claim7 := { stood := { row := imageBodiesUptoRow, standIns := [], harness := (true, "3fb13bb449c45befe337913e966bcff6473af6945d21e64c202462fde2a91771"), looks := false }, kinds := [], alts := [], laidByText := true, laidKinds := [.data], laidTests := true, laidLooks := .later }
def ImageBodiesUptoCardSaid : Prop := Claim7.holds Tryd.pinned (.plain (OpenSpec.upto imageBodiesSpec)) imageBodiesUptoCard

/-- THE SECOND FORM's CARD OF 'strandlinelaw17.ImageAdds'. -/
def imageAddsUptoCard : Claim7 := { stood := { row := imageAddsUptoRow, standIns := [], harness := (true, "3fb13bb449c45befe337913e966bcff6473af6945d21e64c202462fde2a91771"), looks := false }, kinds := [], alts := [], laidByText := true, laidKinds := [.data], laidTests := true, laidLooks := .later }
def ImageAddsUptoCardSaid : Prop := Claim7.holds Tryd.pinned (.plain (OpenSpec.upto imageAddsSpec)) imageAddsUptoCard

/-- THE SECOND FORM's CARD OF 'strandlinelaw17.ImageMore'. -/
def imageMoreUptoCard : Claim7 := { stood := { row := imageMoreUptoRow, standIns := [], harness := (true, "3fb13bb449c45befe337913e966bcff6473af6945d21e64c202462fde2a91771"), looks := false }, kinds := [], alts := [], laidByText := true, laidKinds := [.data], laidTests := true, laidLooks := .later }
def ImageMoreUptoCardSaid : Prop := Claim7.holds Tryd.pinned (.plain (OpenSpec.upto imageMoreSpec)) imageMoreUptoCard
end Rows
end Go.Proofs.YtjlnceldnbpapaaDoor
