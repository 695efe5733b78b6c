/-
  No cell of these rows narrows 'for every input' (looked for: loops, veiled, ifaces, maps, wideKeys, modest, calm, conditions, laid).
  DERIVED. THE GIVEN ROWS OF THIS SEAT. 3 by the template 'for every input the law returns true; each argument reads behind the call as it read before'; 0 by the template 'total and deterministic' (their statements: YtepmiooemjjhdaaTotals.lean).
  GIVEN WITH THE SEED: the statements are not yours to turn. If you find one false, say at which input.
  Laid BY PROGRAM, IN A SANDBOX (cutbox-rows.mjs): the forced cells as the released guide's own fill.sh prints them over the translation 4eb40d67db819985… (all of the seat's roots in one cut). By AI agents, Wed Nov 11 2026. No macro, syntax, notation, axiom, sorry.
-/
import Derived.Test.YtepmiooemjjhdaaChecked
import GoSem.Claim
import GoSem.ClaimJoined
import GoSem.ClaimMapViews
import Derived.JoinedTies
import Derived.KernelRfl
namespace Go.Proofs.Ytepmiooemjjhdaa
/- THE CELL 'sum', in the pinned program and in every row, IS THE sha256 OF THE DUMP (.gsa) THAT YtepmiooemjjhdaaProg.lean LOADS. Nothing in Lean hashes anything: it is a label: what it is worth is what the hold of that sum in a sandbox is worth. -/
noncomputable def Try.pinned : Pinned := { name := "ytepmiooemjjhdaa", sum := "4eb40d67db81998574734baec4141a8146bcd443fc96a20313aa3373340993e3", checked := Try.checked }
namespace Rows
def none {H : Type} : Left H := { results := [], args := [] }

/-- 'strandlinelaw14.CutPieces': WHATEVER THE INPUT: true; the input reads as it did. -/
def cutPiecesSpec : ChangeSpec := { name := "cutPieces", fn := fun _ => fun
  | [d1, d2] => { results := [.lit (.bool true)], args := [d1, d2] }
  | _ => none }
def cutPiecesRow : OpenClaim := { program := "ytepmiooemjjhdaa", sum := "4eb40d67db81998574734baec4141a8146bcd443fc96a20313aa3373340993e3", func := "strandline/strandlinelaw14.CutPieces", spec := "cutPieces", unfollowed := true, recurses := true, apart := false }
def CutPiecesSaid : Prop := cutPiecesRow.holds Try.pinned (OpenSpec.ofChange cutPiecesSpec)

/-- ITS FALSE NEIGHBOUR: 'it returns false'. Refute it at one input. -/
def cutPiecesWrong : ChangeSpec := { name := "cutPieces", fn := fun _ => fun
  | [d1, d2] => { results := [.lit (.bool false)], args := [d1, d2] }
  | _ => none }
def CutPiecesWrongFalsely : Prop := cutPiecesRow.holds Try.pinned (OpenSpec.ofChange cutPiecesWrong)

/-- 'strandlinelaw14.CutRooms': WHATEVER THE INPUT: true; the input reads as it did. -/
def cutRoomsSpec : ChangeSpec := { name := "cutRooms", fn := fun _ => fun
  | [d] => { results := [.lit (.bool true)], args := [d] }
  | _ => none }
def cutRoomsRow : OpenClaim := { program := "ytepmiooemjjhdaa", sum := "4eb40d67db81998574734baec4141a8146bcd443fc96a20313aa3373340993e3", func := "strandline/strandlinelaw14.CutRooms", spec := "cutRooms", unfollowed := true, recurses := true, apart := false }
def CutRoomsSaid : Prop := cutRoomsRow.holds Try.pinned (OpenSpec.ofChange cutRoomsSpec)

/-- ITS FALSE NEIGHBOUR: 'it returns false'. Refute it at one input. -/
def cutRoomsWrong : ChangeSpec := { name := "cutRooms", fn := fun _ => fun
  | [d] => { results := [.lit (.bool false)], args := [d] }
  | _ => none }
def CutRoomsWrongFalsely : Prop := cutRoomsRow.holds Try.pinned (OpenSpec.ofChange cutRoomsWrong)

/-- 'strandlinelaw14.CutFrags': WHATEVER THE INPUT: true; the input reads as it did. -/
def cutFragsSpec : ChangeSpec := { name := "cutFrags", fn := fun _ => fun
  | [d1, d2, d3] => { results := [.lit (.bool true)], args := [d1, d2, d3] }
  | _ => none }
def cutFragsRow : OpenClaim := { program := "ytepmiooemjjhdaa", sum := "4eb40d67db81998574734baec4141a8146bcd443fc96a20313aa3373340993e3", func := "strandline/strandlinelaw14.CutFrags", spec := "cutFrags", unfollowed := true, recurses := true, apart := false }
def CutFragsSaid : Prop := cutFragsRow.holds Try.pinned (OpenSpec.ofChange cutFragsSpec)

/-- ITS FALSE NEIGHBOUR: 'it returns false'. Refute it at one input. -/
def cutFragsWrong : ChangeSpec := { name := "cutFrags", fn := fun _ => fun
  | [d1, d2, d3] => { results := [.lit (.bool false)], args := [d1, d2, d3] }
  | _ => none }
def CutFragsWrongFalsely : Prop := cutFragsRow.holds Try.pinned (OpenSpec.ofChange cutFragsWrong)

/- THE SECOND FORM. 'bulk': how many values and letters a reading holds, each counted each time it is reached (what is shared counts as often as it is met; a slice's spare places count too). A statement '..UptoSaid' is the law's where the arguments, and the package variables that the reading takes, are together of bulk at most 1048576: NARROWER than '..Said'. Prove '..Said' where nothing that the law and all that it calls make is longer than what came in: it says more and counts as full. Else prove '..UptoSaid'. A law counts once. -/
mutual
def uptoBulk {H : Type} : DataW H → Nat
  | .lit (.string bytes) => bytes.length + 1
  | .lit _ => 1
  | .nil => 1
  | .ptr d => uptoBulk d + 1
  | .slice elems spare => uptoBulkAll elems + uptoBulkAll spare + 1
  | .agg parts => uptoBulkAll parts + 1
  | .iface _ d => uptoBulk d + 1
  | .map entries => uptoBulkEntries entries + 1
  | .held _ => 1
def uptoBulkAll {H : Type} : List (DataW H) → Nat
  | [] => 0
  | d :: r => uptoBulk d + uptoBulkAll r
def uptoBulkEntries {H : Type} : List (Lit × DataW H) → Nat
  | [] => 0
  | x :: r => uptoBulkEntry x + uptoBulkEntries r
def uptoBulkEntry {H : Type} : Lit × DataW H → Nat
  | (.string bytes, d) => bytes.length + uptoBulk d + 1
  | (_, d) => uptoBulk d + 1
 end
def uptoSmall : (H : Type) → List (DataW H) → Bool := fun _ ds => decide (uptoBulkAll ds ≤ 1048576)
def OpenSpec.upto (s : _root_.Go.ChangeSpec) : _root_.Go.OpenSpec := { _root_.Go.OpenSpec.ofChange s with cond := some uptoSmall }

/-- 'strandlinelaw14.CutPieces', WHERE WHAT IT READS IS OF BULK AT MOST 1048576: true; the input reads as it did. -/
def cutPiecesUptoRow : OpenClaim := { program := "ytepmiooemjjhdaa", sum := "4eb40d67db81998574734baec4141a8146bcd443fc96a20313aa3373340993e3", func := "strandline/strandlinelaw14.CutPieces", spec := "cutPieces", unfollowed := true, recurses := true, apart := false, narrowed := true }
def CutPiecesUptoSaid : Prop := cutPiecesUptoRow.holds Try.pinned (OpenSpec.upto cutPiecesSpec)

/-- 'strandlinelaw14.CutRooms', WHERE WHAT IT READS IS OF BULK AT MOST 1048576: true; the input reads as it did. -/
def cutRoomsUptoRow : OpenClaim := { program := "ytepmiooemjjhdaa", sum := "4eb40d67db81998574734baec4141a8146bcd443fc96a20313aa3373340993e3", func := "strandline/strandlinelaw14.CutRooms", spec := "cutRooms", unfollowed := true, recurses := true, apart := false, narrowed := true }
def CutRoomsUptoSaid : Prop := cutRoomsUptoRow.holds Try.pinned (OpenSpec.upto cutRoomsSpec)

/-- 'strandlinelaw14.CutFrags', WHERE WHAT IT READS IS OF BULK AT MOST 1048576: true; the input reads as it did. -/
def cutFragsUptoRow : OpenClaim := { program := "ytepmiooemjjhdaa", sum := "4eb40d67db81998574734baec4141a8146bcd443fc96a20313aa3373340993e3", func := "strandline/strandlinelaw14.CutFrags", spec := "cutFrags", unfollowed := true, recurses := true, apart := false, narrowed := true }
def CutFragsUptoSaid : Prop := cutFragsUptoRow.holds Try.pinned (OpenSpec.upto cutFragsSpec)

end Rows
end Go.Proofs.Ytepmiooemjjhdaa
