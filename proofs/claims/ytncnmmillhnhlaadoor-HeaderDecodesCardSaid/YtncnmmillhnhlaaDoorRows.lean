/-
  NARROWER THAN 'FOR EVERY INPUT', by the rows' own cells (each row's printed sentence says how): HeaderEncodes: laid · HeaderDecodes: laid · HeaderBursts: laid.
  DERIVED. THE GIVEN ROWS OF THIS SEAT. 3 by the template 'for every input the law returns true; each argument reads behind the call as it read before'; 0 by the template 'total and deterministic' (their statements: YtncnmmillhnhlaaDoorTotals.lean).
  GIVEN WITH THE SEED: the statements are not yours to turn. If you find one false, say at which input.
  Laid BY PROGRAM, IN A SANDBOX (cutbox-rows.mjs): the forced cells as the released guide's own fill.sh prints them over the translation 1410ee88e789841b… (all of the seat's roots in one cut). By AI agents, Wed Nov 11 2026. No macro, syntax, notation, axiom, sorry.
-/
import Derived.Test.YtncnmmillhnhlaaDoorChecked
import GoSem.Claim
import GoSem.ClaimJoined
import GoSem.ClaimMapViews
import Derived.JoinedTies
import Derived.KernelRfl
namespace Go.Proofs.YtncnmmillhnhlaaDoor
/- THE CELL 'sum', in the pinned program and in every row, IS THE sha256 OF THE DUMP (.gsa) THAT YtncnmmillhnhlaaDoorProg.lean LOADS. Nothing in Lean hashes anything: it is a label: what it is worth is what the hold of that sum in a sandbox is worth. -/
noncomputable def Tryd.pinned : Pinned := { name := "ytncnmmillhnhlaadoor", sum := "1410ee88e789841b4a38979c9c5237fec77dcab87179bfb4d4383875b535a260", checked := Tryd.checked }
namespace Rows
def none {H : Type} : Left H := { results := [], args := [] }

/- WHAT THE LISTED PACKAGE-LEVEL VARIABLES READ AS WHEN THE CALL BEGINS. Each datum BY PROGRAM (the guide's laid-datum.mjs) off the statement by which the dump's own 'gosem.cut.vars' lays the variable. In a bare row this is a premise. The card (YtncnmmillhnhlaaDoorCards.lean) ties it to the program's text. -/
def laid_strandline_crc_half {H : Type} : DataW H := .agg [.lit (.int .u32 0), .lit (.int .u32 274646895), .lit (.int .u32 549293790), .lit (.int .u32 820201905), .lit (.int .u32 1098587580), .lit (.int .u32 1361435347), .lit (.int .u32 1640403810), .lit (.int .u32 1905808397), .lit (.int .u32 2197175160), .lit (.int .u32 2460548119), .lit (.int .u32 2722870694), .lit (.int .u32 2987750089), .lit (.int .u32 3280807620), .lit (.int .u32 3553878443), .lit (.int .u32 3811616794), .lit (.int .u32 4084100981)]

/-- 'strandlinelaw18.HeaderEncodes': WHATEVER THE INPUT: true; the input reads as it did. -/
def headerEncodesSpec : ChangeSpec := { name := "headerEncodes", fn := fun _ => fun
  | [d1, d2] => { results := [.lit (.bool true)], args := [d1, d2] }
  | _ => none }
def headerEncodesRow : OpenClaim := { program := "ytncnmmillhnhlaadoor", sum := "1410ee88e789841b4a38979c9c5237fec77dcab87179bfb4d4383875b535a260", func := "strandline/strandlinelaw18.HeaderEncodes", spec := "headerEncodes", named := ["strandline/crc.half"], apart := false, laid := [("strandline/crc.half", laid_strandline_crc_half)] }
def HeaderEncodesSaid : Prop := headerEncodesRow.holds Tryd.pinned (OpenSpec.ofChange headerEncodesSpec)

/-- ITS FALSE NEIGHBOUR: 'it returns false'. Refute it at one input. -/
def headerEncodesWrong : ChangeSpec := { name := "headerEncodes", fn := fun _ => fun
  | [d1, d2] => { results := [.lit (.bool false)], args := [d1, d2] }
  | _ => none }
def HeaderEncodesWrongFalsely : Prop := headerEncodesRow.holds Tryd.pinned (OpenSpec.ofChange headerEncodesWrong)

/-- 'strandlinelaw18.HeaderDecodes': WHATEVER THE INPUT: true; the input reads as it did. -/
def headerDecodesSpec : ChangeSpec := { name := "headerDecodes", fn := fun _ => fun
  | [d] => { results := [.lit (.bool true)], args := [d] }
  | _ => none }
def headerDecodesRow : OpenClaim := { program := "ytncnmmillhnhlaadoor", sum := "1410ee88e789841b4a38979c9c5237fec77dcab87179bfb4d4383875b535a260", func := "strandline/strandlinelaw18.HeaderDecodes", spec := "headerDecodes", named := ["strandline/crc.half"], apart := false, laid := [("strandline/crc.half", laid_strandline_crc_half)] }
def HeaderDecodesSaid : Prop := headerDecodesRow.holds Tryd.pinned (OpenSpec.ofChange headerDecodesSpec)

/-- ITS FALSE NEIGHBOUR: 'it returns false'. Refute it at one input. -/
def headerDecodesWrong : ChangeSpec := { name := "headerDecodes", fn := fun _ => fun
  | [d] => { results := [.lit (.bool false)], args := [d] }
  | _ => none }
def HeaderDecodesWrongFalsely : Prop := headerDecodesRow.holds Tryd.pinned (OpenSpec.ofChange headerDecodesWrong)

/-- 'strandlinelaw18.HeaderBursts': WHATEVER THE INPUT: true; the input reads as it did. -/
def headerBurstsSpec : ChangeSpec := { name := "headerBursts", fn := fun _ => fun
  | [d1, d2, d3] => { results := [.lit (.bool true)], args := [d1, d2, d3] }
  | _ => none }
def headerBurstsRow : OpenClaim := { program := "ytncnmmillhnhlaadoor", sum := "1410ee88e789841b4a38979c9c5237fec77dcab87179bfb4d4383875b535a260", func := "strandline/strandlinelaw18.HeaderBursts", spec := "headerBursts", named := ["strandline/crc.half"], apart := false, laid := [("strandline/crc.half", laid_strandline_crc_half)] }
def HeaderBurstsSaid : Prop := headerBurstsRow.holds Tryd.pinned (OpenSpec.ofChange headerBurstsSpec)

/-- ITS FALSE NEIGHBOUR: 'it returns false'. Refute it at one input. -/
def headerBurstsWrong : ChangeSpec := { name := "headerBursts", fn := fun _ => fun
  | [d1, d2, d3] => { results := [.lit (.bool false)], args := [d1, d2, d3] }
  | _ => none }
def HeaderBurstsWrongFalsely : Prop := headerBurstsRow.holds Tryd.pinned (OpenSpec.ofChange headerBurstsWrong)

/- THE SECOND FORM. 'bulk': how many values and letters a reading holds, each counted each time it is reached (what is shared counts as often as it is met; a slice's spare places count too). A statement '..UptoSaid' is the law's where the arguments, and the package variables that the reading takes, are together of bulk at most 1048576: NARROWER than '..Said'. Prove '..Said' where nothing that the law and all that it calls make is longer than what came in: it says more and counts as full. Else prove '..UptoSaid'. A law counts once. -/
mutual
def uptoBulk {H : Type} : DataW H → Nat
  | .lit (.string bytes) => bytes.length + 1
  | .lit _ => 1
  | .nil => 1
  | .ptr d => uptoBulk d + 1
  | .slice elems spare => uptoBulkAll elems + uptoBulkAll spare + 1
  | .agg parts => uptoBulkAll parts + 1
  | .iface _ d => uptoBulk d + 1
  | .map entries => uptoBulkEntries entries + 1
  | .held _ => 1
def uptoBulkAll {H : Type} : List (DataW H) → Nat
  | [] => 0
  | d :: r => uptoBulk d + uptoBulkAll r
def uptoBulkEntries {H : Type} : List (Lit × DataW H) → Nat
  | [] => 0
  | x :: r => uptoBulkEntry x + uptoBulkEntries r
def uptoBulkEntry {H : Type} : Lit × DataW H → Nat
  | (.string bytes, d) => bytes.length + uptoBulk d + 1
  | (_, d) => uptoBulk d + 1
 end
def uptoSmall : (H : Type) → List (DataW H) → Bool := fun _ ds => decide (uptoBulkAll ds ≤ 1048576)
def OpenSpec.upto (s : _root_.Go.ChangeSpec) : _root_.Go.OpenSpec := { _root_.Go.OpenSpec.ofChange s with cond := some uptoSmall }

/-- 'strandlinelaw18.HeaderEncodes', WHERE WHAT IT READS IS OF BULK AT MOST 1048576: true; the input reads as it did. -/
def headerEncodesUptoRow : OpenClaim := { program := "ytncnmmillhnhlaadoor", sum := "1410ee88e789841b4a38979c9c5237fec77dcab87179bfb4d4383875b535a260", func := "strandline/strandlinelaw18.HeaderEncodes", spec := "headerEncodes", named := ["strandline/crc.half"], apart := false, laid := [("strandline/crc.half", laid_strandline_crc_half)], narrowed := true }
def HeaderEncodesUptoSaid : Prop := headerEncodesUptoRow.holds Tryd.pinned (OpenSpec.upto headerEncodesSpec)

/-- 'strandlinelaw18.HeaderDecodes', WHERE WHAT IT READS IS OF BULK AT MOST 1048576: true; the input reads as it did. -/
def headerDecodesUptoRow : OpenClaim := { program := "ytncnmmillhnhlaadoor", sum := "1410ee88e789841b4a38979c9c5237fec77dcab87179bfb4d4383875b535a260", func := "strandline/strandlinelaw18.HeaderDecodes", spec := "headerDecodes", named := ["strandline/crc.half"], apart := false, laid := [("strandline/crc.half", laid_strandline_crc_half)], narrowed := true }
def HeaderDecodesUptoSaid : Prop := headerDecodesUptoRow.holds Tryd.pinned (OpenSpec.upto headerDecodesSpec)

/-- 'strandlinelaw18.HeaderBursts', WHERE WHAT IT READS IS OF BULK AT MOST 1048576: true; the input reads as it did. -/
def headerBurstsUptoRow : OpenClaim := { program := "ytncnmmillhnhlaadoor", sum := "1410ee88e789841b4a38979c9c5237fec77dcab87179bfb4d4383875b535a260", func := "strandline/strandlinelaw18.HeaderBursts", spec := "headerBursts", named := ["strandline/crc.half"], apart := false, laid := [("strandline/crc.half", laid_strandline_crc_half)], narrowed := true }
def HeaderBurstsUptoSaid : Prop := headerBurstsUptoRow.holds Tryd.pinned (OpenSpec.upto headerBurstsSpec)

end Rows
end Go.Proofs.YtncnmmillhnhlaaDoor
