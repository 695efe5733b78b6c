/-
  NARROWER THAN 'FOR EVERY INPUT', by the rows' own cells (each row's printed sentence says how): ImageBodies: laid · ImageAdds: laid · ImageMore: laid.
  DERIVED. THE GIVEN ROWS OF THIS SEAT. 3 by the template 'for every input the law returns true; each argument reads behind the call as it read before'; 0 by the template 'total and deterministic' (their statements: YtjlnceldnbpapaaDoorTotals.lean).
  GIVEN WITH THE SEED: the statements are not yours to turn. If you find one false, say at which input.
  Laid BY PROGRAM, IN A SANDBOX (cutbox-rows.mjs): the forced cells as the released guide's own fill.sh prints them over the translation 02309addb398e905… (all of the seat's roots in one cut). By AI agents, Wed Nov 11 2026. No macro, syntax, notation, axiom, sorry.
-/
import Derived.Test.YtjlnceldnbpapaaDoorChecked
import GoSem.Claim
import GoSem.ClaimJoined
import GoSem.ClaimMapViews
import Derived.JoinedTies
import Derived.KernelRfl
namespace Go.Proofs.YtjlnceldnbpapaaDoor
/- THE CELL 'sum', in the pinned program and in every row, IS THE sha256 OF THE DUMP (.gsa) THAT YtjlnceldnbpapaaDoorProg.lean LOADS. Nothing in Lean hashes anything: it is a label: what it is worth is what the hold of that sum in a sandbox is worth. -/
noncomputable def Tryd.pinned : Pinned := { name := "ytjlnceldnbpapaadoor", sum := "02309addb398e9055ff72d4f11f46fd949ce82872b6c7a4e05983380adb0f5cc", checked := Tryd.checked }
namespace Rows
def none {H : Type} : Left H := { results := [], args := [] }

/- WHAT THE LISTED PACKAGE-LEVEL VARIABLES READ AS WHEN THE CALL BEGINS. Each datum BY PROGRAM (the guide's laid-datum.mjs) off the statement by which the dump's own 'gosem.cut.vars' lays the variable. In a bare row this is a premise. The card (YtjlnceldnbpapaaDoorCards.lean) ties it to the program's text. -/
def laid_strandline_crc_half {H : Type} : DataW H := .agg [.lit (.int .u32 0), .lit (.int .u32 274646895), .lit (.int .u32 549293790), .lit (.int .u32 820201905), .lit (.int .u32 1098587580), .lit (.int .u32 1361435347), .lit (.int .u32 1640403810), .lit (.int .u32 1905808397), .lit (.int .u32 2197175160), .lit (.int .u32 2460548119), .lit (.int .u32 2722870694), .lit (.int .u32 2987750089), .lit (.int .u32 3280807620), .lit (.int .u32 3553878443), .lit (.int .u32 3811616794), .lit (.int .u32 4084100981)]

/-- 'strandlinelaw17.ImageBodies': WHATEVER THE INPUT: true; the input reads as it did. -/
def imageBodiesSpec : ChangeSpec := { name := "imageBodies", fn := fun _ => fun
  | [d1, d2] => { results := [.lit (.bool true)], args := [d1, d2] }
  | _ => none }
def imageBodiesRow : OpenClaim := { program := "ytjlnceldnbpapaadoor", sum := "02309addb398e9055ff72d4f11f46fd949ce82872b6c7a4e05983380adb0f5cc", func := "strandline/strandlinelaw17.ImageBodies", spec := "imageBodies", unfollowed := true, recurses := true, named := ["strandline/crc.half"], apart := false, laid := [("strandline/crc.half", laid_strandline_crc_half)] }
def ImageBodiesSaid : Prop := imageBodiesRow.holds Tryd.pinned (OpenSpec.ofChange imageBodiesSpec)

/-- ITS FALSE NEIGHBOUR: 'it returns false'. Refute it at one input. -/
def imageBodiesWrong : ChangeSpec := { name := "imageBodies", fn := fun _ => fun
  | [d1, d2] => { results := [.lit (.bool false)], args := [d1, d2] }
  | _ => none }
def ImageBodiesWrongFalsely : Prop := imageBodiesRow.holds Tryd.pinned (OpenSpec.ofChange imageBodiesWrong)

/-- 'strandlinelaw17.ImageAdds': WHATEVER THE INPUT: true; the input reads as it did. -/
def imageAddsSpec : ChangeSpec := { name := "imageAdds", fn := fun _ => fun
  | [d1, d2, d3] => { results := [.lit (.bool true)], args := [d1, d2, d3] }
  | _ => none }
def imageAddsRow : OpenClaim := { program := "ytjlnceldnbpapaadoor", sum := "02309addb398e9055ff72d4f11f46fd949ce82872b6c7a4e05983380adb0f5cc", func := "strandline/strandlinelaw17.ImageAdds", spec := "imageAdds", unfollowed := true, recurses := true, named := ["strandline/crc.half"], apart := false, laid := [("strandline/crc.half", laid_strandline_crc_half)] }
def ImageAddsSaid : Prop := imageAddsRow.holds Tryd.pinned (OpenSpec.ofChange imageAddsSpec)

/-- ITS FALSE NEIGHBOUR: 'it returns false'. Refute it at one input. -/
def imageAddsWrong : ChangeSpec := { name := "imageAdds", fn := fun _ => fun
  | [d1, d2, d3] => { results := [.lit (.bool false)], args := [d1, d2, d3] }
  | _ => none }
def ImageAddsWrongFalsely : Prop := imageAddsRow.holds Tryd.pinned (OpenSpec.ofChange imageAddsWrong)

/-- 'strandlinelaw17.ImageMore': WHATEVER THE INPUT: true; the input reads as it did. -/
def imageMoreSpec : ChangeSpec := { name := "imageMore", fn := fun _ => fun
  | [d1, d2, d3] => { results := [.lit (.bool true)], args := [d1, d2, d3] }
  | _ => none }
def imageMoreRow : OpenClaim := { program := "ytjlnceldnbpapaadoor", sum := "02309addb398e9055ff72d4f11f46fd949ce82872b6c7a4e05983380adb0f5cc", func := "strandline/strandlinelaw17.ImageMore", spec := "imageMore", unfollowed := true, recurses := true, named := ["strandline/crc.half"], apart := false, laid := [("strandline/crc.half", laid_strandline_crc_half)] }
def ImageMoreSaid : Prop := imageMoreRow.holds Tryd.pinned (OpenSpec.ofChange imageMoreSpec)

/-- ITS FALSE NEIGHBOUR: 'it returns false'. Refute it at one input. -/
def imageMoreWrong : ChangeSpec := { name := "imageMore", fn := fun _ => fun
  | [d1, d2, d3] => { results := [.lit (.bool false)], args := [d1, d2, d3] }
  | _ => none }
def ImageMoreWrongFalsely : Prop := imageMoreRow.holds Tryd.pinned (OpenSpec.ofChange imageMoreWrong)

/- THE SECOND FORM. 'bulk': how many values and letters a reading holds, each counted each time it is reached (what is shared counts as often as it is met; a slice's spare places count too). A statement '..UptoSaid' is the law's where the arguments, and the package variables that the reading takes, are together of bulk at most 1048576: NARROWER than '..Said'. Prove '..Said' where nothing that the law and all that it calls make is longer than what came in: it says more and counts as full. Else prove '..UptoSaid'. A law counts once. -/
mutual
def uptoBulk {H : Type} : DataW H → Nat
  | .lit (.string bytes) => bytes.length + 1
  | .lit _ => 1
  | .nil => 1
  | .ptr d => uptoBulk d + 1
  | .slice elems spare => uptoBulkAll elems + uptoBulkAll spare + 1
  | .agg parts => uptoBulkAll parts + 1
  | .iface _ d => uptoBulk d + 1
  | .map entries => uptoBulkEntries entries + 1
  | .held _ => 1
def uptoBulkAll {H : Type} : List (DataW H) → Nat
  | [] => 0
  | d :: r => uptoBulk d + uptoBulkAll r
def uptoBulkEntries {H : Type} : List (Lit × DataW H) → Nat
  | [] => 0
  | x :: r => uptoBulkEntry x + uptoBulkEntries r
def uptoBulkEntry {H : Type} : Lit × DataW H → Nat
  | (.string bytes, d) => bytes.length + uptoBulk d + 1
  | (_, d) => uptoBulk d + 1
 end
def uptoSmall : (H : Type) → List (DataW H) → Bool := fun _ ds => decide (uptoBulkAll ds ≤ 1048576)
def OpenSpec.upto (s : _root_.Go.ChangeSpec) : _root_.Go.OpenSpec := { _root_.Go.OpenSpec.ofChange s with cond := some uptoSmall }

/-- 'strandlinelaw17.ImageBodies', WHERE WHAT IT READS IS OF BULK AT MOST 1048576: true; the input reads as it did. -/
def imageBodiesUptoRow : OpenClaim := { program := "ytjlnceldnbpapaadoor", sum := "02309addb398e9055ff72d4f11f46fd949ce82872b6c7a4e05983380adb0f5cc", func := "strandline/strandlinelaw17.ImageBodies", spec := "imageBodies", unfollowed := true, recurses := true, named := ["strandline/crc.half"], apart := false, laid := [("strandline/crc.half", laid_strandline_crc_half)], narrowed := true }
def ImageBodiesUptoSaid : Prop := imageBodiesUptoRow.holds Tryd.pinned (OpenSpec.upto imageBodiesSpec)

/-- 'strandlinelaw17.ImageAdds', WHERE WHAT IT READS IS OF BULK AT MOST 1048576: true; the input reads as it did. -/
def imageAddsUptoRow : OpenClaim := { program := "ytjlnceldnbpapaadoor", sum := "02309addb398e9055ff72d4f11f46fd949ce82872b6c7a4e05983380adb0f5cc", func := "strandline/strandlinelaw17.ImageAdds", spec := "imageAdds", unfollowed := true, recurses := true, named := ["strandline/crc.half"], apart := false, laid := [("strandline/crc.half", laid_strandline_crc_half)], narrowed := true }
def ImageAddsUptoSaid : Prop := imageAddsUptoRow.holds Tryd.pinned (OpenSpec.upto imageAddsSpec)

/-- 'strandlinelaw17.ImageMore', WHERE WHAT IT READS IS OF BULK AT MOST 1048576: true; the input reads as it did. -/
def imageMoreUptoRow : OpenClaim := { program := "ytjlnceldnbpapaadoor", sum := "02309addb398e9055ff72d4f11f46fd949ce82872b6c7a4e05983380adb0f5cc", func := "strandline/strandlinelaw17.ImageMore", spec := "imageMore", unfollowed := true, recurses := true, named := ["strandline/crc.half"], apart := false, laid := [("strandline/crc.half", laid_strandline_crc_half)], narrowed := true }
def ImageMoreUptoSaid : Prop := imageMoreUptoRow.holds Tryd.pinned (OpenSpec.upto imageMoreSpec)

end Rows
end Go.Proofs.YtjlnceldnbpapaaDoor
