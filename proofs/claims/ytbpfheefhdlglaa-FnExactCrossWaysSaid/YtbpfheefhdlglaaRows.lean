/-
  No cell of these rows narrows 'for every input' (looked for: loops, veiled, ifaces, maps, wideKeys, modest, calm, conditions, laid).
  DERIVED. THE GIVEN ROWS OF THIS SEAT. 12 by the template 'for every input the law returns true; each argument reads behind the call as it read before'; 0 by the template 'total and deterministic' (their statements: YtbpfheefhdlglaaTotals.lean).
  GIVEN WITH THE SEED: the statements are not yours to turn. If you find one false, say at which input.
  Laid BY PROGRAM, IN A SANDBOX (cutbox-rows.mjs): the forced cells as the released guide's own fill.sh prints them over the translation ddb332e27886dbdf… (all of the seat's roots in one cut). By AI agents, Wed Nov 11 2026. No macro, syntax, notation, axiom, sorry.
-/
import Derived.Test.YtbpfheefhdlglaaChecked
import GoSem.Claim
import GoSem.ClaimJoined
import GoSem.ClaimMapViews
import Derived.JoinedTies
import Derived.KernelRfl
namespace Go.Proofs.Ytbpfheefhdlglaa
/- THE CELL 'sum', in the pinned program and in every row, IS THE sha256 OF THE DUMP (.gsa) THAT YtbpfheefhdlglaaProg.lean LOADS. Nothing in Lean hashes anything: it is a label: what it is worth is what the hold of that sum in a sandbox is worth. -/
noncomputable def Try.pinned : Pinned := { name := "ytbpfheefhdlglaa", sum := "ddb332e27886dbdfc3d3ee7426e196c6444feb7496b0054c68deae4e23676ca4", checked := Try.checked }
namespace Rows
def none {H : Type} : Left H := { results := [], args := [] }

/-- 'laws.FnWays': WHATEVER THE INPUT: true; the input reads as it did. -/
def fnWaysSpec : ChangeSpec := { name := "fnWays", fn := fun _ => fun
  | [d1, d2] => { results := [.lit (.bool true)], args := [d1, d2] }
  | _ => none }
def fnWaysRow : OpenClaim := { program := "ytbpfheefhdlglaa", sum := "ddb332e27886dbdfc3d3ee7426e196c6444feb7496b0054c68deae4e23676ca4", func := "loop.example/g01341/laws.FnWays", spec := "fnWays", inPlace := ["math.Float64bits", "math.Float64frombits", "math.sqrt", "math.archFloor", "math.archTrunc"], unfollowed := true, recurses := true, apart := false }
def FnWaysSaid : Prop := fnWaysRow.holds Try.pinned (OpenSpec.ofChange fnWaysSpec)

/-- ITS FALSE NEIGHBOUR: 'it returns false'. Refute it at one input. -/
def fnWaysWrong : ChangeSpec := { name := "fnWays", fn := fun _ => fun
  | [d1, d2] => { results := [.lit (.bool false)], args := [d1, d2] }
  | _ => none }
def FnWaysWrongFalsely : Prop := fnWaysRow.holds Try.pinned (OpenSpec.ofChange fnWaysWrong)

/-- 'laws.FnBalls': WHATEVER THE INPUT: true; the input reads as it did. -/
def fnBallsSpec : ChangeSpec := { name := "fnBalls", fn := fun _ => fun
  | [d1, d2] => { results := [.lit (.bool true)], args := [d1, d2] }
  | _ => none }
def fnBallsRow : OpenClaim := { program := "ytbpfheefhdlglaa", sum := "ddb332e27886dbdfc3d3ee7426e196c6444feb7496b0054c68deae4e23676ca4", func := "loop.example/g01341/laws.FnBalls", spec := "fnBalls", inPlace := ["math.Float64bits", "math.Float64frombits", "math.sqrt", "math.archFloor", "math.archTrunc"], apart := false }
def FnBallsSaid : Prop := fnBallsRow.holds Try.pinned (OpenSpec.ofChange fnBallsSpec)

/-- ITS FALSE NEIGHBOUR: 'it returns false'. Refute it at one input. -/
def fnBallsWrong : ChangeSpec := { name := "fnBalls", fn := fun _ => fun
  | [d1, d2] => { results := [.lit (.bool false)], args := [d1, d2] }
  | _ => none }
def FnBallsWrongFalsely : Prop := fnBallsRow.holds Try.pinned (OpenSpec.ofChange fnBallsWrong)

/-- 'laws.FnCompass': WHATEVER THE INPUT: true; the input reads as it did. -/
def fnCompassSpec : ChangeSpec := { name := "fnCompass", fn := fun _ => fun
  | [d1, d2] => { results := [.lit (.bool true)], args := [d1, d2] }
  | _ => none }
def fnCompassRow : OpenClaim := { program := "ytbpfheefhdlglaa", sum := "ddb332e27886dbdfc3d3ee7426e196c6444feb7496b0054c68deae4e23676ca4", func := "loop.example/g01341/laws.FnCompass", spec := "fnCompass", inPlace := ["math.Float64bits", "math.Float64frombits", "math.archFloor", "math.archTrunc", "math.sqrt"], unfollowed := true, recurses := true, apart := false }
def FnCompassSaid : Prop := fnCompassRow.holds Try.pinned (OpenSpec.ofChange fnCompassSpec)

/-- ITS FALSE NEIGHBOUR: 'it returns false'. Refute it at one input. -/
def fnCompassWrong : ChangeSpec := { name := "fnCompass", fn := fun _ => fun
  | [d1, d2] => { results := [.lit (.bool false)], args := [d1, d2] }
  | _ => none }
def FnCompassWrongFalsely : Prop := fnCompassRow.holds Try.pinned (OpenSpec.ofChange fnCompassWrong)

/-- 'laws.FnExactValidPlace': WHATEVER THE INPUT: true; the input reads as it did. -/
def fnExactValidPlaceSpec : ChangeSpec := { name := "fnExactValidPlace", fn := fun _ => fun
  | [d] => { results := [.lit (.bool true)], args := [d] }
  | _ => none }
def fnExactValidPlaceRow : OpenClaim := { program := "ytbpfheefhdlglaa", sum := "ddb332e27886dbdfc3d3ee7426e196c6444feb7496b0054c68deae4e23676ca4", func := "loop.example/g01341/laws.FnExactValidPlace", spec := "fnExactValidPlace", apart := false }
def FnExactValidPlaceSaid : Prop := fnExactValidPlaceRow.holds Try.pinned (OpenSpec.ofChange fnExactValidPlaceSpec)

/-- ITS FALSE NEIGHBOUR: 'it returns false'. Refute it at one input. -/
def fnExactValidPlaceWrong : ChangeSpec := { name := "fnExactValidPlace", fn := fun _ => fun
  | [d] => { results := [.lit (.bool false)], args := [d] }
  | _ => none }
def FnExactValidPlaceWrongFalsely : Prop := fnExactValidPlaceRow.holds Try.pinned (OpenSpec.ofChange fnExactValidPlaceWrong)

/-- 'laws.FnExactSamePlace': WHATEVER THE INPUT: true; the input reads as it did. -/
def fnExactSamePlaceSpec : ChangeSpec := { name := "fnExactSamePlace", fn := fun _ => fun
  | [d1, d2] => { results := [.lit (.bool true)], args := [d1, d2] }
  | _ => none }
def fnExactSamePlaceRow : OpenClaim := { program := "ytbpfheefhdlglaa", sum := "ddb332e27886dbdfc3d3ee7426e196c6444feb7496b0054c68deae4e23676ca4", func := "loop.example/g01341/laws.FnExactSamePlace", spec := "fnExactSamePlace", inPlace := ["math.Float32bits"], apart := false }
def FnExactSamePlaceSaid : Prop := fnExactSamePlaceRow.holds Try.pinned (OpenSpec.ofChange fnExactSamePlaceSpec)

/-- ITS FALSE NEIGHBOUR: 'it returns false'. Refute it at one input. -/
def fnExactSamePlaceWrong : ChangeSpec := { name := "fnExactSamePlace", fn := fun _ => fun
  | [d1, d2] => { results := [.lit (.bool false)], args := [d1, d2] }
  | _ => none }
def FnExactSamePlaceWrongFalsely : Prop := fnExactSamePlaceRow.holds Try.pinned (OpenSpec.ofChange fnExactSamePlaceWrong)

/-- 'laws.FnExactArePlaces': WHATEVER THE INPUT: true; the input reads as it did. -/
def fnExactArePlacesSpec : ChangeSpec := { name := "fnExactArePlaces", fn := fun _ => fun
  | [d] => { results := [.lit (.bool true)], args := [d] }
  | _ => none }
def fnExactArePlacesRow : OpenClaim := { program := "ytbpfheefhdlglaa", sum := "ddb332e27886dbdfc3d3ee7426e196c6444feb7496b0054c68deae4e23676ca4", func := "loop.example/g01341/laws.FnExactArePlaces", spec := "fnExactArePlaces", apart := false }
def FnExactArePlacesSaid : Prop := fnExactArePlacesRow.holds Try.pinned (OpenSpec.ofChange fnExactArePlacesSpec)

/-- ITS FALSE NEIGHBOUR: 'it returns false'. Refute it at one input. -/
def fnExactArePlacesWrong : ChangeSpec := { name := "fnExactArePlaces", fn := fun _ => fun
  | [d] => { results := [.lit (.bool false)], args := [d] }
  | _ => none }
def FnExactArePlacesWrongFalsely : Prop := fnExactArePlacesRow.holds Try.pinned (OpenSpec.ofChange fnExactArePlacesWrong)

/-- 'laws.FnExactWrapEast': WHATEVER THE INPUT: true; the input reads as it did. -/
def fnExactWrapEastSpec : ChangeSpec := { name := "fnExactWrapEast", fn := fun _ => fun
  | [d] => { results := [.lit (.bool true)], args := [d] }
  | _ => none }
def fnExactWrapEastRow : OpenClaim := { program := "ytbpfheefhdlglaa", sum := "ddb332e27886dbdfc3d3ee7426e196c6444feb7496b0054c68deae4e23676ca4", func := "loop.example/g01341/laws.FnExactWrapEast", spec := "fnExactWrapEast", inPlace := ["math.archFloor", "math.Float64bits", "math.Float64frombits", "math.archTrunc"], apart := false }
def FnExactWrapEastSaid : Prop := fnExactWrapEastRow.holds Try.pinned (OpenSpec.ofChange fnExactWrapEastSpec)

/-- ITS FALSE NEIGHBOUR: 'it returns false'. Refute it at one input. -/
def fnExactWrapEastWrong : ChangeSpec := { name := "fnExactWrapEast", fn := fun _ => fun
  | [d] => { results := [.lit (.bool false)], args := [d] }
  | _ => none }
def FnExactWrapEastWrongFalsely : Prop := fnExactWrapEastRow.holds Try.pinned (OpenSpec.ofChange fnExactWrapEastWrong)

/-- 'laws.FnExactWayOf': WHATEVER THE INPUT: true; the input reads as it did. -/
def fnExactWayOfSpec : ChangeSpec := { name := "fnExactWayOf", fn := fun _ => fun
  | [d] => { results := [.lit (.bool true)], args := [d] }
  | _ => none }
def fnExactWayOfRow : OpenClaim := { program := "ytbpfheefhdlglaa", sum := "ddb332e27886dbdfc3d3ee7426e196c6444feb7496b0054c68deae4e23676ca4", func := "loop.example/g01341/laws.FnExactWayOf", spec := "fnExactWayOf", inPlace := ["math.Float64frombits", "math.Float64bits"], apart := false }
def FnExactWayOfSaid : Prop := fnExactWayOfRow.holds Try.pinned (OpenSpec.ofChange fnExactWayOfSpec)

/-- ITS FALSE NEIGHBOUR: 'it returns false'. Refute it at one input. -/
def fnExactWayOfWrong : ChangeSpec := { name := "fnExactWayOf", fn := fun _ => fun
  | [d] => { results := [.lit (.bool false)], args := [d] }
  | _ => none }
def FnExactWayOfWrongFalsely : Prop := fnExactWayOfRow.holds Try.pinned (OpenSpec.ofChange fnExactWayOfWrong)

/-- 'laws.FnExactDotWays': WHATEVER THE INPUT: true; the input reads as it did. -/
def fnExactDotWaysSpec : ChangeSpec := { name := "fnExactDotWays", fn := fun _ => fun
  | [d1, d2] => { results := [.lit (.bool true)], args := [d1, d2] }
  | _ => none }
def fnExactDotWaysRow : OpenClaim := { program := "ytbpfheefhdlglaa", sum := "ddb332e27886dbdfc3d3ee7426e196c6444feb7496b0054c68deae4e23676ca4", func := "loop.example/g01341/laws.FnExactDotWays", spec := "fnExactDotWays", inPlace := ["math.Float64bits", "math.Float64frombits"], unfollowed := true, recurses := true, apart := false }
def FnExactDotWaysSaid : Prop := fnExactDotWaysRow.holds Try.pinned (OpenSpec.ofChange fnExactDotWaysSpec)

/-- ITS FALSE NEIGHBOUR: 'it returns false'. Refute it at one input. -/
def fnExactDotWaysWrong : ChangeSpec := { name := "fnExactDotWays", fn := fun _ => fun
  | [d1, d2] => { results := [.lit (.bool false)], args := [d1, d2] }
  | _ => none }
def FnExactDotWaysWrongFalsely : Prop := fnExactDotWaysRow.holds Try.pinned (OpenSpec.ofChange fnExactDotWaysWrong)

/-- 'laws.FnExactCrossWays': WHATEVER THE INPUT: true; the input reads as it did. -/
def fnExactCrossWaysSpec : ChangeSpec := { name := "fnExactCrossWays", fn := fun _ => fun
  | [d1, d2] => { results := [.lit (.bool true)], args := [d1, d2] }
  | _ => none }
def fnExactCrossWaysRow : OpenClaim := { program := "ytbpfheefhdlglaa", sum := "ddb332e27886dbdfc3d3ee7426e196c6444feb7496b0054c68deae4e23676ca4", func := "loop.example/g01341/laws.FnExactCrossWays", spec := "fnExactCrossWays", inPlace := ["math.Float64bits", "math.Float64frombits"], unfollowed := true, recurses := true, apart := false }
def FnExactCrossWaysSaid : Prop := fnExactCrossWaysRow.holds Try.pinned (OpenSpec.ofChange fnExactCrossWaysSpec)

/-- ITS FALSE NEIGHBOUR: 'it returns false'. Refute it at one input. -/
def fnExactCrossWaysWrong : ChangeSpec := { name := "fnExactCrossWays", fn := fun _ => fun
  | [d1, d2] => { results := [.lit (.bool false)], args := [d1, d2] }
  | _ => none }
def FnExactCrossWaysWrongFalsely : Prop := fnExactCrossWaysRow.holds Try.pinned (OpenSpec.ofChange fnExactCrossWaysWrong)

/-- 'laws.FnExactLongOfWay': WHATEVER THE INPUT: true; the input reads as it did. -/
def fnExactLongOfWaySpec : ChangeSpec := { name := "fnExactLongOfWay", fn := fun _ => fun
  | [d] => { results := [.lit (.bool true)], args := [d] }
  | _ => none }
def fnExactLongOfWayRow : OpenClaim := { program := "ytbpfheefhdlglaa", sum := "ddb332e27886dbdfc3d3ee7426e196c6444feb7496b0054c68deae4e23676ca4", func := "loop.example/g01341/laws.FnExactLongOfWay", spec := "fnExactLongOfWay", inPlace := ["math.sqrt", "math.Float64bits", "math.Float64frombits"], apart := false }
def FnExactLongOfWaySaid : Prop := fnExactLongOfWayRow.holds Try.pinned (OpenSpec.ofChange fnExactLongOfWaySpec)

/-- ITS FALSE NEIGHBOUR: 'it returns false'. Refute it at one input. -/
def fnExactLongOfWayWrong : ChangeSpec := { name := "fnExactLongOfWay", fn := fun _ => fun
  | [d] => { results := [.lit (.bool false)], args := [d] }
  | _ => none }
def FnExactLongOfWayWrongFalsely : Prop := fnExactLongOfWayRow.holds Try.pinned (OpenSpec.ofChange fnExactLongOfWayWrong)

/-- 'laws.FnExactPlaceOfWay': WHATEVER THE INPUT: true; the input reads as it did. -/
def fnExactPlaceOfWaySpec : ChangeSpec := { name := "fnExactPlaceOfWay", fn := fun _ => fun
  | [d] => { results := [.lit (.bool true)], args := [d] }
  | _ => none }
def fnExactPlaceOfWayRow : OpenClaim := { program := "ytbpfheefhdlglaa", sum := "ddb332e27886dbdfc3d3ee7426e196c6444feb7496b0054c68deae4e23676ca4", func := "loop.example/g01341/laws.FnExactPlaceOfWay", spec := "fnExactPlaceOfWay", inPlace := ["math.sqrt", "math.Float64frombits", "math.Float64bits", "math.archFloor", "math.archTrunc"], apart := false }
def FnExactPlaceOfWaySaid : Prop := fnExactPlaceOfWayRow.holds Try.pinned (OpenSpec.ofChange fnExactPlaceOfWaySpec)

/-- ITS FALSE NEIGHBOUR: 'it returns false'. Refute it at one input. -/
def fnExactPlaceOfWayWrong : ChangeSpec := { name := "fnExactPlaceOfWay", fn := fun _ => fun
  | [d] => { results := [.lit (.bool false)], args := [d] }
  | _ => none }
def FnExactPlaceOfWayWrongFalsely : Prop := fnExactPlaceOfWayRow.holds Try.pinned (OpenSpec.ofChange fnExactPlaceOfWayWrong)

/- THE SECOND FORM. 'bulk': how many values and letters a reading holds, each counted each time it is reached (what is shared counts as often as it is met; a slice's spare places count too). A statement '..UptoSaid' is the law's where the arguments, and the package variables that the reading takes, are together of bulk at most 1048576: NARROWER than '..Said'. Prove '..Said' where nothing that the law and all that it calls make is longer than what came in: it says more and counts as full. Else prove '..UptoSaid'. A law counts once. -/
mutual
def uptoBulk {H : Type} : DataW H → Nat
  | .lit (.string bytes) => bytes.length + 1
  | .lit _ => 1
  | .nil => 1
  | .ptr d => uptoBulk d + 1
  | .slice elems spare => uptoBulkAll elems + uptoBulkAll spare + 1
  | .agg parts => uptoBulkAll parts + 1
  | .iface _ d => uptoBulk d + 1
  | .map entries => uptoBulkEntries entries + 1
  | .held _ => 1
def uptoBulkAll {H : Type} : List (DataW H) → Nat
  | [] => 0
  | d :: r => uptoBulk d + uptoBulkAll r
def uptoBulkEntries {H : Type} : List (Lit × DataW H) → Nat
  | [] => 0
  | x :: r => uptoBulkEntry x + uptoBulkEntries r
def uptoBulkEntry {H : Type} : Lit × DataW H → Nat
  | (.string bytes, d) => bytes.length + uptoBulk d + 1
  | (_, d) => uptoBulk d + 1
 end
def uptoSmall : (H : Type) → List (DataW H) → Bool := fun _ ds => decide (uptoBulkAll ds ≤ 1048576)
def OpenSpec.upto (s : _root_.Go.ChangeSpec) : _root_.Go.OpenSpec := { _root_.Go.OpenSpec.ofChange s with cond := some uptoSmall }

/-- 'laws.FnWays', WHERE WHAT IT READS IS OF BULK AT MOST 1048576: true; the input reads as it did. -/
def fnWaysUptoRow : OpenClaim := { program := "ytbpfheefhdlglaa", sum := "ddb332e27886dbdfc3d3ee7426e196c6444feb7496b0054c68deae4e23676ca4", func := "loop.example/g01341/laws.FnWays", spec := "fnWays", inPlace := ["math.Float64bits", "math.Float64frombits", "math.sqrt", "math.archFloor", "math.archTrunc"], unfollowed := true, recurses := true, apart := false, narrowed := true }
def FnWaysUptoSaid : Prop := fnWaysUptoRow.holds Try.pinned (OpenSpec.upto fnWaysSpec)

/-- 'laws.FnBalls', WHERE WHAT IT READS IS OF BULK AT MOST 1048576: true; the input reads as it did. -/
def fnBallsUptoRow : OpenClaim := { program := "ytbpfheefhdlglaa", sum := "ddb332e27886dbdfc3d3ee7426e196c6444feb7496b0054c68deae4e23676ca4", func := "loop.example/g01341/laws.FnBalls", spec := "fnBalls", inPlace := ["math.Float64bits", "math.Float64frombits", "math.sqrt", "math.archFloor", "math.archTrunc"], apart := false, narrowed := true }
def FnBallsUptoSaid : Prop := fnBallsUptoRow.holds Try.pinned (OpenSpec.upto fnBallsSpec)

/-- 'laws.FnCompass', WHERE WHAT IT READS IS OF BULK AT MOST 1048576: true; the input reads as it did. -/
def fnCompassUptoRow : OpenClaim := { program := "ytbpfheefhdlglaa", sum := "ddb332e27886dbdfc3d3ee7426e196c6444feb7496b0054c68deae4e23676ca4", func := "loop.example/g01341/laws.FnCompass", spec := "fnCompass", inPlace := ["math.Float64bits", "math.Float64frombits", "math.archFloor", "math.archTrunc", "math.sqrt"], unfollowed := true, recurses := true, apart := false, narrowed := true }
def FnCompassUptoSaid : Prop := fnCompassUptoRow.holds Try.pinned (OpenSpec.upto fnCompassSpec)

/-- 'laws.FnExactValidPlace', WHERE WHAT IT READS IS OF BULK AT MOST 1048576: true; the input reads as it did. -/
def fnExactValidPlaceUptoRow : OpenClaim := { program := "ytbpfheefhdlglaa", sum := "ddb332e27886dbdfc3d3ee7426e196c6444feb7496b0054c68deae4e23676ca4", func := "loop.example/g01341/laws.FnExactValidPlace", spec := "fnExactValidPlace", apart := false, narrowed := true }
def FnExactValidPlaceUptoSaid : Prop := fnExactValidPlaceUptoRow.holds Try.pinned (OpenSpec.upto fnExactValidPlaceSpec)

/-- 'laws.FnExactSamePlace', WHERE WHAT IT READS IS OF BULK AT MOST 1048576: true; the input reads as it did. -/
def fnExactSamePlaceUptoRow : OpenClaim := { program := "ytbpfheefhdlglaa", sum := "ddb332e27886dbdfc3d3ee7426e196c6444feb7496b0054c68deae4e23676ca4", func := "loop.example/g01341/laws.FnExactSamePlace", spec := "fnExactSamePlace", inPlace := ["math.Float32bits"], apart := false, narrowed := true }
def FnExactSamePlaceUptoSaid : Prop := fnExactSamePlaceUptoRow.holds Try.pinned (OpenSpec.upto fnExactSamePlaceSpec)

/-- 'laws.FnExactArePlaces', WHERE WHAT IT READS IS OF BULK AT MOST 1048576: true; the input reads as it did. -/
def fnExactArePlacesUptoRow : OpenClaim := { program := "ytbpfheefhdlglaa", sum := "ddb332e27886dbdfc3d3ee7426e196c6444feb7496b0054c68deae4e23676ca4", func := "loop.example/g01341/laws.FnExactArePlaces", spec := "fnExactArePlaces", apart := false, narrowed := true }
def FnExactArePlacesUptoSaid : Prop := fnExactArePlacesUptoRow.holds Try.pinned (OpenSpec.upto fnExactArePlacesSpec)

/-- 'laws.FnExactWrapEast', WHERE WHAT IT READS IS OF BULK AT MOST 1048576: true; the input reads as it did. -/
def fnExactWrapEastUptoRow : OpenClaim := { program := "ytbpfheefhdlglaa", sum := "ddb332e27886dbdfc3d3ee7426e196c6444feb7496b0054c68deae4e23676ca4", func := "loop.example/g01341/laws.FnExactWrapEast", spec := "fnExactWrapEast", inPlace := ["math.archFloor", "math.Float64bits", "math.Float64frombits", "math.archTrunc"], apart := false, narrowed := true }
def FnExactWrapEastUptoSaid : Prop := fnExactWrapEastUptoRow.holds Try.pinned (OpenSpec.upto fnExactWrapEastSpec)

/-- 'laws.FnExactWayOf', WHERE WHAT IT READS IS OF BULK AT MOST 1048576: true; the input reads as it did. -/
def fnExactWayOfUptoRow : OpenClaim := { program := "ytbpfheefhdlglaa", sum := "ddb332e27886dbdfc3d3ee7426e196c6444feb7496b0054c68deae4e23676ca4", func := "loop.example/g01341/laws.FnExactWayOf", spec := "fnExactWayOf", inPlace := ["math.Float64frombits", "math.Float64bits"], apart := false, narrowed := true }
def FnExactWayOfUptoSaid : Prop := fnExactWayOfUptoRow.holds Try.pinned (OpenSpec.upto fnExactWayOfSpec)

/-- 'laws.FnExactDotWays', WHERE WHAT IT READS IS OF BULK AT MOST 1048576: true; the input reads as it did. -/
def fnExactDotWaysUptoRow : OpenClaim := { program := "ytbpfheefhdlglaa", sum := "ddb332e27886dbdfc3d3ee7426e196c6444feb7496b0054c68deae4e23676ca4", func := "loop.example/g01341/laws.FnExactDotWays", spec := "fnExactDotWays", inPlace := ["math.Float64bits", "math.Float64frombits"], unfollowed := true, recurses := true, apart := false, narrowed := true }
def FnExactDotWaysUptoSaid : Prop := fnExactDotWaysUptoRow.holds Try.pinned (OpenSpec.upto fnExactDotWaysSpec)

/-- 'laws.FnExactCrossWays', WHERE WHAT IT READS IS OF BULK AT MOST 1048576: true; the input reads as it did. -/
def fnExactCrossWaysUptoRow : OpenClaim := { program := "ytbpfheefhdlglaa", sum := "ddb332e27886dbdfc3d3ee7426e196c6444feb7496b0054c68deae4e23676ca4", func := "loop.example/g01341/laws.FnExactCrossWays", spec := "fnExactCrossWays", inPlace := ["math.Float64bits", "math.Float64frombits"], unfollowed := true, recurses := true, apart := false, narrowed := true }
def FnExactCrossWaysUptoSaid : Prop := fnExactCrossWaysUptoRow.holds Try.pinned (OpenSpec.upto fnExactCrossWaysSpec)

/-- 'laws.FnExactLongOfWay', WHERE WHAT IT READS IS OF BULK AT MOST 1048576: true; the input reads as it did. -/
def fnExactLongOfWayUptoRow : OpenClaim := { program := "ytbpfheefhdlglaa", sum := "ddb332e27886dbdfc3d3ee7426e196c6444feb7496b0054c68deae4e23676ca4", func := "loop.example/g01341/laws.FnExactLongOfWay", spec := "fnExactLongOfWay", inPlace := ["math.sqrt", "math.Float64bits", "math.Float64frombits"], apart := false, narrowed := true }
def FnExactLongOfWayUptoSaid : Prop := fnExactLongOfWayUptoRow.holds Try.pinned (OpenSpec.upto fnExactLongOfWaySpec)

/-- 'laws.FnExactPlaceOfWay', WHERE WHAT IT READS IS OF BULK AT MOST 1048576: true; the input reads as it did. -/
def fnExactPlaceOfWayUptoRow : OpenClaim := { program := "ytbpfheefhdlglaa", sum := "ddb332e27886dbdfc3d3ee7426e196c6444feb7496b0054c68deae4e23676ca4", func := "loop.example/g01341/laws.FnExactPlaceOfWay", spec := "fnExactPlaceOfWay", inPlace := ["math.sqrt", "math.Float64frombits", "math.Float64bits", "math.archFloor", "math.archTrunc"], apart := false, narrowed := true }
def FnExactPlaceOfWayUptoSaid : Prop := fnExactPlaceOfWayUptoRow.holds Try.pinned (OpenSpec.upto fnExactPlaceOfWaySpec)

end Rows
end Go.Proofs.Ytbpfheefhdlglaa
