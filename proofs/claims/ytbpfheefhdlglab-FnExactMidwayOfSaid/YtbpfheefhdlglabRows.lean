/-
  No cell of these rows narrows 'for every input' (looked for: loops, veiled, ifaces, maps, wideKeys, modest, calm, conditions, laid).
  DERIVED. THE GIVEN ROWS OF THIS SEAT. 12 by the template 'for every input the law returns true; each argument reads behind the call as it read before'; 0 by the template 'total and deterministic' (their statements: YtbpfheefhdlglabTotals.lean).
  GIVEN WITH THE SEED: the statements are not yours to turn. If you find one false, say at which input.
  Laid BY PROGRAM, IN A SANDBOX (cutbox-rows.mjs): the forced cells as the released guide's own fill.sh prints them over the translation 9eeef4d1483ecacf… (all of the seat's roots in one cut). By AI agents, Wed Nov 11 2026. No macro, syntax, notation, axiom, sorry.
-/
import Derived.Test.YtbpfheefhdlglabChecked
import GoSem.Claim
import GoSem.ClaimJoined
import GoSem.ClaimMapViews
import Derived.JoinedTies
import Derived.KernelRfl
namespace Go.Proofs.Ytbpfheefhdlglab
/- THE CELL 'sum', in the pinned program and in every row, IS THE sha256 OF THE DUMP (.gsa) THAT YtbpfheefhdlglabProg.lean LOADS. Nothing in Lean hashes anything: it is a label: what it is worth is what the hold of that sum in a sandbox is worth. -/
noncomputable def Try.pinned : Pinned := { name := "ytbpfheefhdlglab", sum := "9eeef4d1483ecacf7bc81d9352d1b76f390889f4df6e1711eb7e7837e4534490", checked := Try.checked }
namespace Rows
def none {H : Type} : Left H := { results := [], args := [] }

/-- 'laws.FnExactApartOf': WHATEVER THE INPUT: true; the input reads as it did. -/
def fnExactApartOfSpec : ChangeSpec := { name := "fnExactApartOf", fn := fun _ => fun
  | [d1, d2] => { results := [.lit (.bool true)], args := [d1, d2] }
  | _ => none }
def fnExactApartOfRow : OpenClaim := { program := "ytbpfheefhdlglab", sum := "9eeef4d1483ecacf7bc81d9352d1b76f390889f4df6e1711eb7e7837e4534490", func := "loop.example/g01341/laws.FnExactApartOf", spec := "fnExactApartOf", inPlace := ["math.Float64frombits", "math.sqrt", "math.Float64bits"], apart := false }
def FnExactApartOfSaid : Prop := fnExactApartOfRow.holds Try.pinned (OpenSpec.ofChange fnExactApartOfSpec)

/-- ITS FALSE NEIGHBOUR: 'it returns false'. Refute it at one input. -/
def fnExactApartOfWrong : ChangeSpec := { name := "fnExactApartOf", fn := fun _ => fun
  | [d1, d2] => { results := [.lit (.bool false)], args := [d1, d2] }
  | _ => none }
def FnExactApartOfWrongFalsely : Prop := fnExactApartOfRow.holds Try.pinned (OpenSpec.ofChange fnExactApartOfWrong)

/-- 'laws.FnExactCourseTo': WHATEVER THE INPUT: true; the input reads as it did. -/
def fnExactCourseToSpec : ChangeSpec := { name := "fnExactCourseTo", fn := fun _ => fun
  | [d1, d2] => { results := [.lit (.bool true)], args := [d1, d2] }
  | _ => none }
def fnExactCourseToRow : OpenClaim := { program := "ytbpfheefhdlglab", sum := "9eeef4d1483ecacf7bc81d9352d1b76f390889f4df6e1711eb7e7837e4534490", func := "loop.example/g01341/laws.FnExactCourseTo", spec := "fnExactCourseTo", inPlace := ["math.Float64frombits", "math.Float64bits", "math.sqrt"], apart := false }
def FnExactCourseToSaid : Prop := fnExactCourseToRow.holds Try.pinned (OpenSpec.ofChange fnExactCourseToSpec)

/-- ITS FALSE NEIGHBOUR: 'it returns false'. Refute it at one input. -/
def fnExactCourseToWrong : ChangeSpec := { name := "fnExactCourseTo", fn := fun _ => fun
  | [d1, d2] => { results := [.lit (.bool false)], args := [d1, d2] }
  | _ => none }
def FnExactCourseToWrongFalsely : Prop := fnExactCourseToRow.holds Try.pinned (OpenSpec.ofChange fnExactCourseToWrong)

/-- 'laws.FnExactGoFrom': WHATEVER THE INPUT: true; the input reads as it did. -/
def fnExactGoFromSpec : ChangeSpec := { name := "fnExactGoFrom", fn := fun _ => fun
  | [d1, d2, d3] => { results := [.lit (.bool true)], args := [d1, d2, d3] }
  | _ => none }
def fnExactGoFromRow : OpenClaim := { program := "ytbpfheefhdlglab", sum := "9eeef4d1483ecacf7bc81d9352d1b76f390889f4df6e1711eb7e7837e4534490", func := "loop.example/g01341/laws.FnExactGoFrom", spec := "fnExactGoFrom", inPlace := ["math.Float64frombits", "math.sqrt", "math.Float64bits", "math.archFloor", "math.archTrunc"], unfollowed := true, recurses := true, apart := false }
def FnExactGoFromSaid : Prop := fnExactGoFromRow.holds Try.pinned (OpenSpec.ofChange fnExactGoFromSpec)

/-- ITS FALSE NEIGHBOUR: 'it returns false'. Refute it at one input. -/
def fnExactGoFromWrong : ChangeSpec := { name := "fnExactGoFrom", fn := fun _ => fun
  | [d1, d2, d3] => { results := [.lit (.bool false)], args := [d1, d2, d3] }
  | _ => none }
def FnExactGoFromWrongFalsely : Prop := fnExactGoFromRow.holds Try.pinned (OpenSpec.ofChange fnExactGoFromWrong)

/-- 'laws.FnExactMidwayOf': WHATEVER THE INPUT: true; the input reads as it did. -/
def fnExactMidwayOfSpec : ChangeSpec := { name := "fnExactMidwayOf", fn := fun _ => fun
  | [d1, d2] => { results := [.lit (.bool true)], args := [d1, d2] }
  | _ => none }
def fnExactMidwayOfRow : OpenClaim := { program := "ytbpfheefhdlglab", sum := "9eeef4d1483ecacf7bc81d9352d1b76f390889f4df6e1711eb7e7837e4534490", func := "loop.example/g01341/laws.FnExactMidwayOf", spec := "fnExactMidwayOf", inPlace := ["math.Float64frombits", "math.sqrt", "math.Float64bits", "math.archFloor", "math.archTrunc"], apart := false }
def FnExactMidwayOfSaid : Prop := fnExactMidwayOfRow.holds Try.pinned (OpenSpec.ofChange fnExactMidwayOfSpec)

/-- ITS FALSE NEIGHBOUR: 'it returns false'. Refute it at one input. -/
def fnExactMidwayOfWrong : ChangeSpec := { name := "fnExactMidwayOf", fn := fun _ => fun
  | [d1, d2] => { results := [.lit (.bool false)], args := [d1, d2] }
  | _ => none }
def FnExactMidwayOfWrongFalsely : Prop := fnExactMidwayOfRow.holds Try.pinned (OpenSpec.ofChange fnExactMidwayOfWrong)

/-- 'laws.FnExactShareOfWay': WHATEVER THE INPUT: true; the input reads as it did. -/
def fnExactShareOfWaySpec : ChangeSpec := { name := "fnExactShareOfWay", fn := fun _ => fun
  | [d1, d2, d3] => { results := [.lit (.bool true)], args := [d1, d2, d3] }
  | _ => none }
def fnExactShareOfWayRow : OpenClaim := { program := "ytbpfheefhdlglab", sum := "9eeef4d1483ecacf7bc81d9352d1b76f390889f4df6e1711eb7e7837e4534490", func := "loop.example/g01341/laws.FnExactShareOfWay", spec := "fnExactShareOfWay", inPlace := ["math.Float64frombits", "math.Float64bits", "math.sqrt", "math.archFloor", "math.archTrunc"], unfollowed := true, recurses := true, apart := false }
def FnExactShareOfWaySaid : Prop := fnExactShareOfWayRow.holds Try.pinned (OpenSpec.ofChange fnExactShareOfWaySpec)

/-- ITS FALSE NEIGHBOUR: 'it returns false'. Refute it at one input. -/
def fnExactShareOfWayWrong : ChangeSpec := { name := "fnExactShareOfWay", fn := fun _ => fun
  | [d1, d2, d3] => { results := [.lit (.bool false)], args := [d1, d2, d3] }
  | _ => none }
def FnExactShareOfWayWrongFalsely : Prop := fnExactShareOfWayRow.holds Try.pinned (OpenSpec.ofChange fnExactShareOfWayWrong)

/-- 'laws.FnExactOppositeOf': WHATEVER THE INPUT: true; the input reads as it did. -/
def fnExactOppositeOfSpec : ChangeSpec := { name := "fnExactOppositeOf", fn := fun _ => fun
  | [d] => { results := [.lit (.bool true)], args := [d] }
  | _ => none }
def fnExactOppositeOfRow : OpenClaim := { program := "ytbpfheefhdlglab", sum := "9eeef4d1483ecacf7bc81d9352d1b76f390889f4df6e1711eb7e7837e4534490", func := "loop.example/g01341/laws.FnExactOppositeOf", spec := "fnExactOppositeOf", inPlace := ["math.archFloor", "math.Float64bits", "math.Float64frombits", "math.archTrunc"], apart := false }
def FnExactOppositeOfSaid : Prop := fnExactOppositeOfRow.holds Try.pinned (OpenSpec.ofChange fnExactOppositeOfSpec)

/-- ITS FALSE NEIGHBOUR: 'it returns false'. Refute it at one input. -/
def fnExactOppositeOfWrong : ChangeSpec := { name := "fnExactOppositeOf", fn := fun _ => fun
  | [d] => { results := [.lit (.bool false)], args := [d] }
  | _ => none }
def FnExactOppositeOfWrongFalsely : Prop := fnExactOppositeOfRow.holds Try.pinned (OpenSpec.ofChange fnExactOppositeOfWrong)

/-- 'laws.FnExactSideOf': WHATEVER THE INPUT: true; the input reads as it did. -/
def fnExactSideOfSpec : ChangeSpec := { name := "fnExactSideOf", fn := fun _ => fun
  | [d1, d2, d3] => { results := [.lit (.bool true)], args := [d1, d2, d3] }
  | _ => none }
def fnExactSideOfRow : OpenClaim := { program := "ytbpfheefhdlglab", sum := "9eeef4d1483ecacf7bc81d9352d1b76f390889f4df6e1711eb7e7837e4534490", func := "loop.example/g01341/laws.FnExactSideOf", spec := "fnExactSideOf", inPlace := ["math.Float64frombits", "math.Float64bits"], apart := false }
def FnExactSideOfSaid : Prop := fnExactSideOfRow.holds Try.pinned (OpenSpec.ofChange fnExactSideOfSpec)

/-- ITS FALSE NEIGHBOUR: 'it returns false'. Refute it at one input. -/
def fnExactSideOfWrong : ChangeSpec := { name := "fnExactSideOf", fn := fun _ => fun
  | [d1, d2, d3] => { results := [.lit (.bool false)], args := [d1, d2, d3] }
  | _ => none }
def FnExactSideOfWrongFalsely : Prop := fnExactSideOfRow.holds Try.pinned (OpenSpec.ofChange fnExactSideOfWrong)

/-- 'laws.FnExactOffWay': WHATEVER THE INPUT: true; the input reads as it did. -/
def fnExactOffWaySpec : ChangeSpec := { name := "fnExactOffWay", fn := fun _ => fun
  | [d1, d2, d3] => { results := [.lit (.bool true)], args := [d1, d2, d3] }
  | _ => none }
def fnExactOffWayRow : OpenClaim := { program := "ytbpfheefhdlglab", sum := "9eeef4d1483ecacf7bc81d9352d1b76f390889f4df6e1711eb7e7837e4534490", func := "loop.example/g01341/laws.FnExactOffWay", spec := "fnExactOffWay", inPlace := ["math.Float64frombits", "math.sqrt", "math.Float64bits"], apart := false }
def FnExactOffWaySaid : Prop := fnExactOffWayRow.holds Try.pinned (OpenSpec.ofChange fnExactOffWaySpec)

/-- ITS FALSE NEIGHBOUR: 'it returns false'. Refute it at one input. -/
def fnExactOffWayWrong : ChangeSpec := { name := "fnExactOffWay", fn := fun _ => fun
  | [d1, d2, d3] => { results := [.lit (.bool false)], args := [d1, d2, d3] }
  | _ => none }
def FnExactOffWayWrongFalsely : Prop := fnExactOffWayRow.holds Try.pinned (OpenSpec.ofChange fnExactOffWayWrong)

/-- 'laws.FnExactMeetOfWays': WHATEVER THE INPUT: true; the input reads as it did. -/
def fnExactMeetOfWaysSpec : ChangeSpec := { name := "fnExactMeetOfWays", fn := fun _ => fun
  | [d1, d2, d3, d4] => { results := [.lit (.bool true)], args := [d1, d2, d3, d4] }
  | _ => none }
def fnExactMeetOfWaysRow : OpenClaim := { program := "ytbpfheefhdlglab", sum := "9eeef4d1483ecacf7bc81d9352d1b76f390889f4df6e1711eb7e7837e4534490", func := "loop.example/g01341/laws.FnExactMeetOfWays", spec := "fnExactMeetOfWays", inPlace := ["math.Float64frombits", "math.sqrt", "math.Float64bits", "math.archFloor", "math.archTrunc"], apart := false }
def FnExactMeetOfWaysSaid : Prop := fnExactMeetOfWaysRow.holds Try.pinned (OpenSpec.ofChange fnExactMeetOfWaysSpec)

/-- ITS FALSE NEIGHBOUR: 'it returns false'. Refute it at one input. -/
def fnExactMeetOfWaysWrong : ChangeSpec := { name := "fnExactMeetOfWays", fn := fun _ => fun
  | [d1, d2, d3, d4] => { results := [.lit (.bool false)], args := [d1, d2, d3, d4] }
  | _ => none }
def FnExactMeetOfWaysWrongFalsely : Prop := fnExactMeetOfWaysRow.holds Try.pinned (OpenSpec.ofChange fnExactMeetOfWaysWrong)

/-- 'laws.FnExactAreaOfTriangle': WHATEVER THE INPUT: true; the input reads as it did. -/
def fnExactAreaOfTriangleSpec : ChangeSpec := { name := "fnExactAreaOfTriangle", fn := fun _ => fun
  | [d1, d2, d3] => { results := [.lit (.bool true)], args := [d1, d2, d3] }
  | _ => none }
def fnExactAreaOfTriangleRow : OpenClaim := { program := "ytbpfheefhdlglab", sum := "9eeef4d1483ecacf7bc81d9352d1b76f390889f4df6e1711eb7e7837e4534490", func := "loop.example/g01341/laws.FnExactAreaOfTriangle", spec := "fnExactAreaOfTriangle", inPlace := ["math.Float64frombits", "math.Float64bits", "math.sqrt"], apart := false }
def FnExactAreaOfTriangleSaid : Prop := fnExactAreaOfTriangleRow.holds Try.pinned (OpenSpec.ofChange fnExactAreaOfTriangleSpec)

/-- ITS FALSE NEIGHBOUR: 'it returns false'. Refute it at one input. -/
def fnExactAreaOfTriangleWrong : ChangeSpec := { name := "fnExactAreaOfTriangle", fn := fun _ => fun
  | [d1, d2, d3] => { results := [.lit (.bool false)], args := [d1, d2, d3] }
  | _ => none }
def FnExactAreaOfTriangleWrongFalsely : Prop := fnExactAreaOfTriangleRow.holds Try.pinned (OpenSpec.ofChange fnExactAreaOfTriangleWrong)

/-- 'laws.FnExactAreaOfPlaces': WHATEVER THE INPUT: true; the input reads as it did. -/
def fnExactAreaOfPlacesSpec : ChangeSpec := { name := "fnExactAreaOfPlaces", fn := fun _ => fun
  | [d] => { results := [.lit (.bool true)], args := [d] }
  | _ => none }
def fnExactAreaOfPlacesRow : OpenClaim := { program := "ytbpfheefhdlglab", sum := "9eeef4d1483ecacf7bc81d9352d1b76f390889f4df6e1711eb7e7837e4534490", func := "loop.example/g01341/laws.FnExactAreaOfPlaces", spec := "fnExactAreaOfPlaces", inPlace := ["math.Float64frombits", "math.Float64bits", "math.sqrt"], apart := false }
def FnExactAreaOfPlacesSaid : Prop := fnExactAreaOfPlacesRow.holds Try.pinned (OpenSpec.ofChange fnExactAreaOfPlacesSpec)

/-- ITS FALSE NEIGHBOUR: 'it returns false'. Refute it at one input. -/
def fnExactAreaOfPlacesWrong : ChangeSpec := { name := "fnExactAreaOfPlaces", fn := fun _ => fun
  | [d] => { results := [.lit (.bool false)], args := [d] }
  | _ => none }
def FnExactAreaOfPlacesWrongFalsely : Prop := fnExactAreaOfPlacesRow.holds Try.pinned (OpenSpec.ofChange fnExactAreaOfPlacesWrong)

/-- 'laws.FnExactLongOfPlaces': WHATEVER THE INPUT: true; the input reads as it did. -/
def fnExactLongOfPlacesSpec : ChangeSpec := { name := "fnExactLongOfPlaces", fn := fun _ => fun
  | [d1, d2] => { results := [.lit (.bool true)], args := [d1, d2] }
  | _ => none }
def fnExactLongOfPlacesRow : OpenClaim := { program := "ytbpfheefhdlglab", sum := "9eeef4d1483ecacf7bc81d9352d1b76f390889f4df6e1711eb7e7837e4534490", func := "loop.example/g01341/laws.FnExactLongOfPlaces", spec := "fnExactLongOfPlaces", inPlace := ["math.Float64frombits", "math.sqrt", "math.Float64bits"], apart := false }
def FnExactLongOfPlacesSaid : Prop := fnExactLongOfPlacesRow.holds Try.pinned (OpenSpec.ofChange fnExactLongOfPlacesSpec)

/-- ITS FALSE NEIGHBOUR: 'it returns false'. Refute it at one input. -/
def fnExactLongOfPlacesWrong : ChangeSpec := { name := "fnExactLongOfPlaces", fn := fun _ => fun
  | [d1, d2] => { results := [.lit (.bool false)], args := [d1, d2] }
  | _ => none }
def FnExactLongOfPlacesWrongFalsely : Prop := fnExactLongOfPlacesRow.holds Try.pinned (OpenSpec.ofChange fnExactLongOfPlacesWrong)

/- THE SECOND FORM. 'bulk': how many values and letters a reading holds, each counted each time it is reached (what is shared counts as often as it is met; a slice's spare places count too). A statement '..UptoSaid' is the law's where the arguments, and the package variables that the reading takes, are together of bulk at most 1048576: NARROWER than '..Said'. Prove '..Said' where nothing that the law and all that it calls make is longer than what came in: it says more and counts as full. Else prove '..UptoSaid'. A law counts once. -/
mutual
def uptoBulk {H : Type} : DataW H → Nat
  | .lit (.string bytes) => bytes.length + 1
  | .lit _ => 1
  | .nil => 1
  | .ptr d => uptoBulk d + 1
  | .slice elems spare => uptoBulkAll elems + uptoBulkAll spare + 1
  | .agg parts => uptoBulkAll parts + 1
  | .iface _ d => uptoBulk d + 1
  | .map entries => uptoBulkEntries entries + 1
  | .held _ => 1
def uptoBulkAll {H : Type} : List (DataW H) → Nat
  | [] => 0
  | d :: r => uptoBulk d + uptoBulkAll r
def uptoBulkEntries {H : Type} : List (Lit × DataW H) → Nat
  | [] => 0
  | x :: r => uptoBulkEntry x + uptoBulkEntries r
def uptoBulkEntry {H : Type} : Lit × DataW H → Nat
  | (.string bytes, d) => bytes.length + uptoBulk d + 1
  | (_, d) => uptoBulk d + 1
 end
def uptoSmall : (H : Type) → List (DataW H) → Bool := fun _ ds => decide (uptoBulkAll ds ≤ 1048576)
def OpenSpec.upto (s : _root_.Go.ChangeSpec) : _root_.Go.OpenSpec := { _root_.Go.OpenSpec.ofChange s with cond := some uptoSmall }

/-- 'laws.FnExactApartOf', WHERE WHAT IT READS IS OF BULK AT MOST 1048576: true; the input reads as it did. -/
def fnExactApartOfUptoRow : OpenClaim := { program := "ytbpfheefhdlglab", sum := "9eeef4d1483ecacf7bc81d9352d1b76f390889f4df6e1711eb7e7837e4534490", func := "loop.example/g01341/laws.FnExactApartOf", spec := "fnExactApartOf", inPlace := ["math.Float64frombits", "math.sqrt", "math.Float64bits"], apart := false, narrowed := true }
def FnExactApartOfUptoSaid : Prop := fnExactApartOfUptoRow.holds Try.pinned (OpenSpec.upto fnExactApartOfSpec)

/-- 'laws.FnExactCourseTo', WHERE WHAT IT READS IS OF BULK AT MOST 1048576: true; the input reads as it did. -/
def fnExactCourseToUptoRow : OpenClaim := { program := "ytbpfheefhdlglab", sum := "9eeef4d1483ecacf7bc81d9352d1b76f390889f4df6e1711eb7e7837e4534490", func := "loop.example/g01341/laws.FnExactCourseTo", spec := "fnExactCourseTo", inPlace := ["math.Float64frombits", "math.Float64bits", "math.sqrt"], apart := false, narrowed := true }
def FnExactCourseToUptoSaid : Prop := fnExactCourseToUptoRow.holds Try.pinned (OpenSpec.upto fnExactCourseToSpec)

/-- 'laws.FnExactGoFrom', WHERE WHAT IT READS IS OF BULK AT MOST 1048576: true; the input reads as it did. -/
def fnExactGoFromUptoRow : OpenClaim := { program := "ytbpfheefhdlglab", sum := "9eeef4d1483ecacf7bc81d9352d1b76f390889f4df6e1711eb7e7837e4534490", func := "loop.example/g01341/laws.FnExactGoFrom", spec := "fnExactGoFrom", inPlace := ["math.Float64frombits", "math.sqrt", "math.Float64bits", "math.archFloor", "math.archTrunc"], unfollowed := true, recurses := true, apart := false, narrowed := true }
def FnExactGoFromUptoSaid : Prop := fnExactGoFromUptoRow.holds Try.pinned (OpenSpec.upto fnExactGoFromSpec)

/-- 'laws.FnExactMidwayOf', WHERE WHAT IT READS IS OF BULK AT MOST 1048576: true; the input reads as it did. -/
def fnExactMidwayOfUptoRow : OpenClaim := { program := "ytbpfheefhdlglab", sum := "9eeef4d1483ecacf7bc81d9352d1b76f390889f4df6e1711eb7e7837e4534490", func := "loop.example/g01341/laws.FnExactMidwayOf", spec := "fnExactMidwayOf", inPlace := ["math.Float64frombits", "math.sqrt", "math.Float64bits", "math.archFloor", "math.archTrunc"], apart := false, narrowed := true }
def FnExactMidwayOfUptoSaid : Prop := fnExactMidwayOfUptoRow.holds Try.pinned (OpenSpec.upto fnExactMidwayOfSpec)

/-- 'laws.FnExactShareOfWay', WHERE WHAT IT READS IS OF BULK AT MOST 1048576: true; the input reads as it did. -/
def fnExactShareOfWayUptoRow : OpenClaim := { program := "ytbpfheefhdlglab", sum := "9eeef4d1483ecacf7bc81d9352d1b76f390889f4df6e1711eb7e7837e4534490", func := "loop.example/g01341/laws.FnExactShareOfWay", spec := "fnExactShareOfWay", inPlace := ["math.Float64frombits", "math.Float64bits", "math.sqrt", "math.archFloor", "math.archTrunc"], unfollowed := true, recurses := true, apart := false, narrowed := true }
def FnExactShareOfWayUptoSaid : Prop := fnExactShareOfWayUptoRow.holds Try.pinned (OpenSpec.upto fnExactShareOfWaySpec)

/-- 'laws.FnExactOppositeOf', WHERE WHAT IT READS IS OF BULK AT MOST 1048576: true; the input reads as it did. -/
def fnExactOppositeOfUptoRow : OpenClaim := { program := "ytbpfheefhdlglab", sum := "9eeef4d1483ecacf7bc81d9352d1b76f390889f4df6e1711eb7e7837e4534490", func := "loop.example/g01341/laws.FnExactOppositeOf", spec := "fnExactOppositeOf", inPlace := ["math.archFloor", "math.Float64bits", "math.Float64frombits", "math.archTrunc"], apart := false, narrowed := true }
def FnExactOppositeOfUptoSaid : Prop := fnExactOppositeOfUptoRow.holds Try.pinned (OpenSpec.upto fnExactOppositeOfSpec)

/-- 'laws.FnExactSideOf', WHERE WHAT IT READS IS OF BULK AT MOST 1048576: true; the input reads as it did. -/
def fnExactSideOfUptoRow : OpenClaim := { program := "ytbpfheefhdlglab", sum := "9eeef4d1483ecacf7bc81d9352d1b76f390889f4df6e1711eb7e7837e4534490", func := "loop.example/g01341/laws.FnExactSideOf", spec := "fnExactSideOf", inPlace := ["math.Float64frombits", "math.Float64bits"], apart := false, narrowed := true }
def FnExactSideOfUptoSaid : Prop := fnExactSideOfUptoRow.holds Try.pinned (OpenSpec.upto fnExactSideOfSpec)

/-- 'laws.FnExactOffWay', WHERE WHAT IT READS IS OF BULK AT MOST 1048576: true; the input reads as it did. -/
def fnExactOffWayUptoRow : OpenClaim := { program := "ytbpfheefhdlglab", sum := "9eeef4d1483ecacf7bc81d9352d1b76f390889f4df6e1711eb7e7837e4534490", func := "loop.example/g01341/laws.FnExactOffWay", spec := "fnExactOffWay", inPlace := ["math.Float64frombits", "math.sqrt", "math.Float64bits"], apart := false, narrowed := true }
def FnExactOffWayUptoSaid : Prop := fnExactOffWayUptoRow.holds Try.pinned (OpenSpec.upto fnExactOffWaySpec)

/-- 'laws.FnExactMeetOfWays', WHERE WHAT IT READS IS OF BULK AT MOST 1048576: true; the input reads as it did. -/
def fnExactMeetOfWaysUptoRow : OpenClaim := { program := "ytbpfheefhdlglab", sum := "9eeef4d1483ecacf7bc81d9352d1b76f390889f4df6e1711eb7e7837e4534490", func := "loop.example/g01341/laws.FnExactMeetOfWays", spec := "fnExactMeetOfWays", inPlace := ["math.Float64frombits", "math.sqrt", "math.Float64bits", "math.archFloor", "math.archTrunc"], apart := false, narrowed := true }
def FnExactMeetOfWaysUptoSaid : Prop := fnExactMeetOfWaysUptoRow.holds Try.pinned (OpenSpec.upto fnExactMeetOfWaysSpec)

/-- 'laws.FnExactAreaOfTriangle', WHERE WHAT IT READS IS OF BULK AT MOST 1048576: true; the input reads as it did. -/
def fnExactAreaOfTriangleUptoRow : OpenClaim := { program := "ytbpfheefhdlglab", sum := "9eeef4d1483ecacf7bc81d9352d1b76f390889f4df6e1711eb7e7837e4534490", func := "loop.example/g01341/laws.FnExactAreaOfTriangle", spec := "fnExactAreaOfTriangle", inPlace := ["math.Float64frombits", "math.Float64bits", "math.sqrt"], apart := false, narrowed := true }
def FnExactAreaOfTriangleUptoSaid : Prop := fnExactAreaOfTriangleUptoRow.holds Try.pinned (OpenSpec.upto fnExactAreaOfTriangleSpec)

/-- 'laws.FnExactAreaOfPlaces', WHERE WHAT IT READS IS OF BULK AT MOST 1048576: true; the input reads as it did. -/
def fnExactAreaOfPlacesUptoRow : OpenClaim := { program := "ytbpfheefhdlglab", sum := "9eeef4d1483ecacf7bc81d9352d1b76f390889f4df6e1711eb7e7837e4534490", func := "loop.example/g01341/laws.FnExactAreaOfPlaces", spec := "fnExactAreaOfPlaces", inPlace := ["math.Float64frombits", "math.Float64bits", "math.sqrt"], apart := false, narrowed := true }
def FnExactAreaOfPlacesUptoSaid : Prop := fnExactAreaOfPlacesUptoRow.holds Try.pinned (OpenSpec.upto fnExactAreaOfPlacesSpec)

/-- 'laws.FnExactLongOfPlaces', WHERE WHAT IT READS IS OF BULK AT MOST 1048576: true; the input reads as it did. -/
def fnExactLongOfPlacesUptoRow : OpenClaim := { program := "ytbpfheefhdlglab", sum := "9eeef4d1483ecacf7bc81d9352d1b76f390889f4df6e1711eb7e7837e4534490", func := "loop.example/g01341/laws.FnExactLongOfPlaces", spec := "fnExactLongOfPlaces", inPlace := ["math.Float64frombits", "math.sqrt", "math.Float64bits"], apart := false, narrowed := true }
def FnExactLongOfPlacesUptoSaid : Prop := fnExactLongOfPlacesUptoRow.holds Try.pinned (OpenSpec.upto fnExactLongOfPlacesSpec)

end Rows
end Go.Proofs.Ytbpfheefhdlglab
