/-
  No cell of these rows narrows 'for every input' (looked for: loops, veiled, ifaces, maps, wideKeys, modest, calm, conditions, laid).
  DERIVED. THE GIVEN ROWS OF THIS SEAT. 11 by the template 'for every input the law returns true; each argument reads behind the call as it read before'; 0 by the template 'total and deterministic' (their statements: YtbpfheefhdlglacTotals.lean).
  GIVEN WITH THE SEED: the statements are not yours to turn. If you find one false, say at which input.
  Laid BY PROGRAM, IN A SANDBOX (cutbox-rows.mjs): the forced cells as the released guide's own fill.sh prints them over the translation 502b04bb2f617239… (all of the seat's roots in one cut). By AI agents, Wed Nov 11 2026. No macro, syntax, notation, axiom, sorry.
-/
import Derived.Test.YtbpfheefhdlglacChecked
import GoSem.Claim
import GoSem.ClaimJoined
import GoSem.ClaimMapViews
import Derived.JoinedTies
import Derived.KernelRfl
namespace Go.Proofs.Ytbpfheefhdlglac
/- THE CELL 'sum', in the pinned program and in every row, IS THE sha256 OF THE DUMP (.gsa) THAT YtbpfheefhdlglacProg.lean LOADS. Nothing in Lean hashes anything: it is a label: what it is worth is what the hold of that sum in a sandbox is worth. -/
noncomputable def Try.pinned : Pinned := { name := "ytbpfheefhdlglac", sum := "502b04bb2f617239a243380fde60961bb1073af3d29daf6aa011e790d38525d1", checked := Try.checked }
namespace Rows
def none {H : Type} : Left H := { results := [], args := [] }

/-- 'laws.FnExactBoxOfPlaces': WHATEVER THE INPUT: true; the input reads as it did. -/
def fnExactBoxOfPlacesSpec : ChangeSpec := { name := "fnExactBoxOfPlaces", fn := fun _ => fun
  | [d] => { results := [.lit (.bool true)], args := [d] }
  | _ => none }
def fnExactBoxOfPlacesRow : OpenClaim := { program := "ytbpfheefhdlglac", sum := "502b04bb2f617239a243380fde60961bb1073af3d29daf6aa011e790d38525d1", func := "loop.example/g01341/laws.FnExactBoxOfPlaces", spec := "fnExactBoxOfPlaces", apart := false }
def FnExactBoxOfPlacesSaid : Prop := fnExactBoxOfPlacesRow.holds Try.pinned (OpenSpec.ofChange fnExactBoxOfPlacesSpec)

/-- ITS FALSE NEIGHBOUR: 'it returns false'. Refute it at one input. -/
def fnExactBoxOfPlacesWrong : ChangeSpec := { name := "fnExactBoxOfPlaces", fn := fun _ => fun
  | [d] => { results := [.lit (.bool false)], args := [d] }
  | _ => none }
def FnExactBoxOfPlacesWrongFalsely : Prop := fnExactBoxOfPlacesRow.holds Try.pinned (OpenSpec.ofChange fnExactBoxOfPlacesWrong)

/-- 'laws.FnExactMeanPlace': WHATEVER THE INPUT: true; the input reads as it did. -/
def fnExactMeanPlaceSpec : ChangeSpec := { name := "fnExactMeanPlace", fn := fun _ => fun
  | [d] => { results := [.lit (.bool true)], args := [d] }
  | _ => none }
def fnExactMeanPlaceRow : OpenClaim := { program := "ytbpfheefhdlglac", sum := "502b04bb2f617239a243380fde60961bb1073af3d29daf6aa011e790d38525d1", func := "loop.example/g01341/laws.FnExactMeanPlace", spec := "fnExactMeanPlace", inPlace := ["math.Float64frombits", "math.sqrt", "math.Float64bits", "math.archFloor", "math.archTrunc"], apart := false }
def FnExactMeanPlaceSaid : Prop := fnExactMeanPlaceRow.holds Try.pinned (OpenSpec.ofChange fnExactMeanPlaceSpec)

/-- ITS FALSE NEIGHBOUR: 'it returns false'. Refute it at one input. -/
def fnExactMeanPlaceWrong : ChangeSpec := { name := "fnExactMeanPlace", fn := fun _ => fun
  | [d] => { results := [.lit (.bool false)], args := [d] }
  | _ => none }
def FnExactMeanPlaceWrongFalsely : Prop := fnExactMeanPlaceRow.holds Try.pinned (OpenSpec.ofChange fnExactMeanPlaceWrong)

/-- 'laws.FnExactNearestPlace': WHATEVER THE INPUT: true; the input reads as it did. -/
def fnExactNearestPlaceSpec : ChangeSpec := { name := "fnExactNearestPlace", fn := fun _ => fun
  | [d1, d2] => { results := [.lit (.bool true)], args := [d1, d2] }
  | _ => none }
def fnExactNearestPlaceRow : OpenClaim := { program := "ytbpfheefhdlglac", sum := "502b04bb2f617239a243380fde60961bb1073af3d29daf6aa011e790d38525d1", func := "loop.example/g01341/laws.FnExactNearestPlace", spec := "fnExactNearestPlace", inPlace := ["math.Float64frombits", "math.sqrt", "math.Float64bits"], apart := false }
def FnExactNearestPlaceSaid : Prop := fnExactNearestPlaceRow.holds Try.pinned (OpenSpec.ofChange fnExactNearestPlaceSpec)

/-- ITS FALSE NEIGHBOUR: 'it returns false'. Refute it at one input. -/
def fnExactNearestPlaceWrong : ChangeSpec := { name := "fnExactNearestPlace", fn := fun _ => fun
  | [d1, d2] => { results := [.lit (.bool false)], args := [d1, d2] }
  | _ => none }
def FnExactNearestPlaceWrongFalsely : Prop := fnExactNearestPlaceRow.holds Try.pinned (OpenSpec.ofChange fnExactNearestPlaceWrong)

/-- 'laws.FnExactStretchNorth': WHATEVER THE INPUT: true; the input reads as it did. -/
def fnExactStretchNorthSpec : ChangeSpec := { name := "fnExactStretchNorth", fn := fun _ => fun
  | [d] => { results := [.lit (.bool true)], args := [d] }
  | _ => none }
def fnExactStretchNorthRow : OpenClaim := { program := "ytbpfheefhdlglac", sum := "502b04bb2f617239a243380fde60961bb1073af3d29daf6aa011e790d38525d1", func := "loop.example/g01341/laws.FnExactStretchNorth", spec := "fnExactStretchNorth", inPlace := ["math.Float64frombits", "math.Float64bits"], apart := false }
def FnExactStretchNorthSaid : Prop := fnExactStretchNorthRow.holds Try.pinned (OpenSpec.ofChange fnExactStretchNorthSpec)

/-- ITS FALSE NEIGHBOUR: 'it returns false'. Refute it at one input. -/
def fnExactStretchNorthWrong : ChangeSpec := { name := "fnExactStretchNorth", fn := fun _ => fun
  | [d] => { results := [.lit (.bool false)], args := [d] }
  | _ => none }
def FnExactStretchNorthWrongFalsely : Prop := fnExactStretchNorthRow.holds Try.pinned (OpenSpec.ofChange fnExactStretchNorthWrong)

/-- 'laws.FnExactCompassCourse': WHATEVER THE INPUT: true; the input reads as it did. -/
def fnExactCompassCourseSpec : ChangeSpec := { name := "fnExactCompassCourse", fn := fun _ => fun
  | [d1, d2] => { results := [.lit (.bool true)], args := [d1, d2] }
  | _ => none }
def fnExactCompassCourseRow : OpenClaim := { program := "ytbpfheefhdlglac", sum := "502b04bb2f617239a243380fde60961bb1073af3d29daf6aa011e790d38525d1", func := "loop.example/g01341/laws.FnExactCompassCourse", spec := "fnExactCompassCourse", inPlace := ["math.Float64frombits", "math.Float64bits", "math.archFloor", "math.archTrunc", "math.sqrt"], apart := false }
def FnExactCompassCourseSaid : Prop := fnExactCompassCourseRow.holds Try.pinned (OpenSpec.ofChange fnExactCompassCourseSpec)

/-- ITS FALSE NEIGHBOUR: 'it returns false'. Refute it at one input. -/
def fnExactCompassCourseWrong : ChangeSpec := { name := "fnExactCompassCourse", fn := fun _ => fun
  | [d1, d2] => { results := [.lit (.bool false)], args := [d1, d2] }
  | _ => none }
def FnExactCompassCourseWrongFalsely : Prop := fnExactCompassCourseRow.holds Try.pinned (OpenSpec.ofChange fnExactCompassCourseWrong)

/-- 'laws.FnExactCompassLong': WHATEVER THE INPUT: true; the input reads as it did. -/
def fnExactCompassLongSpec : ChangeSpec := { name := "fnExactCompassLong", fn := fun _ => fun
  | [d1, d2] => { results := [.lit (.bool true)], args := [d1, d2] }
  | _ => none }
def fnExactCompassLongRow : OpenClaim := { program := "ytbpfheefhdlglac", sum := "502b04bb2f617239a243380fde60961bb1073af3d29daf6aa011e790d38525d1", func := "loop.example/g01341/laws.FnExactCompassLong", spec := "fnExactCompassLong", inPlace := ["math.Float64frombits", "math.Float64bits", "math.archFloor", "math.archTrunc", "math.sqrt"], apart := false }
def FnExactCompassLongSaid : Prop := fnExactCompassLongRow.holds Try.pinned (OpenSpec.ofChange fnExactCompassLongSpec)

/-- ITS FALSE NEIGHBOUR: 'it returns false'. Refute it at one input. -/
def fnExactCompassLongWrong : ChangeSpec := { name := "fnExactCompassLong", fn := fun _ => fun
  | [d1, d2] => { results := [.lit (.bool false)], args := [d1, d2] }
  | _ => none }
def FnExactCompassLongWrongFalsely : Prop := fnExactCompassLongRow.holds Try.pinned (OpenSpec.ofChange fnExactCompassLongWrong)

/-- 'laws.FnExactStepsOf': WHATEVER THE INPUT: true; the input reads as it did. -/
def fnExactStepsOfSpec : ChangeSpec := { name := "fnExactStepsOf", fn := fun _ => fun
  | [d] => { results := [.lit (.bool true)], args := [d] }
  | _ => none }
def fnExactStepsOfRow : OpenClaim := { program := "ytbpfheefhdlglac", sum := "502b04bb2f617239a243380fde60961bb1073af3d29daf6aa011e790d38525d1", func := "loop.example/g01341/laws.FnExactStepsOf", spec := "fnExactStepsOf", inPlace := ["math.archFloor", "math.Float64bits", "math.Float64frombits", "math.archTrunc"], apart := false }
def FnExactStepsOfSaid : Prop := fnExactStepsOfRow.holds Try.pinned (OpenSpec.ofChange fnExactStepsOfSpec)

/-- ITS FALSE NEIGHBOUR: 'it returns false'. Refute it at one input. -/
def fnExactStepsOfWrong : ChangeSpec := { name := "fnExactStepsOf", fn := fun _ => fun
  | [d] => { results := [.lit (.bool false)], args := [d] }
  | _ => none }
def FnExactStepsOfWrongFalsely : Prop := fnExactStepsOfRow.holds Try.pinned (OpenSpec.ofChange fnExactStepsOfWrong)

/-- 'laws.FnExactPlaceOfSteps': WHATEVER THE INPUT: true; the input reads as it did. -/
def fnExactPlaceOfStepsSpec : ChangeSpec := { name := "fnExactPlaceOfSteps", fn := fun _ => fun
  | [d1, d2] => { results := [.lit (.bool true)], args := [d1, d2] }
  | _ => none }
def fnExactPlaceOfStepsRow : OpenClaim := { program := "ytbpfheefhdlglac", sum := "502b04bb2f617239a243380fde60961bb1073af3d29daf6aa011e790d38525d1", func := "loop.example/g01341/laws.FnExactPlaceOfSteps", spec := "fnExactPlaceOfSteps", apart := false }
def FnExactPlaceOfStepsSaid : Prop := fnExactPlaceOfStepsRow.holds Try.pinned (OpenSpec.ofChange fnExactPlaceOfStepsSpec)

/-- ITS FALSE NEIGHBOUR: 'it returns false'. Refute it at one input. -/
def fnExactPlaceOfStepsWrong : ChangeSpec := { name := "fnExactPlaceOfSteps", fn := fun _ => fun
  | [d1, d2] => { results := [.lit (.bool false)], args := [d1, d2] }
  | _ => none }
def FnExactPlaceOfStepsWrongFalsely : Prop := fnExactPlaceOfStepsRow.holds Try.pinned (OpenSpec.ofChange fnExactPlaceOfStepsWrong)

/-- 'laws.FnExactFlatNorth': WHATEVER THE INPUT: true; the input reads as it did. -/
def fnExactFlatNorthSpec : ChangeSpec := { name := "fnExactFlatNorth", fn := fun _ => fun
  | [d1, d2] => { results := [.lit (.bool true)], args := [d1, d2] }
  | _ => none }
def fnExactFlatNorthRow : OpenClaim := { program := "ytbpfheefhdlglac", sum := "502b04bb2f617239a243380fde60961bb1073af3d29daf6aa011e790d38525d1", func := "loop.example/g01341/laws.FnExactFlatNorth", spec := "fnExactFlatNorth", inPlace := ["math.Float64frombits", "math.Float64bits", "math.sqrt"], apart := false }
def FnExactFlatNorthSaid : Prop := fnExactFlatNorthRow.holds Try.pinned (OpenSpec.ofChange fnExactFlatNorthSpec)

/-- ITS FALSE NEIGHBOUR: 'it returns false'. Refute it at one input. -/
def fnExactFlatNorthWrong : ChangeSpec := { name := "fnExactFlatNorth", fn := fun _ => fun
  | [d1, d2] => { results := [.lit (.bool false)], args := [d1, d2] }
  | _ => none }
def FnExactFlatNorthWrongFalsely : Prop := fnExactFlatNorthRow.holds Try.pinned (OpenSpec.ofChange fnExactFlatNorthWrong)

/-- 'laws.FnExactBackNorth': WHATEVER THE INPUT: true; the input reads as it did. -/
def fnExactBackNorthSpec : ChangeSpec := { name := "fnExactBackNorth", fn := fun _ => fun
  | [d1, d2] => { results := [.lit (.bool true)], args := [d1, d2] }
  | _ => none }
def fnExactBackNorthRow : OpenClaim := { program := "ytbpfheefhdlglac", sum := "502b04bb2f617239a243380fde60961bb1073af3d29daf6aa011e790d38525d1", func := "loop.example/g01341/laws.FnExactBackNorth", spec := "fnExactBackNorth", inPlace := ["math.Float64frombits", "math.Float64bits", "math.sqrt"], apart := false }
def FnExactBackNorthSaid : Prop := fnExactBackNorthRow.holds Try.pinned (OpenSpec.ofChange fnExactBackNorthSpec)

/-- ITS FALSE NEIGHBOUR: 'it returns false'. Refute it at one input. -/
def fnExactBackNorthWrong : ChangeSpec := { name := "fnExactBackNorth", fn := fun _ => fun
  | [d1, d2] => { results := [.lit (.bool false)], args := [d1, d2] }
  | _ => none }
def FnExactBackNorthWrongFalsely : Prop := fnExactBackNorthRow.holds Try.pinned (OpenSpec.ofChange fnExactBackNorthWrong)

/-- 'laws.FnExactMeridianLong': WHATEVER THE INPUT: true; the input reads as it did. -/
def fnExactMeridianLongSpec : ChangeSpec := { name := "fnExactMeridianLong", fn := fun _ => fun
  | [d1, d2, d3] => { results := [.lit (.bool true)], args := [d1, d2, d3] }
  | _ => none }
def fnExactMeridianLongRow : OpenClaim := { program := "ytbpfheefhdlglac", sum := "502b04bb2f617239a243380fde60961bb1073af3d29daf6aa011e790d38525d1", func := "loop.example/g01341/laws.FnExactMeridianLong", spec := "fnExactMeridianLong", inPlace := ["math.Float64frombits", "math.sqrt", "math.Float64bits"], apart := false }
def FnExactMeridianLongSaid : Prop := fnExactMeridianLongRow.holds Try.pinned (OpenSpec.ofChange fnExactMeridianLongSpec)

/-- ITS FALSE NEIGHBOUR: 'it returns false'. Refute it at one input. -/
def fnExactMeridianLongWrong : ChangeSpec := { name := "fnExactMeridianLong", fn := fun _ => fun
  | [d1, d2, d3] => { results := [.lit (.bool false)], args := [d1, d2, d3] }
  | _ => none }
def FnExactMeridianLongWrongFalsely : Prop := fnExactMeridianLongRow.holds Try.pinned (OpenSpec.ofChange fnExactMeridianLongWrong)

/- THE SECOND FORM. 'bulk': how many values and letters a reading holds, each counted each time it is reached (what is shared counts as often as it is met; a slice's spare places count too). A statement '..UptoSaid' is the law's where the arguments, and the package variables that the reading takes, are together of bulk at most 1048576: NARROWER than '..Said'. Prove '..Said' where nothing that the law and all that it calls make is longer than what came in: it says more and counts as full. Else prove '..UptoSaid'. A law counts once. -/
mutual
def uptoBulk {H : Type} : DataW H → Nat
  | .lit (.string bytes) => bytes.length + 1
  | .lit _ => 1
  | .nil => 1
  | .ptr d => uptoBulk d + 1
  | .slice elems spare => uptoBulkAll elems + uptoBulkAll spare + 1
  | .agg parts => uptoBulkAll parts + 1
  | .iface _ d => uptoBulk d + 1
  | .map entries => uptoBulkEntries entries + 1
  | .held _ => 1
def uptoBulkAll {H : Type} : List (DataW H) → Nat
  | [] => 0
  | d :: r => uptoBulk d + uptoBulkAll r
def uptoBulkEntries {H : Type} : List (Lit × DataW H) → Nat
  | [] => 0
  | x :: r => uptoBulkEntry x + uptoBulkEntries r
def uptoBulkEntry {H : Type} : Lit × DataW H → Nat
  | (.string bytes, d) => bytes.length + uptoBulk d + 1
  | (_, d) => uptoBulk d + 1
 end
def uptoSmall : (H : Type) → List (DataW H) → Bool := fun _ ds => decide (uptoBulkAll ds ≤ 1048576)
def OpenSpec.upto (s : _root_.Go.ChangeSpec) : _root_.Go.OpenSpec := { _root_.Go.OpenSpec.ofChange s with cond := some uptoSmall }

/-- 'laws.FnExactBoxOfPlaces', WHERE WHAT IT READS IS OF BULK AT MOST 1048576: true; the input reads as it did. -/
def fnExactBoxOfPlacesUptoRow : OpenClaim := { program := "ytbpfheefhdlglac", sum := "502b04bb2f617239a243380fde60961bb1073af3d29daf6aa011e790d38525d1", func := "loop.example/g01341/laws.FnExactBoxOfPlaces", spec := "fnExactBoxOfPlaces", apart := false, narrowed := true }
def FnExactBoxOfPlacesUptoSaid : Prop := fnExactBoxOfPlacesUptoRow.holds Try.pinned (OpenSpec.upto fnExactBoxOfPlacesSpec)

/-- 'laws.FnExactMeanPlace', WHERE WHAT IT READS IS OF BULK AT MOST 1048576: true; the input reads as it did. -/
def fnExactMeanPlaceUptoRow : OpenClaim := { program := "ytbpfheefhdlglac", sum := "502b04bb2f617239a243380fde60961bb1073af3d29daf6aa011e790d38525d1", func := "loop.example/g01341/laws.FnExactMeanPlace", spec := "fnExactMeanPlace", inPlace := ["math.Float64frombits", "math.sqrt", "math.Float64bits", "math.archFloor", "math.archTrunc"], apart := false, narrowed := true }
def FnExactMeanPlaceUptoSaid : Prop := fnExactMeanPlaceUptoRow.holds Try.pinned (OpenSpec.upto fnExactMeanPlaceSpec)

/-- 'laws.FnExactNearestPlace', WHERE WHAT IT READS IS OF BULK AT MOST 1048576: true; the input reads as it did. -/
def fnExactNearestPlaceUptoRow : OpenClaim := { program := "ytbpfheefhdlglac", sum := "502b04bb2f617239a243380fde60961bb1073af3d29daf6aa011e790d38525d1", func := "loop.example/g01341/laws.FnExactNearestPlace", spec := "fnExactNearestPlace", inPlace := ["math.Float64frombits", "math.sqrt", "math.Float64bits"], apart := false, narrowed := true }
def FnExactNearestPlaceUptoSaid : Prop := fnExactNearestPlaceUptoRow.holds Try.pinned (OpenSpec.upto fnExactNearestPlaceSpec)

/-- 'laws.FnExactStretchNorth', WHERE WHAT IT READS IS OF BULK AT MOST 1048576: true; the input reads as it did. -/
def fnExactStretchNorthUptoRow : OpenClaim := { program := "ytbpfheefhdlglac", sum := "502b04bb2f617239a243380fde60961bb1073af3d29daf6aa011e790d38525d1", func := "loop.example/g01341/laws.FnExactStretchNorth", spec := "fnExactStretchNorth", inPlace := ["math.Float64frombits", "math.Float64bits"], apart := false, narrowed := true }
def FnExactStretchNorthUptoSaid : Prop := fnExactStretchNorthUptoRow.holds Try.pinned (OpenSpec.upto fnExactStretchNorthSpec)

/-- 'laws.FnExactCompassCourse', WHERE WHAT IT READS IS OF BULK AT MOST 1048576: true; the input reads as it did. -/
def fnExactCompassCourseUptoRow : OpenClaim := { program := "ytbpfheefhdlglac", sum := "502b04bb2f617239a243380fde60961bb1073af3d29daf6aa011e790d38525d1", func := "loop.example/g01341/laws.FnExactCompassCourse", spec := "fnExactCompassCourse", inPlace := ["math.Float64frombits", "math.Float64bits", "math.archFloor", "math.archTrunc", "math.sqrt"], apart := false, narrowed := true }
def FnExactCompassCourseUptoSaid : Prop := fnExactCompassCourseUptoRow.holds Try.pinned (OpenSpec.upto fnExactCompassCourseSpec)

/-- 'laws.FnExactCompassLong', WHERE WHAT IT READS IS OF BULK AT MOST 1048576: true; the input reads as it did. -/
def fnExactCompassLongUptoRow : OpenClaim := { program := "ytbpfheefhdlglac", sum := "502b04bb2f617239a243380fde60961bb1073af3d29daf6aa011e790d38525d1", func := "loop.example/g01341/laws.FnExactCompassLong", spec := "fnExactCompassLong", inPlace := ["math.Float64frombits", "math.Float64bits", "math.archFloor", "math.archTrunc", "math.sqrt"], apart := false, narrowed := true }
def FnExactCompassLongUptoSaid : Prop := fnExactCompassLongUptoRow.holds Try.pinned (OpenSpec.upto fnExactCompassLongSpec)

/-- 'laws.FnExactStepsOf', WHERE WHAT IT READS IS OF BULK AT MOST 1048576: true; the input reads as it did. -/
def fnExactStepsOfUptoRow : OpenClaim := { program := "ytbpfheefhdlglac", sum := "502b04bb2f617239a243380fde60961bb1073af3d29daf6aa011e790d38525d1", func := "loop.example/g01341/laws.FnExactStepsOf", spec := "fnExactStepsOf", inPlace := ["math.archFloor", "math.Float64bits", "math.Float64frombits", "math.archTrunc"], apart := false, narrowed := true }
def FnExactStepsOfUptoSaid : Prop := fnExactStepsOfUptoRow.holds Try.pinned (OpenSpec.upto fnExactStepsOfSpec)

/-- 'laws.FnExactPlaceOfSteps', WHERE WHAT IT READS IS OF BULK AT MOST 1048576: true; the input reads as it did. -/
def fnExactPlaceOfStepsUptoRow : OpenClaim := { program := "ytbpfheefhdlglac", sum := "502b04bb2f617239a243380fde60961bb1073af3d29daf6aa011e790d38525d1", func := "loop.example/g01341/laws.FnExactPlaceOfSteps", spec := "fnExactPlaceOfSteps", apart := false, narrowed := true }
def FnExactPlaceOfStepsUptoSaid : Prop := fnExactPlaceOfStepsUptoRow.holds Try.pinned (OpenSpec.upto fnExactPlaceOfStepsSpec)

/-- 'laws.FnExactFlatNorth', WHERE WHAT IT READS IS OF BULK AT MOST 1048576: true; the input reads as it did. -/
def fnExactFlatNorthUptoRow : OpenClaim := { program := "ytbpfheefhdlglac", sum := "502b04bb2f617239a243380fde60961bb1073af3d29daf6aa011e790d38525d1", func := "loop.example/g01341/laws.FnExactFlatNorth", spec := "fnExactFlatNorth", inPlace := ["math.Float64frombits", "math.Float64bits", "math.sqrt"], apart := false, narrowed := true }
def FnExactFlatNorthUptoSaid : Prop := fnExactFlatNorthUptoRow.holds Try.pinned (OpenSpec.upto fnExactFlatNorthSpec)

/-- 'laws.FnExactBackNorth', WHERE WHAT IT READS IS OF BULK AT MOST 1048576: true; the input reads as it did. -/
def fnExactBackNorthUptoRow : OpenClaim := { program := "ytbpfheefhdlglac", sum := "502b04bb2f617239a243380fde60961bb1073af3d29daf6aa011e790d38525d1", func := "loop.example/g01341/laws.FnExactBackNorth", spec := "fnExactBackNorth", inPlace := ["math.Float64frombits", "math.Float64bits", "math.sqrt"], apart := false, narrowed := true }
def FnExactBackNorthUptoSaid : Prop := fnExactBackNorthUptoRow.holds Try.pinned (OpenSpec.upto fnExactBackNorthSpec)

/-- 'laws.FnExactMeridianLong', WHERE WHAT IT READS IS OF BULK AT MOST 1048576: true; the input reads as it did. -/
def fnExactMeridianLongUptoRow : OpenClaim := { program := "ytbpfheefhdlglac", sum := "502b04bb2f617239a243380fde60961bb1073af3d29daf6aa011e790d38525d1", func := "loop.example/g01341/laws.FnExactMeridianLong", spec := "fnExactMeridianLong", inPlace := ["math.Float64frombits", "math.sqrt", "math.Float64bits"], apart := false, narrowed := true }
def FnExactMeridianLongUptoSaid : Prop := fnExactMeridianLongUptoRow.holds Try.pinned (OpenSpec.upto fnExactMeridianLongSpec)

end Rows
end Go.Proofs.Ytbpfheefhdlglac
