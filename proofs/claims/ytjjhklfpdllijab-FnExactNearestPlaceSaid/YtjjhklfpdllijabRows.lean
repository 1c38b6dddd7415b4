/-
  No cell of these rows narrows 'for every input' (looked for: loops, veiled, ifaces, maps, wideKeys, modest, calm, conditions, laid).
  DERIVED. THE GIVEN ROWS OF THIS SEAT. 7 by the template 'for every input the law returns true; each argument reads behind the call as it read before'; 0 by the template 'total and deterministic' (their statements: YtjjhklfpdllijabTotals.lean).
  GIVEN WITH THE SEED: the statements are not yours to turn. If you find one false, say at which input.
  Laid BY PROGRAM, IN A SANDBOX (cutbox-rows.mjs): the forced cells as the released guide's own fill.sh prints them over the translation ed87d4565d9b35e8… (all of the seat's roots in one cut). By AI agents, Wed Nov 11 2026. No macro, syntax, notation, axiom, sorry.
-/
import Derived.Test.YtjjhklfpdllijabChecked
import GoSem.Claim
import GoSem.ClaimJoined
import GoSem.ClaimMapViews
import Derived.JoinedTies
import Derived.KernelRfl
namespace Go.Proofs.Ytjjhklfpdllijab
/- THE CELL 'sum', in the pinned program and in every row, IS THE sha256 OF THE DUMP (.gsa) THAT YtjjhklfpdllijabProg.lean LOADS. Nothing in Lean hashes anything: it is a label: what it is worth is what the hold of that sum in a sandbox is worth. -/
noncomputable def Try.pinned : Pinned := { name := "ytjjhklfpdllijab", sum := "ed87d4565d9b35e87f9c05f267a0086b3549ff644aa07473e583d3692717e219", checked := Try.checked }
namespace Rows
def none {H : Type} : Left H := { results := [], args := [] }

/-- 'laws.FnExactMeanPlace': WHATEVER THE INPUT: true; the input reads as it did. -/
def fnExactMeanPlaceSpec : ChangeSpec := { name := "fnExactMeanPlace", fn := fun _ => fun
  | [d] => { results := [.lit (.bool true)], args := [d] }
  | _ => none }
def fnExactMeanPlaceRow : OpenClaim := { program := "ytjjhklfpdllijab", sum := "ed87d4565d9b35e87f9c05f267a0086b3549ff644aa07473e583d3692717e219", func := "loop.example/g01341/laws.FnExactMeanPlace", spec := "fnExactMeanPlace", inPlace := ["math.Float64frombits", "math.sqrt", "math.Float64bits", "math.archFloor", "math.archTrunc"], apart := false }
def FnExactMeanPlaceSaid : Prop := fnExactMeanPlaceRow.holds Try.pinned (OpenSpec.ofChange fnExactMeanPlaceSpec)

/-- ITS FALSE NEIGHBOUR: 'it returns false'. Refute it at one input. -/
def fnExactMeanPlaceWrong : ChangeSpec := { name := "fnExactMeanPlace", fn := fun _ => fun
  | [d] => { results := [.lit (.bool false)], args := [d] }
  | _ => none }
def FnExactMeanPlaceWrongFalsely : Prop := fnExactMeanPlaceRow.holds Try.pinned (OpenSpec.ofChange fnExactMeanPlaceWrong)

/-- 'laws.FnExactNearestPlace': WHATEVER THE INPUT: true; the input reads as it did. -/
def fnExactNearestPlaceSpec : ChangeSpec := { name := "fnExactNearestPlace", fn := fun _ => fun
  | [d1, d2] => { results := [.lit (.bool true)], args := [d1, d2] }
  | _ => none }
def fnExactNearestPlaceRow : OpenClaim := { program := "ytjjhklfpdllijab", sum := "ed87d4565d9b35e87f9c05f267a0086b3549ff644aa07473e583d3692717e219", func := "loop.example/g01341/laws.FnExactNearestPlace", spec := "fnExactNearestPlace", inPlace := ["math.Float64frombits", "math.sqrt", "math.Float64bits"], apart := false }
def FnExactNearestPlaceSaid : Prop := fnExactNearestPlaceRow.holds Try.pinned (OpenSpec.ofChange fnExactNearestPlaceSpec)

/-- ITS FALSE NEIGHBOUR: 'it returns false'. Refute it at one input. -/
def fnExactNearestPlaceWrong : ChangeSpec := { name := "fnExactNearestPlace", fn := fun _ => fun
  | [d1, d2] => { results := [.lit (.bool false)], args := [d1, d2] }
  | _ => none }
def FnExactNearestPlaceWrongFalsely : Prop := fnExactNearestPlaceRow.holds Try.pinned (OpenSpec.ofChange fnExactNearestPlaceWrong)

/-- 'laws.FnExactValidMap': WHATEVER THE INPUT: true; the input reads as it did. -/
def fnExactValidMapSpec : ChangeSpec := { name := "fnExactValidMap", fn := fun _ => fun
  | [d] => { results := [.lit (.bool true)], args := [d] }
  | _ => none }
def fnExactValidMapRow : OpenClaim := { program := "ytjjhklfpdllijab", sum := "ed87d4565d9b35e87f9c05f267a0086b3549ff644aa07473e583d3692717e219", func := "loop.example/g01341/laws.FnExactValidMap", spec := "fnExactValidMap", apart := false }
def FnExactValidMapSaid : Prop := fnExactValidMapRow.holds Try.pinned (OpenSpec.ofChange fnExactValidMapSpec)

/-- ITS FALSE NEIGHBOUR: 'it returns false'. Refute it at one input. -/
def fnExactValidMapWrong : ChangeSpec := { name := "fnExactValidMap", fn := fun _ => fun
  | [d] => { results := [.lit (.bool false)], args := [d] }
  | _ => none }
def FnExactValidMapWrongFalsely : Prop := fnExactValidMapRow.holds Try.pinned (OpenSpec.ofChange fnExactValidMapWrong)

/-- 'laws.FnExactSameMap': WHATEVER THE INPUT: true; the input reads as it did. -/
def fnExactSameMapSpec : ChangeSpec := { name := "fnExactSameMap", fn := fun _ => fun
  | [d1, d2] => { results := [.lit (.bool true)], args := [d1, d2] }
  | _ => none }
def fnExactSameMapRow : OpenClaim := { program := "ytjjhklfpdllijab", sum := "ed87d4565d9b35e87f9c05f267a0086b3549ff644aa07473e583d3692717e219", func := "loop.example/g01341/laws.FnExactSameMap", spec := "fnExactSameMap", inPlace := ["math.Float32bits"], apart := false }
def FnExactSameMapSaid : Prop := fnExactSameMapRow.holds Try.pinned (OpenSpec.ofChange fnExactSameMapSpec)

/-- ITS FALSE NEIGHBOUR: 'it returns false'. Refute it at one input. -/
def fnExactSameMapWrong : ChangeSpec := { name := "fnExactSameMap", fn := fun _ => fun
  | [d1, d2] => { results := [.lit (.bool false)], args := [d1, d2] }
  | _ => none }
def FnExactSameMapWrongFalsely : Prop := fnExactSameMapRow.holds Try.pinned (OpenSpec.ofChange fnExactSameMapWrong)

/-- 'laws.FnExactZoneOf': WHATEVER THE INPUT: true; the input reads as it did. -/
def fnExactZoneOfSpec : ChangeSpec := { name := "fnExactZoneOf", fn := fun _ => fun
  | [d1, d2] => { results := [.lit (.bool true)], args := [d1, d2] }
  | _ => none }
def fnExactZoneOfRow : OpenClaim := { program := "ytjjhklfpdllijab", sum := "ed87d4565d9b35e87f9c05f267a0086b3549ff644aa07473e583d3692717e219", func := "loop.example/g01341/laws.FnExactZoneOf", spec := "fnExactZoneOf", inPlace := ["math.archFloor", "math.Float64bits", "math.Float64frombits", "math.archTrunc"], apart := false }
def FnExactZoneOfSaid : Prop := fnExactZoneOfRow.holds Try.pinned (OpenSpec.ofChange fnExactZoneOfSpec)

/-- ITS FALSE NEIGHBOUR: 'it returns false'. Refute it at one input. -/
def fnExactZoneOfWrong : ChangeSpec := { name := "fnExactZoneOf", fn := fun _ => fun
  | [d1, d2] => { results := [.lit (.bool false)], args := [d1, d2] }
  | _ => none }
def FnExactZoneOfWrongFalsely : Prop := fnExactZoneOfRow.holds Try.pinned (OpenSpec.ofChange fnExactZoneOfWrong)

/-- 'laws.FnExactZoneMap': WHATEVER THE INPUT: true; the input reads as it did. -/
def fnExactZoneMapSpec : ChangeSpec := { name := "fnExactZoneMap", fn := fun _ => fun
  | [d1, d2, d3] => { results := [.lit (.bool true)], args := [d1, d2, d3] }
  | _ => none }
def fnExactZoneMapRow : OpenClaim := { program := "ytjjhklfpdllijab", sum := "ed87d4565d9b35e87f9c05f267a0086b3549ff644aa07473e583d3692717e219", func := "loop.example/g01341/laws.FnExactZoneMap", spec := "fnExactZoneMap", apart := false }
def FnExactZoneMapSaid : Prop := fnExactZoneMapRow.holds Try.pinned (OpenSpec.ofChange fnExactZoneMapSpec)

/-- ITS FALSE NEIGHBOUR: 'it returns false'. Refute it at one input. -/
def fnExactZoneMapWrong : ChangeSpec := { name := "fnExactZoneMap", fn := fun _ => fun
  | [d1, d2, d3] => { results := [.lit (.bool false)], args := [d1, d2, d3] }
  | _ => none }
def FnExactZoneMapWrongFalsely : Prop := fnExactZoneMapRow.holds Try.pinned (OpenSpec.ofChange fnExactZoneMapWrong)

/-- 'laws.FnExactCutPlaces': WHATEVER THE INPUT: true; the input reads as it did. -/
def fnExactCutPlacesSpec : ChangeSpec := { name := "fnExactCutPlaces", fn := fun _ => fun
  | [d1, d2] => { results := [.lit (.bool true)], args := [d1, d2] }
  | _ => none }
def fnExactCutPlacesRow : OpenClaim := { program := "ytjjhklfpdllijab", sum := "ed87d4565d9b35e87f9c05f267a0086b3549ff644aa07473e583d3692717e219", func := "loop.example/g01341/laws.FnExactCutPlaces", spec := "fnExactCutPlaces", inPlace := ["math.archFloor", "math.Float64bits", "math.Float64frombits", "math.archTrunc"], unfollowed := true, recurses := true, apart := false }
def FnExactCutPlacesSaid : Prop := fnExactCutPlacesRow.holds Try.pinned (OpenSpec.ofChange fnExactCutPlacesSpec)

/-- ITS FALSE NEIGHBOUR: 'it returns false'. Refute it at one input. -/
def fnExactCutPlacesWrong : ChangeSpec := { name := "fnExactCutPlaces", fn := fun _ => fun
  | [d1, d2] => { results := [.lit (.bool false)], args := [d1, d2] }
  | _ => none }
def FnExactCutPlacesWrongFalsely : Prop := fnExactCutPlacesRow.holds Try.pinned (OpenSpec.ofChange fnExactCutPlacesWrong)

/- THE SECOND FORM. 'bulk': how many values and letters a reading holds, each counted each time it is reached (what is shared counts as often as it is met; a slice's spare places count too). A statement '..UptoSaid' is the law's where the arguments, and the package variables that the reading takes, are together of bulk at most 1048576: NARROWER than '..Said'. Prove '..Said' where nothing that the law and all that it calls make is longer than what came in: it says more and counts as full. Else prove '..UptoSaid'. A law counts once. -/
mutual
def uptoBulk {H : Type} : DataW H → Nat
  | .lit (.string bytes) => bytes.length + 1
  | .lit _ => 1
  | .nil => 1
  | .ptr d => uptoBulk d + 1
  | .slice elems spare => uptoBulkAll elems + uptoBulkAll spare + 1
  | .agg parts => uptoBulkAll parts + 1
  | .iface _ d => uptoBulk d + 1
  | .map entries => uptoBulkEntries entries + 1
  | .held _ => 1
def uptoBulkAll {H : Type} : List (DataW H) → Nat
  | [] => 0
  | d :: r => uptoBulk d + uptoBulkAll r
def uptoBulkEntries {H : Type} : List (Lit × DataW H) → Nat
  | [] => 0
  | x :: r => uptoBulkEntry x + uptoBulkEntries r
def uptoBulkEntry {H : Type} : Lit × DataW H → Nat
  | (.string bytes, d) => bytes.length + uptoBulk d + 1
  | (_, d) => uptoBulk d + 1
 end
def uptoSmall : (H : Type) → List (DataW H) → Bool := fun _ ds => decide (uptoBulkAll ds ≤ 1048576)
def OpenSpec.upto (s : _root_.Go.ChangeSpec) : _root_.Go.OpenSpec := { _root_.Go.OpenSpec.ofChange s with cond := some uptoSmall }

/-- 'laws.FnExactMeanPlace', WHERE WHAT IT READS IS OF BULK AT MOST 1048576: true; the input reads as it did. -/
def fnExactMeanPlaceUptoRow : OpenClaim := { program := "ytjjhklfpdllijab", sum := "ed87d4565d9b35e87f9c05f267a0086b3549ff644aa07473e583d3692717e219", func := "loop.example/g01341/laws.FnExactMeanPlace", spec := "fnExactMeanPlace", inPlace := ["math.Float64frombits", "math.sqrt", "math.Float64bits", "math.archFloor", "math.archTrunc"], apart := false, narrowed := true }
def FnExactMeanPlaceUptoSaid : Prop := fnExactMeanPlaceUptoRow.holds Try.pinned (OpenSpec.upto fnExactMeanPlaceSpec)

/-- 'laws.FnExactNearestPlace', WHERE WHAT IT READS IS OF BULK AT MOST 1048576: true; the input reads as it did. -/
def fnExactNearestPlaceUptoRow : OpenClaim := { program := "ytjjhklfpdllijab", sum := "ed87d4565d9b35e87f9c05f267a0086b3549ff644aa07473e583d3692717e219", func := "loop.example/g01341/laws.FnExactNearestPlace", spec := "fnExactNearestPlace", inPlace := ["math.Float64frombits", "math.sqrt", "math.Float64bits"], apart := false, narrowed := true }
def FnExactNearestPlaceUptoSaid : Prop := fnExactNearestPlaceUptoRow.holds Try.pinned (OpenSpec.upto fnExactNearestPlaceSpec)

/-- 'laws.FnExactValidMap', WHERE WHAT IT READS IS OF BULK AT MOST 1048576: true; the input reads as it did. -/
def fnExactValidMapUptoRow : OpenClaim := { program := "ytjjhklfpdllijab", sum := "ed87d4565d9b35e87f9c05f267a0086b3549ff644aa07473e583d3692717e219", func := "loop.example/g01341/laws.FnExactValidMap", spec := "fnExactValidMap", apart := false, narrowed := true }
def FnExactValidMapUptoSaid : Prop := fnExactValidMapUptoRow.holds Try.pinned (OpenSpec.upto fnExactValidMapSpec)

/-- 'laws.FnExactSameMap', WHERE WHAT IT READS IS OF BULK AT MOST 1048576: true; the input reads as it did. -/
def fnExactSameMapUptoRow : OpenClaim := { program := "ytjjhklfpdllijab", sum := "ed87d4565d9b35e87f9c05f267a0086b3549ff644aa07473e583d3692717e219", func := "loop.example/g01341/laws.FnExactSameMap", spec := "fnExactSameMap", inPlace := ["math.Float32bits"], apart := false, narrowed := true }
def FnExactSameMapUptoSaid : Prop := fnExactSameMapUptoRow.holds Try.pinned (OpenSpec.upto fnExactSameMapSpec)

/-- 'laws.FnExactZoneOf', WHERE WHAT IT READS IS OF BULK AT MOST 1048576: true; the input reads as it did. -/
def fnExactZoneOfUptoRow : OpenClaim := { program := "ytjjhklfpdllijab", sum := "ed87d4565d9b35e87f9c05f267a0086b3549ff644aa07473e583d3692717e219", func := "loop.example/g01341/laws.FnExactZoneOf", spec := "fnExactZoneOf", inPlace := ["math.archFloor", "math.Float64bits", "math.Float64frombits", "math.archTrunc"], apart := false, narrowed := true }
def FnExactZoneOfUptoSaid : Prop := fnExactZoneOfUptoRow.holds Try.pinned (OpenSpec.upto fnExactZoneOfSpec)

/-- 'laws.FnExactZoneMap', WHERE WHAT IT READS IS OF BULK AT MOST 1048576: true; the input reads as it did. -/
def fnExactZoneMapUptoRow : OpenClaim := { program := "ytjjhklfpdllijab", sum := "ed87d4565d9b35e87f9c05f267a0086b3549ff644aa07473e583d3692717e219", func := "loop.example/g01341/laws.FnExactZoneMap", spec := "fnExactZoneMap", apart := false, narrowed := true }
def FnExactZoneMapUptoSaid : Prop := fnExactZoneMapUptoRow.holds Try.pinned (OpenSpec.upto fnExactZoneMapSpec)

/-- 'laws.FnExactCutPlaces', WHERE WHAT IT READS IS OF BULK AT MOST 1048576: true; the input reads as it did. -/
def fnExactCutPlacesUptoRow : OpenClaim := { program := "ytjjhklfpdllijab", sum := "ed87d4565d9b35e87f9c05f267a0086b3549ff644aa07473e583d3692717e219", func := "loop.example/g01341/laws.FnExactCutPlaces", spec := "fnExactCutPlaces", inPlace := ["math.archFloor", "math.Float64bits", "math.Float64frombits", "math.archTrunc"], unfollowed := true, recurses := true, apart := false, narrowed := true }
def FnExactCutPlacesUptoSaid : Prop := fnExactCutPlacesUptoRow.holds Try.pinned (OpenSpec.upto fnExactCutPlacesSpec)

end Rows
end Go.Proofs.Ytjjhklfpdllijab
