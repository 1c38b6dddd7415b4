/-
  No cell of these rows narrows 'for every input' (looked for: loops, veiled, ifaces, maps, wideKeys, modest, calm, conditions, laid).
  DERIVED. THE GIVEN ROWS OF THIS SEAT. 6 by the template 'for every input the law returns true; each argument reads behind the call as it read before'; 0 by the template 'total and deterministic' (their statements: YtfmhbmehidlhiaaTotals.lean).
  GIVEN WITH THE SEED: the statements are not yours to turn. If you find one false, say at which input.
  Laid BY PROGRAM, IN A SANDBOX (cutbox-rows.mjs): the forced cells as the released guide's own fill.sh prints them over the translation 1788363ff316f4f6… (all of the seat's roots in one cut). By AI agents, Wed Nov 11 2026. No macro, syntax, notation, axiom, sorry.
-/
import Derived.Test.YtfmhbmehidlhiaaChecked
import GoSem.Claim
import GoSem.ClaimJoined
import GoSem.ClaimMapViews
import Derived.JoinedTies
import Derived.KernelRfl
namespace Go.Proofs.Ytfmhbmehidlhiaa
/- THE CELL 'sum', in the pinned program and in every row, IS THE sha256 OF THE DUMP (.gsa) THAT YtfmhbmehidlhiaaProg.lean LOADS. Nothing in Lean hashes anything: it is a label: what it is worth is what the hold of that sum in a sandbox is worth. -/
noncomputable def Try.pinned : Pinned := { name := "ytfmhbmehidlhiaa", sum := "1788363ff316f4f64729e6a25018f9ac22440dbdb0ecdfdaaa52caee132015b1", checked := Try.checked }
namespace Rows
def none {H : Type} : Left H := { results := [], args := [] }

/-- 'laws.FnExactGoFrom': WHATEVER THE INPUT: true; the input reads as it did. -/
def fnExactGoFromSpec : ChangeSpec := { name := "fnExactGoFrom", fn := fun _ => fun
  | [d1, d2, d3] => { results := [.lit (.bool true)], args := [d1, d2, d3] }
  | _ => none }
def fnExactGoFromRow : OpenClaim := { program := "ytfmhbmehidlhiaa", sum := "1788363ff316f4f64729e6a25018f9ac22440dbdb0ecdfdaaa52caee132015b1", func := "loop.example/g01341/laws.FnExactGoFrom", spec := "fnExactGoFrom", inPlace := ["math.Float64frombits", "math.sqrt", "math.Float64bits", "math.archFloor", "math.archTrunc"], unfollowed := true, recurses := true, apart := false }
def FnExactGoFromSaid : Prop := fnExactGoFromRow.holds Try.pinned (OpenSpec.ofChange fnExactGoFromSpec)

/-- ITS FALSE NEIGHBOUR: 'it returns false'. Refute it at one input. -/
def fnExactGoFromWrong : ChangeSpec := { name := "fnExactGoFrom", fn := fun _ => fun
  | [d1, d2, d3] => { results := [.lit (.bool false)], args := [d1, d2, d3] }
  | _ => none }
def FnExactGoFromWrongFalsely : Prop := fnExactGoFromRow.holds Try.pinned (OpenSpec.ofChange fnExactGoFromWrong)

/-- 'laws.FnExactShareOfWay': WHATEVER THE INPUT: true; the input reads as it did. -/
def fnExactShareOfWaySpec : ChangeSpec := { name := "fnExactShareOfWay", fn := fun _ => fun
  | [d1, d2, d3] => { results := [.lit (.bool true)], args := [d1, d2, d3] }
  | _ => none }
def fnExactShareOfWayRow : OpenClaim := { program := "ytfmhbmehidlhiaa", sum := "1788363ff316f4f64729e6a25018f9ac22440dbdb0ecdfdaaa52caee132015b1", func := "loop.example/g01341/laws.FnExactShareOfWay", spec := "fnExactShareOfWay", inPlace := ["math.Float64frombits", "math.Float64bits", "math.sqrt", "math.archFloor", "math.archTrunc"], unfollowed := true, recurses := true, apart := false }
def FnExactShareOfWaySaid : Prop := fnExactShareOfWayRow.holds Try.pinned (OpenSpec.ofChange fnExactShareOfWaySpec)

/-- ITS FALSE NEIGHBOUR: 'it returns false'. Refute it at one input. -/
def fnExactShareOfWayWrong : ChangeSpec := { name := "fnExactShareOfWay", fn := fun _ => fun
  | [d1, d2, d3] => { results := [.lit (.bool false)], args := [d1, d2, d3] }
  | _ => none }
def FnExactShareOfWayWrongFalsely : Prop := fnExactShareOfWayRow.holds Try.pinned (OpenSpec.ofChange fnExactShareOfWayWrong)

/-- 'laws.FnExactOffWay': WHATEVER THE INPUT: true; the input reads as it did. -/
def fnExactOffWaySpec : ChangeSpec := { name := "fnExactOffWay", fn := fun _ => fun
  | [d1, d2, d3] => { results := [.lit (.bool true)], args := [d1, d2, d3] }
  | _ => none }
def fnExactOffWayRow : OpenClaim := { program := "ytfmhbmehidlhiaa", sum := "1788363ff316f4f64729e6a25018f9ac22440dbdb0ecdfdaaa52caee132015b1", func := "loop.example/g01341/laws.FnExactOffWay", spec := "fnExactOffWay", inPlace := ["math.Float64frombits", "math.sqrt", "math.Float64bits"], apart := false }
def FnExactOffWaySaid : Prop := fnExactOffWayRow.holds Try.pinned (OpenSpec.ofChange fnExactOffWaySpec)

/-- ITS FALSE NEIGHBOUR: 'it returns false'. Refute it at one input. -/
def fnExactOffWayWrong : ChangeSpec := { name := "fnExactOffWay", fn := fun _ => fun
  | [d1, d2, d3] => { results := [.lit (.bool false)], args := [d1, d2, d3] }
  | _ => none }
def FnExactOffWayWrongFalsely : Prop := fnExactOffWayRow.holds Try.pinned (OpenSpec.ofChange fnExactOffWayWrong)

/-- 'laws.FnExactMeridianLong': WHATEVER THE INPUT: true; the input reads as it did. -/
def fnExactMeridianLongSpec : ChangeSpec := { name := "fnExactMeridianLong", fn := fun _ => fun
  | [d1, d2, d3] => { results := [.lit (.bool true)], args := [d1, d2, d3] }
  | _ => none }
def fnExactMeridianLongRow : OpenClaim := { program := "ytfmhbmehidlhiaa", sum := "1788363ff316f4f64729e6a25018f9ac22440dbdb0ecdfdaaa52caee132015b1", func := "loop.example/g01341/laws.FnExactMeridianLong", spec := "fnExactMeridianLong", inPlace := ["math.Float64frombits", "math.sqrt", "math.Float64bits"], apart := false }
def FnExactMeridianLongSaid : Prop := fnExactMeridianLongRow.holds Try.pinned (OpenSpec.ofChange fnExactMeridianLongSpec)

/-- ITS FALSE NEIGHBOUR: 'it returns false'. Refute it at one input. -/
def fnExactMeridianLongWrong : ChangeSpec := { name := "fnExactMeridianLong", fn := fun _ => fun
  | [d1, d2, d3] => { results := [.lit (.bool false)], args := [d1, d2, d3] }
  | _ => none }
def FnExactMeridianLongWrongFalsely : Prop := fnExactMeridianLongRow.holds Try.pinned (OpenSpec.ofChange fnExactMeridianLongWrong)

/-- 'laws.FnExactLongOfPlaces': WHATEVER THE INPUT: true; the input reads as it did. -/
def fnExactLongOfPlacesSpec : ChangeSpec := { name := "fnExactLongOfPlaces", fn := fun _ => fun
  | [d1, d2] => { results := [.lit (.bool true)], args := [d1, d2] }
  | _ => none }
def fnExactLongOfPlacesRow : OpenClaim := { program := "ytfmhbmehidlhiaa", sum := "1788363ff316f4f64729e6a25018f9ac22440dbdb0ecdfdaaa52caee132015b1", func := "loop.example/g01341/laws.FnExactLongOfPlaces", spec := "fnExactLongOfPlaces", inPlace := ["math.Float64frombits", "math.sqrt", "math.Float64bits"], apart := false }
def FnExactLongOfPlacesSaid : Prop := fnExactLongOfPlacesRow.holds Try.pinned (OpenSpec.ofChange fnExactLongOfPlacesSpec)

/-- ITS FALSE NEIGHBOUR: 'it returns false'. Refute it at one input. -/
def fnExactLongOfPlacesWrong : ChangeSpec := { name := "fnExactLongOfPlaces", fn := fun _ => fun
  | [d1, d2] => { results := [.lit (.bool false)], args := [d1, d2] }
  | _ => none }
def FnExactLongOfPlacesWrongFalsely : Prop := fnExactLongOfPlacesRow.holds Try.pinned (OpenSpec.ofChange fnExactLongOfPlacesWrong)

/-- 'laws.FnExactBoxOfPlaces': WHATEVER THE INPUT: true; the input reads as it did. -/
def fnExactBoxOfPlacesSpec : ChangeSpec := { name := "fnExactBoxOfPlaces", fn := fun _ => fun
  | [d] => { results := [.lit (.bool true)], args := [d] }
  | _ => none }
def fnExactBoxOfPlacesRow : OpenClaim := { program := "ytfmhbmehidlhiaa", sum := "1788363ff316f4f64729e6a25018f9ac22440dbdb0ecdfdaaa52caee132015b1", func := "loop.example/g01341/laws.FnExactBoxOfPlaces", spec := "fnExactBoxOfPlaces", apart := false }
def FnExactBoxOfPlacesSaid : Prop := fnExactBoxOfPlacesRow.holds Try.pinned (OpenSpec.ofChange fnExactBoxOfPlacesSpec)

/-- ITS FALSE NEIGHBOUR: 'it returns false'. Refute it at one input. -/
def fnExactBoxOfPlacesWrong : ChangeSpec := { name := "fnExactBoxOfPlaces", fn := fun _ => fun
  | [d] => { results := [.lit (.bool false)], args := [d] }
  | _ => none }
def FnExactBoxOfPlacesWrongFalsely : Prop := fnExactBoxOfPlacesRow.holds Try.pinned (OpenSpec.ofChange fnExactBoxOfPlacesWrong)

/- THE SECOND FORM. 'bulk': how many values and letters a reading holds, each counted each time it is reached (what is shared counts as often as it is met; a slice's spare places count too). A statement '..UptoSaid' is the law's where the arguments, and the package variables that the reading takes, are together of bulk at most 1048576: NARROWER than '..Said'. Prove '..Said' where nothing that the law and all that it calls make is longer than what came in: it says more and counts as full. Else prove '..UptoSaid'. A law counts once. -/
mutual
def uptoBulk {H : Type} : DataW H → Nat
  | .lit (.string bytes) => bytes.length + 1
  | .lit _ => 1
  | .nil => 1
  | .ptr d => uptoBulk d + 1
  | .slice elems spare => uptoBulkAll elems + uptoBulkAll spare + 1
  | .agg parts => uptoBulkAll parts + 1
  | .iface _ d => uptoBulk d + 1
  | .map entries => uptoBulkEntries entries + 1
  | .held _ => 1
def uptoBulkAll {H : Type} : List (DataW H) → Nat
  | [] => 0
  | d :: r => uptoBulk d + uptoBulkAll r
def uptoBulkEntries {H : Type} : List (Lit × DataW H) → Nat
  | [] => 0
  | x :: r => uptoBulkEntry x + uptoBulkEntries r
def uptoBulkEntry {H : Type} : Lit × DataW H → Nat
  | (.string bytes, d) => bytes.length + uptoBulk d + 1
  | (_, d) => uptoBulk d + 1
 end
def uptoSmall : (H : Type) → List (DataW H) → Bool := fun _ ds => decide (uptoBulkAll ds ≤ 1048576)
def OpenSpec.upto (s : _root_.Go.ChangeSpec) : _root_.Go.OpenSpec := { _root_.Go.OpenSpec.ofChange s with cond := some uptoSmall }

/-- 'laws.FnExactGoFrom', WHERE WHAT IT READS IS OF BULK AT MOST 1048576: true; the input reads as it did. -/
def fnExactGoFromUptoRow : OpenClaim := { program := "ytfmhbmehidlhiaa", sum := "1788363ff316f4f64729e6a25018f9ac22440dbdb0ecdfdaaa52caee132015b1", func := "loop.example/g01341/laws.FnExactGoFrom", spec := "fnExactGoFrom", inPlace := ["math.Float64frombits", "math.sqrt", "math.Float64bits", "math.archFloor", "math.archTrunc"], unfollowed := true, recurses := true, apart := false, narrowed := true }
def FnExactGoFromUptoSaid : Prop := fnExactGoFromUptoRow.holds Try.pinned (OpenSpec.upto fnExactGoFromSpec)

/-- 'laws.FnExactShareOfWay', WHERE WHAT IT READS IS OF BULK AT MOST 1048576: true; the input reads as it did. -/
def fnExactShareOfWayUptoRow : OpenClaim := { program := "ytfmhbmehidlhiaa", sum := "1788363ff316f4f64729e6a25018f9ac22440dbdb0ecdfdaaa52caee132015b1", func := "loop.example/g01341/laws.FnExactShareOfWay", spec := "fnExactShareOfWay", inPlace := ["math.Float64frombits", "math.Float64bits", "math.sqrt", "math.archFloor", "math.archTrunc"], unfollowed := true, recurses := true, apart := false, narrowed := true }
def FnExactShareOfWayUptoSaid : Prop := fnExactShareOfWayUptoRow.holds Try.pinned (OpenSpec.upto fnExactShareOfWaySpec)

/-- 'laws.FnExactOffWay', WHERE WHAT IT READS IS OF BULK AT MOST 1048576: true; the input reads as it did. -/
def fnExactOffWayUptoRow : OpenClaim := { program := "ytfmhbmehidlhiaa", sum := "1788363ff316f4f64729e6a25018f9ac22440dbdb0ecdfdaaa52caee132015b1", func := "loop.example/g01341/laws.FnExactOffWay", spec := "fnExactOffWay", inPlace := ["math.Float64frombits", "math.sqrt", "math.Float64bits"], apart := false, narrowed := true }
def FnExactOffWayUptoSaid : Prop := fnExactOffWayUptoRow.holds Try.pinned (OpenSpec.upto fnExactOffWaySpec)

/-- 'laws.FnExactMeridianLong', WHERE WHAT IT READS IS OF BULK AT MOST 1048576: true; the input reads as it did. -/
def fnExactMeridianLongUptoRow : OpenClaim := { program := "ytfmhbmehidlhiaa", sum := "1788363ff316f4f64729e6a25018f9ac22440dbdb0ecdfdaaa52caee132015b1", func := "loop.example/g01341/laws.FnExactMeridianLong", spec := "fnExactMeridianLong", inPlace := ["math.Float64frombits", "math.sqrt", "math.Float64bits"], apart := false, narrowed := true }
def FnExactMeridianLongUptoSaid : Prop := fnExactMeridianLongUptoRow.holds Try.pinned (OpenSpec.upto fnExactMeridianLongSpec)

/-- 'laws.FnExactLongOfPlaces', WHERE WHAT IT READS IS OF BULK AT MOST 1048576: true; the input reads as it did. -/
def fnExactLongOfPlacesUptoRow : OpenClaim := { program := "ytfmhbmehidlhiaa", sum := "1788363ff316f4f64729e6a25018f9ac22440dbdb0ecdfdaaa52caee132015b1", func := "loop.example/g01341/laws.FnExactLongOfPlaces", spec := "fnExactLongOfPlaces", inPlace := ["math.Float64frombits", "math.sqrt", "math.Float64bits"], apart := false, narrowed := true }
def FnExactLongOfPlacesUptoSaid : Prop := fnExactLongOfPlacesUptoRow.holds Try.pinned (OpenSpec.upto fnExactLongOfPlacesSpec)

/-- 'laws.FnExactBoxOfPlaces', WHERE WHAT IT READS IS OF BULK AT MOST 1048576: true; the input reads as it did. -/
def fnExactBoxOfPlacesUptoRow : OpenClaim := { program := "ytfmhbmehidlhiaa", sum := "1788363ff316f4f64729e6a25018f9ac22440dbdb0ecdfdaaa52caee132015b1", func := "loop.example/g01341/laws.FnExactBoxOfPlaces", spec := "fnExactBoxOfPlaces", apart := false, narrowed := true }
def FnExactBoxOfPlacesUptoSaid : Prop := fnExactBoxOfPlacesUptoRow.holds Try.pinned (OpenSpec.upto fnExactBoxOfPlacesSpec)

end Rows
end Go.Proofs.Ytfmhbmehidlhiaa
