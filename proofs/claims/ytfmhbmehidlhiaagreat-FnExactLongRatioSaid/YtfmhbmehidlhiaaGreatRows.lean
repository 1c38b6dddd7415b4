/-
  No cell of these rows narrows 'for every input' (looked for: loops, veiled, ifaces, maps, wideKeys, modest, calm, conditions, laid).
  DERIVED. THE GIVEN ROWS OF THIS SEAT. 6 by the template 'for every input the law returns true; each argument reads behind the call as it read before'; 0 by the template 'total and deterministic' (their statements: YtfmhbmehidlhiaaGreatTotals.lean).
  GIVEN WITH THE SEED: the statements are not yours to turn. If you find one false, say at which input.
  Laid BY PROGRAM, IN A SANDBOX (cutbox-rows.mjs): the forced cells as the released guide's own fill.sh prints them over the translation 3b8b43287e01f58f… (all of the seat's roots in one cut). By AI agents, Wed Nov 11 2026. No macro, syntax, notation, axiom, sorry.
-/
import Derived.Test.YtfmhbmehidlhiaaGreatChecked
import GoSem.Claim
import GoSem.ClaimJoined
import GoSem.ClaimMapViews
import Derived.JoinedTies
import Derived.KernelRfl
namespace Go.Proofs.YtfmhbmehidlhiaaGreat
/- THE CELL 'sum', in the pinned program and in every row, IS THE sha256 OF THE DUMP (.gsa) THAT YtfmhbmehidlhiaaGreatProg.lean LOADS. Nothing in Lean hashes anything: it is a label: what it is worth is what the hold of that sum in a sandbox is worth. -/
noncomputable def Tryz.pinned : Pinned := { name := "ytfmhbmehidlhiaagreat", sum := "3b8b43287e01f58fe9fc58ae3d0d8a8121145f84134da4e86fae87d9bb60224a", checked := Tryz.checked }
namespace Rows
def none {H : Type} : Left H := { results := [], args := [] }

/-- 'laws.FnExactLongRatio': WHATEVER THE INPUT: true; the input reads as it did. -/
def fnExactLongRatioSpec : ChangeSpec := { name := "fnExactLongRatio", fn := fun _ => fun
  | [d1, d2, d3] => { results := [.lit (.bool true)], args := [d1, d2, d3] }
  | _ => none }
def fnExactLongRatioRow : OpenClaim := { program := "ytfmhbmehidlhiaagreat", sum := "3b8b43287e01f58fe9fc58ae3d0d8a8121145f84134da4e86fae87d9bb60224a", func := "loop.example/g01341/laws.FnExactLongRatio", spec := "fnExactLongRatio", inPlace := ["math.archFloor", "math.Float64bits", "math.Float64frombits", "math.archTrunc", "math.sqrt", "math.Float32frombits"], unfollowed := true, recurses := true, apart := false }
def FnExactLongRatioSaid : Prop := fnExactLongRatioRow.holds Tryz.pinned (OpenSpec.ofChange fnExactLongRatioSpec)

/-- ITS FALSE NEIGHBOUR: 'it returns false'. Refute it at one input. -/
def fnExactLongRatioWrong : ChangeSpec := { name := "fnExactLongRatio", fn := fun _ => fun
  | [d1, d2, d3] => { results := [.lit (.bool false)], args := [d1, d2, d3] }
  | _ => none }
def FnExactLongRatioWrongFalsely : Prop := fnExactLongRatioRow.holds Tryz.pinned (OpenSpec.ofChange fnExactLongRatioWrong)

/-- 'laws.FnExactNorthLine': WHATEVER THE INPUT: true; the input reads as it did. -/
def fnExactNorthLineSpec : ChangeSpec := { name := "fnExactNorthLine", fn := fun _ => fun
  | [d1, d2, d3] => { results := [.lit (.bool true)], args := [d1, d2, d3] }
  | _ => none }
def fnExactNorthLineRow : OpenClaim := { program := "ytfmhbmehidlhiaagreat", sum := "3b8b43287e01f58fe9fc58ae3d0d8a8121145f84134da4e86fae87d9bb60224a", func := "loop.example/g01341/laws.FnExactNorthLine", spec := "fnExactNorthLine", inPlace := ["math.archFloor", "math.Float64bits", "math.Float64frombits", "math.archTrunc", "math.sqrt", "math.Float32frombits"], unfollowed := true, recurses := true, apart := false }
def FnExactNorthLineSaid : Prop := fnExactNorthLineRow.holds Tryz.pinned (OpenSpec.ofChange fnExactNorthLineSpec)

/-- ITS FALSE NEIGHBOUR: 'it returns false'. Refute it at one input. -/
def fnExactNorthLineWrong : ChangeSpec := { name := "fnExactNorthLine", fn := fun _ => fun
  | [d1, d2, d3] => { results := [.lit (.bool false)], args := [d1, d2, d3] }
  | _ => none }
def FnExactNorthLineWrongFalsely : Prop := fnExactNorthLineRow.holds Tryz.pinned (OpenSpec.ofChange fnExactNorthLineWrong)

/-- 'laws.FnExactEastLine': WHATEVER THE INPUT: true; the input reads as it did. -/
def fnExactEastLineSpec : ChangeSpec := { name := "fnExactEastLine", fn := fun _ => fun
  | [d1, d2, d3] => { results := [.lit (.bool true)], args := [d1, d2, d3] }
  | _ => none }
def fnExactEastLineRow : OpenClaim := { program := "ytfmhbmehidlhiaagreat", sum := "3b8b43287e01f58fe9fc58ae3d0d8a8121145f84134da4e86fae87d9bb60224a", func := "loop.example/g01341/laws.FnExactEastLine", spec := "fnExactEastLine", inPlace := ["math.archFloor", "math.Float64bits", "math.Float64frombits", "math.archTrunc", "math.sqrt", "math.Float32frombits"], unfollowed := true, recurses := true, apart := false }
def FnExactEastLineSaid : Prop := fnExactEastLineRow.holds Tryz.pinned (OpenSpec.ofChange fnExactEastLineSpec)

/-- ITS FALSE NEIGHBOUR: 'it returns false'. Refute it at one input. -/
def fnExactEastLineWrong : ChangeSpec := { name := "fnExactEastLine", fn := fun _ => fun
  | [d1, d2, d3] => { results := [.lit (.bool false)], args := [d1, d2, d3] }
  | _ => none }
def FnExactEastLineWrongFalsely : Prop := fnExactEastLineRow.holds Tryz.pinned (OpenSpec.ofChange fnExactEastLineWrong)

/-- 'laws.FnExactCrossAngle': WHATEVER THE INPUT: true; the input reads as it did. -/
def fnExactCrossAngleSpec : ChangeSpec := { name := "fnExactCrossAngle", fn := fun _ => fun
  | [d1, d2] => { results := [.lit (.bool true)], args := [d1, d2] }
  | _ => none }
def fnExactCrossAngleRow : OpenClaim := { program := "ytfmhbmehidlhiaagreat", sum := "3b8b43287e01f58fe9fc58ae3d0d8a8121145f84134da4e86fae87d9bb60224a", func := "loop.example/g01341/laws.FnExactCrossAngle", spec := "fnExactCrossAngle", inPlace := ["math.archFloor", "math.Float64bits", "math.Float64frombits", "math.archTrunc", "math.sqrt", "math.Float32frombits"], unfollowed := true, recurses := true, apart := false }
def FnExactCrossAngleSaid : Prop := fnExactCrossAngleRow.holds Tryz.pinned (OpenSpec.ofChange fnExactCrossAngleSpec)

/-- ITS FALSE NEIGHBOUR: 'it returns false'. Refute it at one input. -/
def fnExactCrossAngleWrong : ChangeSpec := { name := "fnExactCrossAngle", fn := fun _ => fun
  | [d1, d2] => { results := [.lit (.bool false)], args := [d1, d2] }
  | _ => none }
def FnExactCrossAngleWrongFalsely : Prop := fnExactCrossAngleRow.holds Tryz.pinned (OpenSpec.ofChange fnExactCrossAngleWrong)

/-- 'laws.FnExactAxesAt': WHATEVER THE INPUT: true; the input reads as it did. -/
def fnExactAxesAtSpec : ChangeSpec := { name := "fnExactAxesAt", fn := fun _ => fun
  | [d1, d2] => { results := [.lit (.bool true)], args := [d1, d2] }
  | _ => none }
def fnExactAxesAtRow : OpenClaim := { program := "ytfmhbmehidlhiaagreat", sum := "3b8b43287e01f58fe9fc58ae3d0d8a8121145f84134da4e86fae87d9bb60224a", func := "loop.example/g01341/laws.FnExactAxesAt", spec := "fnExactAxesAt", inPlace := ["math.archFloor", "math.Float64bits", "math.Float64frombits", "math.archTrunc", "math.sqrt", "math.Float32frombits"], unfollowed := true, recurses := true, apart := false }
def FnExactAxesAtSaid : Prop := fnExactAxesAtRow.holds Tryz.pinned (OpenSpec.ofChange fnExactAxesAtSpec)

/-- ITS FALSE NEIGHBOUR: 'it returns false'. Refute it at one input. -/
def fnExactAxesAtWrong : ChangeSpec := { name := "fnExactAxesAt", fn := fun _ => fun
  | [d1, d2] => { results := [.lit (.bool false)], args := [d1, d2] }
  | _ => none }
def FnExactAxesAtWrongFalsely : Prop := fnExactAxesAtRow.holds Tryz.pinned (OpenSpec.ofChange fnExactAxesAtWrong)

/-- 'laws.FnExactPointsOf': WHATEVER THE INPUT: true; the input reads as it did. -/
def fnExactPointsOfSpec : ChangeSpec := { name := "fnExactPointsOf", fn := fun _ => fun
  | [d1, d2] => { results := [.lit (.bool true)], args := [d1, d2] }
  | _ => none }
def fnExactPointsOfRow : OpenClaim := { program := "ytfmhbmehidlhiaagreat", sum := "3b8b43287e01f58fe9fc58ae3d0d8a8121145f84134da4e86fae87d9bb60224a", func := "loop.example/g01341/laws.FnExactPointsOf", spec := "fnExactPointsOf", inPlace := ["math.archFloor", "math.Float64bits", "math.Float64frombits", "math.archTrunc", "math.sqrt", "math.Float32frombits"], unfollowed := true, recurses := true, apart := false }
def FnExactPointsOfSaid : Prop := fnExactPointsOfRow.holds Tryz.pinned (OpenSpec.ofChange fnExactPointsOfSpec)

/-- ITS FALSE NEIGHBOUR: 'it returns false'. Refute it at one input. -/
def fnExactPointsOfWrong : ChangeSpec := { name := "fnExactPointsOf", fn := fun _ => fun
  | [d1, d2] => { results := [.lit (.bool false)], args := [d1, d2] }
  | _ => none }
def FnExactPointsOfWrongFalsely : Prop := fnExactPointsOfRow.holds Tryz.pinned (OpenSpec.ofChange fnExactPointsOfWrong)

/- THE SECOND FORM. 'bulk': how many values and letters a reading holds, each counted each time it is reached (what is shared counts as often as it is met; a slice's spare places count too). A statement '..UptoSaid' is the law's where the arguments, and the package variables that the reading takes, are together of bulk at most 1048576: NARROWER than '..Said'. Prove '..Said' where nothing that the law and all that it calls make is longer than what came in: it says more and counts as full. Else prove '..UptoSaid'. A law counts once. -/
mutual
def uptoBulk {H : Type} : DataW H → Nat
  | .lit (.string bytes) => bytes.length + 1
  | .lit _ => 1
  | .nil => 1
  | .ptr d => uptoBulk d + 1
  | .slice elems spare => uptoBulkAll elems + uptoBulkAll spare + 1
  | .agg parts => uptoBulkAll parts + 1
  | .iface _ d => uptoBulk d + 1
  | .map entries => uptoBulkEntries entries + 1
  | .held _ => 1
def uptoBulkAll {H : Type} : List (DataW H) → Nat
  | [] => 0
  | d :: r => uptoBulk d + uptoBulkAll r
def uptoBulkEntries {H : Type} : List (Lit × DataW H) → Nat
  | [] => 0
  | x :: r => uptoBulkEntry x + uptoBulkEntries r
def uptoBulkEntry {H : Type} : Lit × DataW H → Nat
  | (.string bytes, d) => bytes.length + uptoBulk d + 1
  | (_, d) => uptoBulk d + 1
 end
def uptoSmall : (H : Type) → List (DataW H) → Bool := fun _ ds => decide (uptoBulkAll ds ≤ 1048576)
def OpenSpec.upto (s : _root_.Go.ChangeSpec) : _root_.Go.OpenSpec := { _root_.Go.OpenSpec.ofChange s with cond := some uptoSmall }

/-- 'laws.FnExactLongRatio', WHERE WHAT IT READS IS OF BULK AT MOST 1048576: true; the input reads as it did. -/
def fnExactLongRatioUptoRow : OpenClaim := { program := "ytfmhbmehidlhiaagreat", sum := "3b8b43287e01f58fe9fc58ae3d0d8a8121145f84134da4e86fae87d9bb60224a", func := "loop.example/g01341/laws.FnExactLongRatio", spec := "fnExactLongRatio", inPlace := ["math.archFloor", "math.Float64bits", "math.Float64frombits", "math.archTrunc", "math.sqrt", "math.Float32frombits"], unfollowed := true, recurses := true, apart := false, narrowed := true }
def FnExactLongRatioUptoSaid : Prop := fnExactLongRatioUptoRow.holds Tryz.pinned (OpenSpec.upto fnExactLongRatioSpec)

/-- 'laws.FnExactNorthLine', WHERE WHAT IT READS IS OF BULK AT MOST 1048576: true; the input reads as it did. -/
def fnExactNorthLineUptoRow : OpenClaim := { program := "ytfmhbmehidlhiaagreat", sum := "3b8b43287e01f58fe9fc58ae3d0d8a8121145f84134da4e86fae87d9bb60224a", func := "loop.example/g01341/laws.FnExactNorthLine", spec := "fnExactNorthLine", inPlace := ["math.archFloor", "math.Float64bits", "math.Float64frombits", "math.archTrunc", "math.sqrt", "math.Float32frombits"], unfollowed := true, recurses := true, apart := false, narrowed := true }
def FnExactNorthLineUptoSaid : Prop := fnExactNorthLineUptoRow.holds Tryz.pinned (OpenSpec.upto fnExactNorthLineSpec)

/-- 'laws.FnExactEastLine', WHERE WHAT IT READS IS OF BULK AT MOST 1048576: true; the input reads as it did. -/
def fnExactEastLineUptoRow : OpenClaim := { program := "ytfmhbmehidlhiaagreat", sum := "3b8b43287e01f58fe9fc58ae3d0d8a8121145f84134da4e86fae87d9bb60224a", func := "loop.example/g01341/laws.FnExactEastLine", spec := "fnExactEastLine", inPlace := ["math.archFloor", "math.Float64bits", "math.Float64frombits", "math.archTrunc", "math.sqrt", "math.Float32frombits"], unfollowed := true, recurses := true, apart := false, narrowed := true }
def FnExactEastLineUptoSaid : Prop := fnExactEastLineUptoRow.holds Tryz.pinned (OpenSpec.upto fnExactEastLineSpec)

/-- 'laws.FnExactCrossAngle', WHERE WHAT IT READS IS OF BULK AT MOST 1048576: true; the input reads as it did. -/
def fnExactCrossAngleUptoRow : OpenClaim := { program := "ytfmhbmehidlhiaagreat", sum := "3b8b43287e01f58fe9fc58ae3d0d8a8121145f84134da4e86fae87d9bb60224a", func := "loop.example/g01341/laws.FnExactCrossAngle", spec := "fnExactCrossAngle", inPlace := ["math.archFloor", "math.Float64bits", "math.Float64frombits", "math.archTrunc", "math.sqrt", "math.Float32frombits"], unfollowed := true, recurses := true, apart := false, narrowed := true }
def FnExactCrossAngleUptoSaid : Prop := fnExactCrossAngleUptoRow.holds Tryz.pinned (OpenSpec.upto fnExactCrossAngleSpec)

/-- 'laws.FnExactAxesAt', WHERE WHAT IT READS IS OF BULK AT MOST 1048576: true; the input reads as it did. -/
def fnExactAxesAtUptoRow : OpenClaim := { program := "ytfmhbmehidlhiaagreat", sum := "3b8b43287e01f58fe9fc58ae3d0d8a8121145f84134da4e86fae87d9bb60224a", func := "loop.example/g01341/laws.FnExactAxesAt", spec := "fnExactAxesAt", inPlace := ["math.archFloor", "math.Float64bits", "math.Float64frombits", "math.archTrunc", "math.sqrt", "math.Float32frombits"], unfollowed := true, recurses := true, apart := false, narrowed := true }
def FnExactAxesAtUptoSaid : Prop := fnExactAxesAtUptoRow.holds Tryz.pinned (OpenSpec.upto fnExactAxesAtSpec)

/-- 'laws.FnExactPointsOf', WHERE WHAT IT READS IS OF BULK AT MOST 1048576: true; the input reads as it did. -/
def fnExactPointsOfUptoRow : OpenClaim := { program := "ytfmhbmehidlhiaagreat", sum := "3b8b43287e01f58fe9fc58ae3d0d8a8121145f84134da4e86fae87d9bb60224a", func := "loop.example/g01341/laws.FnExactPointsOf", spec := "fnExactPointsOf", inPlace := ["math.archFloor", "math.Float64bits", "math.Float64frombits", "math.archTrunc", "math.sqrt", "math.Float32frombits"], unfollowed := true, recurses := true, apart := false, narrowed := true }
def FnExactPointsOfUptoSaid : Prop := fnExactPointsOfUptoRow.holds Tryz.pinned (OpenSpec.upto fnExactPointsOfSpec)

end Rows
end Go.Proofs.YtfmhbmehidlhiaaGreat
