/-
  No cell of these rows narrows 'for every input' (looked for: loops, veiled, ifaces, maps, wideKeys, modest, calm, conditions, laid).
  DERIVED. THE GIVEN ROWS OF THIS SEAT. 5 by the template 'for every input the law returns true; each argument reads behind the call as it read before'; 0 by the template 'total and deterministic' (their statements: YtenekhckmglobaaGreatTotals.lean).
  GIVEN WITH THE SEED: the statements are not yours to turn. If you find one false, say at which input.
  Laid BY PROGRAM, IN A SANDBOX (cutbox-rows.mjs): the forced cells as the released guide's own fill.sh prints them over the translation 9df04c9931b6514a… (all of the seat's roots in one cut). By AI agents, Wed Nov 11 2026. No macro, syntax, notation, axiom, sorry.
-/
import Derived.Test.YtenekhckmglobaaGreatChecked
import GoSem.Claim
import GoSem.ClaimJoined
import GoSem.ClaimMapViews
import Derived.JoinedTies
import Derived.KernelRfl
namespace Go.Proofs.YtenekhckmglobaaGreat
/- THE CELL 'sum', in the pinned program and in every row, IS THE sha256 OF THE DUMP (.gsa) THAT YtenekhckmglobaaGreatProg.lean LOADS. Nothing in Lean hashes anything: it is a label: what it is worth is what the hold of that sum in a sandbox is worth. -/
noncomputable def Tryz.pinned : Pinned := { name := "ytenekhckmglobaagreat", sum := "9df04c9931b6514a1acfc536dc5a90a400c014ac50f071316672715c22832319", checked := Tryz.checked }
namespace Rows
def none {H : Type} : Left H := { results := [], args := [] }

/-- 'laws.FnExactPointOf': WHATEVER THE INPUT: true; the input reads as it did. -/
def fnExactPointOfSpec : ChangeSpec := { name := "fnExactPointOf", fn := fun _ => fun
  | [d1, d2] => { results := [.lit (.bool true)], args := [d1, d2] }
  | _ => none }
def fnExactPointOfRow : OpenClaim := { program := "ytenekhckmglobaagreat", sum := "9df04c9931b6514a1acfc536dc5a90a400c014ac50f071316672715c22832319", func := "loop.example/g01341/laws.FnExactPointOf", spec := "fnExactPointOf", inPlace := ["math.archFloor", "math.Float64bits", "math.Float64frombits", "math.archTrunc", "math.sqrt", "math.Float32frombits"], unfollowed := true, recurses := true, apart := false }
def FnExactPointOfSaid : Prop := fnExactPointOfRow.holds Tryz.pinned (OpenSpec.ofChange fnExactPointOfSpec)

/-- ITS FALSE NEIGHBOUR: 'it returns false'. Refute it at one input. -/
def fnExactPointOfWrong : ChangeSpec := { name := "fnExactPointOf", fn := fun _ => fun
  | [d1, d2] => { results := [.lit (.bool false)], args := [d1, d2] }
  | _ => none }
def FnExactPointOfWrongFalsely : Prop := fnExactPointOfRow.holds Tryz.pinned (OpenSpec.ofChange fnExactPointOfWrong)

/-- 'laws.FnExactCrossAngle': WHATEVER THE INPUT: true; the input reads as it did. -/
def fnExactCrossAngleSpec : ChangeSpec := { name := "fnExactCrossAngle", fn := fun _ => fun
  | [d1, d2] => { results := [.lit (.bool true)], args := [d1, d2] }
  | _ => none }
def fnExactCrossAngleRow : OpenClaim := { program := "ytenekhckmglobaagreat", sum := "9df04c9931b6514a1acfc536dc5a90a400c014ac50f071316672715c22832319", func := "loop.example/g01341/laws.FnExactCrossAngle", spec := "fnExactCrossAngle", inPlace := ["math.archFloor", "math.Float64bits", "math.Float64frombits", "math.archTrunc", "math.sqrt", "math.Float32frombits"], unfollowed := true, recurses := true, apart := false }
def FnExactCrossAngleSaid : Prop := fnExactCrossAngleRow.holds Tryz.pinned (OpenSpec.ofChange fnExactCrossAngleSpec)

/-- ITS FALSE NEIGHBOUR: 'it returns false'. Refute it at one input. -/
def fnExactCrossAngleWrong : ChangeSpec := { name := "fnExactCrossAngle", fn := fun _ => fun
  | [d1, d2] => { results := [.lit (.bool false)], args := [d1, d2] }
  | _ => none }
def FnExactCrossAngleWrongFalsely : Prop := fnExactCrossAngleRow.holds Tryz.pinned (OpenSpec.ofChange fnExactCrossAngleWrong)

/-- 'laws.FnExactAreaScale': WHATEVER THE INPUT: true; the input reads as it did. -/
def fnExactAreaScaleSpec : ChangeSpec := { name := "fnExactAreaScale", fn := fun _ => fun
  | [d1, d2] => { results := [.lit (.bool true)], args := [d1, d2] }
  | _ => none }
def fnExactAreaScaleRow : OpenClaim := { program := "ytenekhckmglobaagreat", sum := "9df04c9931b6514a1acfc536dc5a90a400c014ac50f071316672715c22832319", func := "loop.example/g01341/laws.FnExactAreaScale", spec := "fnExactAreaScale", inPlace := ["math.archFloor", "math.Float64bits", "math.Float64frombits", "math.archTrunc", "math.sqrt", "math.Float32frombits"], unfollowed := true, recurses := true, apart := false }
def FnExactAreaScaleSaid : Prop := fnExactAreaScaleRow.holds Tryz.pinned (OpenSpec.ofChange fnExactAreaScaleSpec)

/-- ITS FALSE NEIGHBOUR: 'it returns false'. Refute it at one input. -/
def fnExactAreaScaleWrong : ChangeSpec := { name := "fnExactAreaScale", fn := fun _ => fun
  | [d1, d2] => { results := [.lit (.bool false)], args := [d1, d2] }
  | _ => none }
def FnExactAreaScaleWrongFalsely : Prop := fnExactAreaScaleRow.holds Tryz.pinned (OpenSpec.ofChange fnExactAreaScaleWrong)

/-- 'laws.FnExactLongRatio': WHATEVER THE INPUT: true; the input reads as it did. -/
def fnExactLongRatioSpec : ChangeSpec := { name := "fnExactLongRatio", fn := fun _ => fun
  | [d1, d2, d3] => { results := [.lit (.bool true)], args := [d1, d2, d3] }
  | _ => none }
def fnExactLongRatioRow : OpenClaim := { program := "ytenekhckmglobaagreat", sum := "9df04c9931b6514a1acfc536dc5a90a400c014ac50f071316672715c22832319", func := "loop.example/g01341/laws.FnExactLongRatio", spec := "fnExactLongRatio", inPlace := ["math.archFloor", "math.Float64bits", "math.Float64frombits", "math.archTrunc", "math.sqrt", "math.Float32frombits"], unfollowed := true, recurses := true, apart := false }
def FnExactLongRatioSaid : Prop := fnExactLongRatioRow.holds Tryz.pinned (OpenSpec.ofChange fnExactLongRatioSpec)

/-- ITS FALSE NEIGHBOUR: 'it returns false'. Refute it at one input. -/
def fnExactLongRatioWrong : ChangeSpec := { name := "fnExactLongRatio", fn := fun _ => fun
  | [d1, d2, d3] => { results := [.lit (.bool false)], args := [d1, d2, d3] }
  | _ => none }
def FnExactLongRatioWrongFalsely : Prop := fnExactLongRatioRow.holds Tryz.pinned (OpenSpec.ofChange fnExactLongRatioWrong)

/-- 'laws.FnExactMixPoint': WHATEVER THE INPUT: true; the input reads as it did. -/
def fnExactMixPointSpec : ChangeSpec := { name := "fnExactMixPoint", fn := fun _ => fun
  | [d1, d2, d3, d4] => { results := [.lit (.bool true)], args := [d1, d2, d3, d4] }
  | _ => none }
def fnExactMixPointRow : OpenClaim := { program := "ytenekhckmglobaagreat", sum := "9df04c9931b6514a1acfc536dc5a90a400c014ac50f071316672715c22832319", func := "loop.example/g01341/laws.FnExactMixPoint", spec := "fnExactMixPoint", inPlace := ["math.archFloor", "math.Float64bits", "math.Float64frombits", "math.archTrunc", "math.sqrt", "math.Float32frombits"], unfollowed := true, recurses := true, apart := false }
def FnExactMixPointSaid : Prop := fnExactMixPointRow.holds Tryz.pinned (OpenSpec.ofChange fnExactMixPointSpec)

/-- ITS FALSE NEIGHBOUR: 'it returns false'. Refute it at one input. -/
def fnExactMixPointWrong : ChangeSpec := { name := "fnExactMixPoint", fn := fun _ => fun
  | [d1, d2, d3, d4] => { results := [.lit (.bool false)], args := [d1, d2, d3, d4] }
  | _ => none }
def FnExactMixPointWrongFalsely : Prop := fnExactMixPointRow.holds Tryz.pinned (OpenSpec.ofChange fnExactMixPointWrong)

/- THE SECOND FORM. 'bulk': how many values and letters a reading holds, each counted each time it is reached (what is shared counts as often as it is met; a slice's spare places count too). A statement '..UptoSaid' is the law's where the arguments, and the package variables that the reading takes, are together of bulk at most 1048576: NARROWER than '..Said'. Prove '..Said' where nothing that the law and all that it calls make is longer than what came in: it says more and counts as full. Else prove '..UptoSaid'. A law counts once. -/
mutual
def uptoBulk {H : Type} : DataW H → Nat
  | .lit (.string bytes) => bytes.length + 1
  | .lit _ => 1
  | .nil => 1
  | .ptr d => uptoBulk d + 1
  | .slice elems spare => uptoBulkAll elems + uptoBulkAll spare + 1
  | .agg parts => uptoBulkAll parts + 1
  | .iface _ d => uptoBulk d + 1
  | .map entries => uptoBulkEntries entries + 1
  | .held _ => 1
def uptoBulkAll {H : Type} : List (DataW H) → Nat
  | [] => 0
  | d :: r => uptoBulk d + uptoBulkAll r
def uptoBulkEntries {H : Type} : List (Lit × DataW H) → Nat
  | [] => 0
  | x :: r => uptoBulkEntry x + uptoBulkEntries r
def uptoBulkEntry {H : Type} : Lit × DataW H → Nat
  | (.string bytes, d) => bytes.length + uptoBulk d + 1
  | (_, d) => uptoBulk d + 1
 end
def uptoSmall : (H : Type) → List (DataW H) → Bool := fun _ ds => decide (uptoBulkAll ds ≤ 1048576)
def OpenSpec.upto (s : _root_.Go.ChangeSpec) : _root_.Go.OpenSpec := { _root_.Go.OpenSpec.ofChange s with cond := some uptoSmall }

/-- 'laws.FnExactPointOf', WHERE WHAT IT READS IS OF BULK AT MOST 1048576: true; the input reads as it did. -/
def fnExactPointOfUptoRow : OpenClaim := { program := "ytenekhckmglobaagreat", sum := "9df04c9931b6514a1acfc536dc5a90a400c014ac50f071316672715c22832319", func := "loop.example/g01341/laws.FnExactPointOf", spec := "fnExactPointOf", inPlace := ["math.archFloor", "math.Float64bits", "math.Float64frombits", "math.archTrunc", "math.sqrt", "math.Float32frombits"], unfollowed := true, recurses := true, apart := false, narrowed := true }
def FnExactPointOfUptoSaid : Prop := fnExactPointOfUptoRow.holds Tryz.pinned (OpenSpec.upto fnExactPointOfSpec)

/-- 'laws.FnExactCrossAngle', WHERE WHAT IT READS IS OF BULK AT MOST 1048576: true; the input reads as it did. -/
def fnExactCrossAngleUptoRow : OpenClaim := { program := "ytenekhckmglobaagreat", sum := "9df04c9931b6514a1acfc536dc5a90a400c014ac50f071316672715c22832319", func := "loop.example/g01341/laws.FnExactCrossAngle", spec := "fnExactCrossAngle", inPlace := ["math.archFloor", "math.Float64bits", "math.Float64frombits", "math.archTrunc", "math.sqrt", "math.Float32frombits"], unfollowed := true, recurses := true, apart := false, narrowed := true }
def FnExactCrossAngleUptoSaid : Prop := fnExactCrossAngleUptoRow.holds Tryz.pinned (OpenSpec.upto fnExactCrossAngleSpec)

/-- 'laws.FnExactAreaScale', WHERE WHAT IT READS IS OF BULK AT MOST 1048576: true; the input reads as it did. -/
def fnExactAreaScaleUptoRow : OpenClaim := { program := "ytenekhckmglobaagreat", sum := "9df04c9931b6514a1acfc536dc5a90a400c014ac50f071316672715c22832319", func := "loop.example/g01341/laws.FnExactAreaScale", spec := "fnExactAreaScale", inPlace := ["math.archFloor", "math.Float64bits", "math.Float64frombits", "math.archTrunc", "math.sqrt", "math.Float32frombits"], unfollowed := true, recurses := true, apart := false, narrowed := true }
def FnExactAreaScaleUptoSaid : Prop := fnExactAreaScaleUptoRow.holds Tryz.pinned (OpenSpec.upto fnExactAreaScaleSpec)

/-- 'laws.FnExactLongRatio', WHERE WHAT IT READS IS OF BULK AT MOST 1048576: true; the input reads as it did. -/
def fnExactLongRatioUptoRow : OpenClaim := { program := "ytenekhckmglobaagreat", sum := "9df04c9931b6514a1acfc536dc5a90a400c014ac50f071316672715c22832319", func := "loop.example/g01341/laws.FnExactLongRatio", spec := "fnExactLongRatio", inPlace := ["math.archFloor", "math.Float64bits", "math.Float64frombits", "math.archTrunc", "math.sqrt", "math.Float32frombits"], unfollowed := true, recurses := true, apart := false, narrowed := true }
def FnExactLongRatioUptoSaid : Prop := fnExactLongRatioUptoRow.holds Tryz.pinned (OpenSpec.upto fnExactLongRatioSpec)

/-- 'laws.FnExactMixPoint', WHERE WHAT IT READS IS OF BULK AT MOST 1048576: true; the input reads as it did. -/
def fnExactMixPointUptoRow : OpenClaim := { program := "ytenekhckmglobaagreat", sum := "9df04c9931b6514a1acfc536dc5a90a400c014ac50f071316672715c22832319", func := "loop.example/g01341/laws.FnExactMixPoint", spec := "fnExactMixPoint", inPlace := ["math.archFloor", "math.Float64bits", "math.Float64frombits", "math.archTrunc", "math.sqrt", "math.Float32frombits"], unfollowed := true, recurses := true, apart := false, narrowed := true }
def FnExactMixPointUptoSaid : Prop := fnExactMixPointUptoRow.holds Tryz.pinned (OpenSpec.upto fnExactMixPointSpec)

end Rows
end Go.Proofs.YtenekhckmglobaaGreat
