/-
  No cell of these rows narrows 'for every input' (looked for: loops, veiled, ifaces, maps, wideKeys, modest, calm, conditions, laid).
  DERIVED. THE GIVEN ROWS OF THIS SEAT. 6 by the template 'for every input the law returns true; each argument reads behind the call as it read before'; 0 by the template 'total and deterministic' (their statements: YtconlpgifkknmaaTotals.lean).
  GIVEN WITH THE SEED: the statements are not yours to turn. If you find one false, say at which input.
  Laid BY PROGRAM, IN A SANDBOX (cutbox-rows.mjs): the forced cells as the released guide's own fill.sh prints them over the translation 43bbdf1987b4e9dc… (all of the seat's roots in one cut). By AI agents, Wed Nov 11 2026. No macro, syntax, notation, axiom, sorry.
-/
import Derived.Test.YtconlpgifkknmaaChecked
import GoSem.Claim
import GoSem.ClaimJoined
import GoSem.ClaimMapViews
import Derived.JoinedTies
import Derived.KernelRfl
namespace Go.Proofs.Ytconlpgifkknmaa
/- THE CELL 'sum', in the pinned program and in every row, IS THE sha256 OF THE DUMP (.gsa) THAT YtconlpgifkknmaaProg.lean LOADS. Nothing in Lean hashes anything: it is a label: what it is worth is what the hold of that sum in a sandbox is worth. -/
noncomputable def Try.pinned : Pinned := { name := "ytconlpgifkknmaa", sum := "43bbdf1987b4e9dcaa020e7807f18dc1824f163c2e0880f4ad3202e6f7359a69", checked := Try.checked }
namespace Rows
def none {H : Type} : Left H := { results := [], args := [] }

/-- 'laws.FnWalks': WHATEVER THE INPUT: true; the input reads as it did. -/
def fnWalksSpec : ChangeSpec := { name := "fnWalks", fn := fun _ => fun
  | [d1, d2] => { results := [.lit (.bool true)], args := [d1, d2] }
  | _ => none }
def fnWalksRow : OpenClaim := { program := "ytconlpgifkknmaa", sum := "43bbdf1987b4e9dcaa020e7807f18dc1824f163c2e0880f4ad3202e6f7359a69", func := "loop.example/g01341/laws.FnWalks", spec := "fnWalks", inPlace := ["math.Float64bits", "math.Float64frombits", "math.sqrt"], unfollowed := true, recurses := true, apart := false }
def FnWalksSaid : Prop := fnWalksRow.holds Try.pinned (OpenSpec.ofChange fnWalksSpec)

/-- ITS FALSE NEIGHBOUR: 'it returns false'. Refute it at one input. -/
def fnWalksWrong : ChangeSpec := { name := "fnWalks", fn := fun _ => fun
  | [d1, d2] => { results := [.lit (.bool false)], args := [d1, d2] }
  | _ => none }
def FnWalksWrongFalsely : Prop := fnWalksRow.holds Try.pinned (OpenSpec.ofChange fnWalksWrong)

/-- 'laws.FnMeetLines': WHATEVER THE INPUT: true; the input reads as it did. -/
def fnMeetLinesSpec : ChangeSpec := { name := "fnMeetLines", fn := fun _ => fun
  | [d1, d2] => { results := [.lit (.bool true)], args := [d1, d2] }
  | _ => none }
def fnMeetLinesRow : OpenClaim := { program := "ytconlpgifkknmaa", sum := "43bbdf1987b4e9dcaa020e7807f18dc1824f163c2e0880f4ad3202e6f7359a69", func := "loop.example/g01341/laws.FnMeetLines", spec := "fnMeetLines", inPlace := ["math.Float32frombits", "math.Float64frombits", "math.Float64bits", "math.sqrt"], unfollowed := true, recurses := true, apart := false }
def FnMeetLinesSaid : Prop := fnMeetLinesRow.holds Try.pinned (OpenSpec.ofChange fnMeetLinesSpec)

/-- ITS FALSE NEIGHBOUR: 'it returns false'. Refute it at one input. -/
def fnMeetLinesWrong : ChangeSpec := { name := "fnMeetLines", fn := fun _ => fun
  | [d1, d2] => { results := [.lit (.bool false)], args := [d1, d2] }
  | _ => none }
def FnMeetLinesWrongFalsely : Prop := fnMeetLinesRow.holds Try.pinned (OpenSpec.ofChange fnMeetLinesWrong)

/-- 'laws.FnRises': WHATEVER THE INPUT: true; the input reads as it did. -/
def fnRisesSpec : ChangeSpec := { name := "fnRises", fn := fun _ => fun
  | [d1, d2] => { results := [.lit (.bool true)], args := [d1, d2] }
  | _ => none }
def fnRisesRow : OpenClaim := { program := "ytconlpgifkknmaa", sum := "43bbdf1987b4e9dcaa020e7807f18dc1824f163c2e0880f4ad3202e6f7359a69", func := "loop.example/g01341/laws.FnRises", spec := "fnRises", inPlace := ["math.Float64bits", "math.Float64frombits", "math.sqrt"], unfollowed := true, recurses := true, apart := false }
def FnRisesSaid : Prop := fnRisesRow.holds Try.pinned (OpenSpec.ofChange fnRisesSpec)

/-- ITS FALSE NEIGHBOUR: 'it returns false'. Refute it at one input. -/
def fnRisesWrong : ChangeSpec := { name := "fnRises", fn := fun _ => fun
  | [d1, d2] => { results := [.lit (.bool false)], args := [d1, d2] }
  | _ => none }
def FnRisesWrongFalsely : Prop := fnRisesRow.holds Try.pinned (OpenSpec.ofChange fnRisesWrong)

/-- 'laws.FnFrames': WHATEVER THE INPUT: true; the input reads as it did. -/
def fnFramesSpec : ChangeSpec := { name := "fnFrames", fn := fun _ => fun
  | [d1, d2] => { results := [.lit (.bool true)], args := [d1, d2] }
  | _ => none }
def fnFramesRow : OpenClaim := { program := "ytconlpgifkknmaa", sum := "43bbdf1987b4e9dcaa020e7807f18dc1824f163c2e0880f4ad3202e6f7359a69", func := "loop.example/g01341/laws.FnFrames", spec := "fnFrames", inPlace := ["math.Float64bits", "math.Float64frombits", "math.sqrt"], unfollowed := true, recurses := true, apart := false }
def FnFramesSaid : Prop := fnFramesRow.holds Try.pinned (OpenSpec.ofChange fnFramesSpec)

/-- ITS FALSE NEIGHBOUR: 'it returns false'. Refute it at one input. -/
def fnFramesWrong : ChangeSpec := { name := "fnFrames", fn := fun _ => fun
  | [d1, d2] => { results := [.lit (.bool false)], args := [d1, d2] }
  | _ => none }
def FnFramesWrongFalsely : Prop := fnFramesRow.holds Try.pinned (OpenSpec.ofChange fnFramesWrong)

/-- 'laws.FnPlots': WHATEVER THE INPUT: true; the input reads as it did. -/
def fnPlotsSpec : ChangeSpec := { name := "fnPlots", fn := fun _ => fun
  | [d1, d2] => { results := [.lit (.bool true)], args := [d1, d2] }
  | _ => none }
def fnPlotsRow : OpenClaim := { program := "ytconlpgifkknmaa", sum := "43bbdf1987b4e9dcaa020e7807f18dc1824f163c2e0880f4ad3202e6f7359a69", func := "loop.example/g01341/laws.FnPlots", spec := "fnPlots", inPlace := ["math.Float32frombits", "math.Float64frombits", "math.Float64bits", "math.sqrt"], unfollowed := true, recurses := true, apart := false }
def FnPlotsSaid : Prop := fnPlotsRow.holds Try.pinned (OpenSpec.ofChange fnPlotsSpec)

/-- ITS FALSE NEIGHBOUR: 'it returns false'. Refute it at one input. -/
def fnPlotsWrong : ChangeSpec := { name := "fnPlots", fn := fun _ => fun
  | [d1, d2] => { results := [.lit (.bool false)], args := [d1, d2] }
  | _ => none }
def FnPlotsWrongFalsely : Prop := fnPlotsRow.holds Try.pinned (OpenSpec.ofChange fnPlotsWrong)

/-- 'laws.FnExactAreLegs': WHATEVER THE INPUT: true; the input reads as it did. -/
def fnExactAreLegsSpec : ChangeSpec := { name := "fnExactAreLegs", fn := fun _ => fun
  | [d] => { results := [.lit (.bool true)], args := [d] }
  | _ => none }
def fnExactAreLegsRow : OpenClaim := { program := "ytconlpgifkknmaa", sum := "43bbdf1987b4e9dcaa020e7807f18dc1824f163c2e0880f4ad3202e6f7359a69", func := "loop.example/g01341/laws.FnExactAreLegs", spec := "fnExactAreLegs", inPlace := ["math.Float64bits", "math.Float64frombits"], unfollowed := true, recurses := true, apart := false }
def FnExactAreLegsSaid : Prop := fnExactAreLegsRow.holds Try.pinned (OpenSpec.ofChange fnExactAreLegsSpec)

/-- ITS FALSE NEIGHBOUR: 'it returns false'. Refute it at one input. -/
def fnExactAreLegsWrong : ChangeSpec := { name := "fnExactAreLegs", fn := fun _ => fun
  | [d] => { results := [.lit (.bool false)], args := [d] }
  | _ => none }
def FnExactAreLegsWrongFalsely : Prop := fnExactAreLegsRow.holds Try.pinned (OpenSpec.ofChange fnExactAreLegsWrong)

/- THE SECOND FORM. 'bulk': how many values and letters a reading holds, each counted each time it is reached (what is shared counts as often as it is met; a slice's spare places count too). A statement '..UptoSaid' is the law's where the arguments, and the package variables that the reading takes, are together of bulk at most 1048576: NARROWER than '..Said'. Prove '..Said' where nothing that the law and all that it calls make is longer than what came in: it says more and counts as full. Else prove '..UptoSaid'. A law counts once. -/
mutual
def uptoBulk {H : Type} : DataW H → Nat
  | .lit (.string bytes) => bytes.length + 1
  | .lit _ => 1
  | .nil => 1
  | .ptr d => uptoBulk d + 1
  | .slice elems spare => uptoBulkAll elems + uptoBulkAll spare + 1
  | .agg parts => uptoBulkAll parts + 1
  | .iface _ d => uptoBulk d + 1
  | .map entries => uptoBulkEntries entries + 1
  | .held _ => 1
def uptoBulkAll {H : Type} : List (DataW H) → Nat
  | [] => 0
  | d :: r => uptoBulk d + uptoBulkAll r
def uptoBulkEntries {H : Type} : List (Lit × DataW H) → Nat
  | [] => 0
  | x :: r => uptoBulkEntry x + uptoBulkEntries r
def uptoBulkEntry {H : Type} : Lit × DataW H → Nat
  | (.string bytes, d) => bytes.length + uptoBulk d + 1
  | (_, d) => uptoBulk d + 1
 end
def uptoSmall : (H : Type) → List (DataW H) → Bool := fun _ ds => decide (uptoBulkAll ds ≤ 1048576)
def OpenSpec.upto (s : _root_.Go.ChangeSpec) : _root_.Go.OpenSpec := { _root_.Go.OpenSpec.ofChange s with cond := some uptoSmall }

/-- 'laws.FnWalks', WHERE WHAT IT READS IS OF BULK AT MOST 1048576: true; the input reads as it did. -/
def fnWalksUptoRow : OpenClaim := { program := "ytconlpgifkknmaa", sum := "43bbdf1987b4e9dcaa020e7807f18dc1824f163c2e0880f4ad3202e6f7359a69", func := "loop.example/g01341/laws.FnWalks", spec := "fnWalks", inPlace := ["math.Float64bits", "math.Float64frombits", "math.sqrt"], unfollowed := true, recurses := true, apart := false, narrowed := true }
def FnWalksUptoSaid : Prop := fnWalksUptoRow.holds Try.pinned (OpenSpec.upto fnWalksSpec)

/-- 'laws.FnMeetLines', WHERE WHAT IT READS IS OF BULK AT MOST 1048576: true; the input reads as it did. -/
def fnMeetLinesUptoRow : OpenClaim := { program := "ytconlpgifkknmaa", sum := "43bbdf1987b4e9dcaa020e7807f18dc1824f163c2e0880f4ad3202e6f7359a69", func := "loop.example/g01341/laws.FnMeetLines", spec := "fnMeetLines", inPlace := ["math.Float32frombits", "math.Float64frombits", "math.Float64bits", "math.sqrt"], unfollowed := true, recurses := true, apart := false, narrowed := true }
def FnMeetLinesUptoSaid : Prop := fnMeetLinesUptoRow.holds Try.pinned (OpenSpec.upto fnMeetLinesSpec)

/-- 'laws.FnRises', WHERE WHAT IT READS IS OF BULK AT MOST 1048576: true; the input reads as it did. -/
def fnRisesUptoRow : OpenClaim := { program := "ytconlpgifkknmaa", sum := "43bbdf1987b4e9dcaa020e7807f18dc1824f163c2e0880f4ad3202e6f7359a69", func := "loop.example/g01341/laws.FnRises", spec := "fnRises", inPlace := ["math.Float64bits", "math.Float64frombits", "math.sqrt"], unfollowed := true, recurses := true, apart := false, narrowed := true }
def FnRisesUptoSaid : Prop := fnRisesUptoRow.holds Try.pinned (OpenSpec.upto fnRisesSpec)

/-- 'laws.FnFrames', WHERE WHAT IT READS IS OF BULK AT MOST 1048576: true; the input reads as it did. -/
def fnFramesUptoRow : OpenClaim := { program := "ytconlpgifkknmaa", sum := "43bbdf1987b4e9dcaa020e7807f18dc1824f163c2e0880f4ad3202e6f7359a69", func := "loop.example/g01341/laws.FnFrames", spec := "fnFrames", inPlace := ["math.Float64bits", "math.Float64frombits", "math.sqrt"], unfollowed := true, recurses := true, apart := false, narrowed := true }
def FnFramesUptoSaid : Prop := fnFramesUptoRow.holds Try.pinned (OpenSpec.upto fnFramesSpec)

/-- 'laws.FnPlots', WHERE WHAT IT READS IS OF BULK AT MOST 1048576: true; the input reads as it did. -/
def fnPlotsUptoRow : OpenClaim := { program := "ytconlpgifkknmaa", sum := "43bbdf1987b4e9dcaa020e7807f18dc1824f163c2e0880f4ad3202e6f7359a69", func := "loop.example/g01341/laws.FnPlots", spec := "fnPlots", inPlace := ["math.Float32frombits", "math.Float64frombits", "math.Float64bits", "math.sqrt"], unfollowed := true, recurses := true, apart := false, narrowed := true }
def FnPlotsUptoSaid : Prop := fnPlotsUptoRow.holds Try.pinned (OpenSpec.upto fnPlotsSpec)

/-- 'laws.FnExactAreLegs', WHERE WHAT IT READS IS OF BULK AT MOST 1048576: true; the input reads as it did. -/
def fnExactAreLegsUptoRow : OpenClaim := { program := "ytconlpgifkknmaa", sum := "43bbdf1987b4e9dcaa020e7807f18dc1824f163c2e0880f4ad3202e6f7359a69", func := "loop.example/g01341/laws.FnExactAreLegs", spec := "fnExactAreLegs", inPlace := ["math.Float64bits", "math.Float64frombits"], unfollowed := true, recurses := true, apart := false, narrowed := true }
def FnExactAreLegsUptoSaid : Prop := fnExactAreLegsUptoRow.holds Try.pinned (OpenSpec.upto fnExactAreLegsSpec)

end Rows
end Go.Proofs.Ytconlpgifkknmaa
