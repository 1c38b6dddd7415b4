/-
  No cell of these rows narrows 'for every input' (looked for: loops, veiled, ifaces, maps, wideKeys, modest, calm, conditions, laid).
  DERIVED. THE GIVEN ROWS OF THIS SEAT. 9 by the template 'for every input the law returns true; each argument reads behind the call as it read before'; 0 by the template 'total and deterministic' (their statements: YtcgmffpddahgoaaTotals.lean).
  GIVEN WITH THE SEED: the statements are not yours to turn. If you find one false, say at which input.
  Laid BY PROGRAM, IN A SANDBOX (cutbox-rows.mjs): the forced cells as the released guide's own fill.sh prints them over the translation e06dc6eb9733c56f… (all of the seat's roots in one cut). By AI agents, Wed Nov 11 2026. No macro, syntax, notation, axiom, sorry.
-/
import Derived.Test.YtcgmffpddahgoaaChecked
import GoSem.Claim
import GoSem.ClaimJoined
import GoSem.ClaimMapViews
import Derived.JoinedTies
import Derived.KernelRfl
namespace Go.Proofs.Ytcgmffpddahgoaa
/- THE CELL 'sum', in the pinned program and in every row, IS THE sha256 OF THE DUMP (.gsa) THAT YtcgmffpddahgoaaProg.lean LOADS. Nothing in Lean hashes anything: it is a label: what it is worth is what the hold of that sum in a sandbox is worth. -/
noncomputable def Try.pinned : Pinned := { name := "ytcgmffpddahgoaa", sum := "e06dc6eb9733c56fa3cbfd4177c05ab606d8d5b1309a4130933b3fff2a70df80", checked := Try.checked }
namespace Rows
def none {H : Type} : Left H := { results := [], args := [] }

/-- 'laws.FnSights': WHATEVER THE INPUT: true; the input reads as it did. -/
def fnSightsSpec : ChangeSpec := { name := "fnSights", fn := fun _ => fun
  | [d1, d2] => { results := [.lit (.bool true)], args := [d1, d2] }
  | _ => none }
def fnSightsRow : OpenClaim := { program := "ytcgmffpddahgoaa", sum := "e06dc6eb9733c56fa3cbfd4177c05ab606d8d5b1309a4130933b3fff2a70df80", func := "loop.example/g01341/laws.FnSights", spec := "fnSights", inPlace := ["math.Float64bits", "math.Float64frombits", "math.sqrt"], unfollowed := true, recurses := true, leaving := true, apart := false }
def FnSightsSaid : Prop := fnSightsRow.holds Try.pinned (OpenSpec.ofChange fnSightsSpec)

/-- ITS FALSE NEIGHBOUR: 'it returns false'. Refute it at one input. -/
def fnSightsWrong : ChangeSpec := { name := "fnSights", fn := fun _ => fun
  | [d1, d2] => { results := [.lit (.bool false)], args := [d1, d2] }
  | _ => none }
def FnSightsWrongFalsely : Prop := fnSightsRow.holds Try.pinned (OpenSpec.ofChange fnSightsWrong)

/-- 'laws.FnWaters': WHATEVER THE INPUT: true; the input reads as it did. -/
def fnWatersSpec : ChangeSpec := { name := "fnWaters", fn := fun _ => fun
  | [d1, d2] => { results := [.lit (.bool true)], args := [d1, d2] }
  | _ => none }
def fnWatersRow : OpenClaim := { program := "ytcgmffpddahgoaa", sum := "e06dc6eb9733c56fa3cbfd4177c05ab606d8d5b1309a4130933b3fff2a70df80", func := "loop.example/g01341/laws.FnWaters", spec := "fnWaters", inPlace := ["math.Float64bits", "math.Float64frombits", "math.sqrt", "math.Float32bits"], unfollowed := true, recurses := true, leaving := true, apart := false }
def FnWatersSaid : Prop := fnWatersRow.holds Try.pinned (OpenSpec.ofChange fnWatersSpec)

/-- ITS FALSE NEIGHBOUR: 'it returns false'. Refute it at one input. -/
def fnWatersWrong : ChangeSpec := { name := "fnWaters", fn := fun _ => fun
  | [d1, d2] => { results := [.lit (.bool false)], args := [d1, d2] }
  | _ => none }
def FnWatersWrongFalsely : Prop := fnWatersRow.holds Try.pinned (OpenSpec.ofChange fnWatersWrong)

/-- 'laws.FnExactValidGrid': WHATEVER THE INPUT: true; the input reads as it did. -/
def fnExactValidGridSpec : ChangeSpec := { name := "fnExactValidGrid", fn := fun _ => fun
  | [d] => { results := [.lit (.bool true)], args := [d] }
  | _ => none }
def fnExactValidGridRow : OpenClaim := { program := "ytcgmffpddahgoaa", sum := "e06dc6eb9733c56fa3cbfd4177c05ab606d8d5b1309a4130933b3fff2a70df80", func := "loop.example/g01341/laws.FnExactValidGrid", spec := "fnExactValidGrid", inPlace := ["math.Float64bits", "math.Float64frombits"], unfollowed := true, recurses := true, leaving := true, apart := false }
def FnExactValidGridSaid : Prop := fnExactValidGridRow.holds Try.pinned (OpenSpec.ofChange fnExactValidGridSpec)

/-- ITS FALSE NEIGHBOUR: 'it returns false'. Refute it at one input. -/
def fnExactValidGridWrong : ChangeSpec := { name := "fnExactValidGrid", fn := fun _ => fun
  | [d] => { results := [.lit (.bool false)], args := [d] }
  | _ => none }
def FnExactValidGridWrongFalsely : Prop := fnExactValidGridRow.holds Try.pinned (OpenSpec.ofChange fnExactValidGridWrong)

/-- 'laws.FnExactSameGrid': WHATEVER THE INPUT: true; the input reads as it did. -/
def fnExactSameGridSpec : ChangeSpec := { name := "fnExactSameGrid", fn := fun _ => fun
  | [d1, d2] => { results := [.lit (.bool true)], args := [d1, d2] }
  | _ => none }
def fnExactSameGridRow : OpenClaim := { program := "ytcgmffpddahgoaa", sum := "e06dc6eb9733c56fa3cbfd4177c05ab606d8d5b1309a4130933b3fff2a70df80", func := "loop.example/g01341/laws.FnExactSameGrid", spec := "fnExactSameGrid", inPlace := ["math.Float32bits"], unfollowed := true, recurses := true, leaving := true, apart := false }
def FnExactSameGridSaid : Prop := fnExactSameGridRow.holds Try.pinned (OpenSpec.ofChange fnExactSameGridSpec)

/-- ITS FALSE NEIGHBOUR: 'it returns false'. Refute it at one input. -/
def fnExactSameGridWrong : ChangeSpec := { name := "fnExactSameGrid", fn := fun _ => fun
  | [d1, d2] => { results := [.lit (.bool false)], args := [d1, d2] }
  | _ => none }
def FnExactSameGridWrongFalsely : Prop := fnExactSameGridRow.holds Try.pinned (OpenSpec.ofChange fnExactSameGridWrong)

/-- 'laws.FnExactFlatGrid': WHATEVER THE INPUT: true; the input reads as it did. -/
def fnExactFlatGridSpec : ChangeSpec := { name := "fnExactFlatGrid", fn := fun _ => fun
  | [d1, d2, d3] => { results := [.lit (.bool true)], args := [d1, d2, d3] }
  | _ => none }
def fnExactFlatGridRow : OpenClaim := { program := "ytcgmffpddahgoaa", sum := "e06dc6eb9733c56fa3cbfd4177c05ab606d8d5b1309a4130933b3fff2a70df80", func := "loop.example/g01341/laws.FnExactFlatGrid", spec := "fnExactFlatGrid", inPlace := ["math.Float64bits", "math.Float64frombits"], unfollowed := true, recurses := true, leaving := true, apart := false }
def FnExactFlatGridSaid : Prop := fnExactFlatGridRow.holds Try.pinned (OpenSpec.ofChange fnExactFlatGridSpec)

/-- ITS FALSE NEIGHBOUR: 'it returns false'. Refute it at one input. -/
def fnExactFlatGridWrong : ChangeSpec := { name := "fnExactFlatGrid", fn := fun _ => fun
  | [d1, d2, d3] => { results := [.lit (.bool false)], args := [d1, d2, d3] }
  | _ => none }
def FnExactFlatGridWrongFalsely : Prop := fnExactFlatGridRow.holds Try.pinned (OpenSpec.ofChange fnExactFlatGridWrong)

/-- 'laws.FnExactWeighGrids': WHATEVER THE INPUT: true; the input reads as it did. -/
def fnExactWeighGridsSpec : ChangeSpec := { name := "fnExactWeighGrids", fn := fun _ => fun
  | [d1, d2, d3, d4] => { results := [.lit (.bool true)], args := [d1, d2, d3, d4] }
  | _ => none }
def fnExactWeighGridsRow : OpenClaim := { program := "ytcgmffpddahgoaa", sum := "e06dc6eb9733c56fa3cbfd4177c05ab606d8d5b1309a4130933b3fff2a70df80", func := "loop.example/g01341/laws.FnExactWeighGrids", spec := "fnExactWeighGrids", inPlace := ["math.Float64bits", "math.Float64frombits"], unfollowed := true, recurses := true, leaving := true, apart := false }
def FnExactWeighGridsSaid : Prop := fnExactWeighGridsRow.holds Try.pinned (OpenSpec.ofChange fnExactWeighGridsSpec)

/-- ITS FALSE NEIGHBOUR: 'it returns false'. Refute it at one input. -/
def fnExactWeighGridsWrong : ChangeSpec := { name := "fnExactWeighGrids", fn := fun _ => fun
  | [d1, d2, d3, d4] => { results := [.lit (.bool false)], args := [d1, d2, d3, d4] }
  | _ => none }
def FnExactWeighGridsWrongFalsely : Prop := fnExactWeighGridsRow.holds Try.pinned (OpenSpec.ofChange fnExactWeighGridsWrong)

/-- 'laws.FnExactSlopeOfGrid': WHATEVER THE INPUT: true; the input reads as it did. -/
def fnExactSlopeOfGridSpec : ChangeSpec := { name := "fnExactSlopeOfGrid", fn := fun _ => fun
  | [d1, d2] => { results := [.lit (.bool true)], args := [d1, d2] }
  | _ => none }
def fnExactSlopeOfGridRow : OpenClaim := { program := "ytcgmffpddahgoaa", sum := "e06dc6eb9733c56fa3cbfd4177c05ab606d8d5b1309a4130933b3fff2a70df80", func := "loop.example/g01341/laws.FnExactSlopeOfGrid", spec := "fnExactSlopeOfGrid", inPlace := ["math.Float64bits", "math.Float64frombits"], unfollowed := true, recurses := true, leaving := true, apart := false }
def FnExactSlopeOfGridSaid : Prop := fnExactSlopeOfGridRow.holds Try.pinned (OpenSpec.ofChange fnExactSlopeOfGridSpec)

/-- ITS FALSE NEIGHBOUR: 'it returns false'. Refute it at one input. -/
def fnExactSlopeOfGridWrong : ChangeSpec := { name := "fnExactSlopeOfGrid", fn := fun _ => fun
  | [d1, d2] => { results := [.lit (.bool false)], args := [d1, d2] }
  | _ => none }
def FnExactSlopeOfGridWrongFalsely : Prop := fnExactSlopeOfGridRow.holds Try.pinned (OpenSpec.ofChange fnExactSlopeOfGridWrong)

/-- 'laws.FnExactShadeOf': WHATEVER THE INPUT: true; the input reads as it did. -/
def fnExactShadeOfSpec : ChangeSpec := { name := "fnExactShadeOf", fn := fun _ => fun
  | [d1, d2, d3] => { results := [.lit (.bool true)], args := [d1, d2, d3] }
  | _ => none }
def fnExactShadeOfRow : OpenClaim := { program := "ytcgmffpddahgoaa", sum := "e06dc6eb9733c56fa3cbfd4177c05ab606d8d5b1309a4130933b3fff2a70df80", func := "loop.example/g01341/laws.FnExactShadeOf", spec := "fnExactShadeOf", inPlace := ["math.sqrt", "math.Float64bits", "math.Float64frombits"], unfollowed := true, recurses := true, leaving := true, apart := false }
def FnExactShadeOfSaid : Prop := fnExactShadeOfRow.holds Try.pinned (OpenSpec.ofChange fnExactShadeOfSpec)

/-- ITS FALSE NEIGHBOUR: 'it returns false'. Refute it at one input. -/
def fnExactShadeOfWrong : ChangeSpec := { name := "fnExactShadeOf", fn := fun _ => fun
  | [d1, d2, d3] => { results := [.lit (.bool false)], args := [d1, d2, d3] }
  | _ => none }
def FnExactShadeOfWrongFalsely : Prop := fnExactShadeOfRow.holds Try.pinned (OpenSpec.ofChange fnExactShadeOfWrong)

/-- 'laws.FnExactShadesShared': WHATEVER THE INPUT: true; the input reads as it did. -/
def fnExactShadesSharedSpec : ChangeSpec := { name := "fnExactShadesShared", fn := fun _ => fun
  | [d1, d2, d3] => { results := [.lit (.bool true)], args := [d1, d2, d3] }
  | _ => none }
def fnExactShadesSharedRow : OpenClaim := { program := "ytcgmffpddahgoaa", sum := "e06dc6eb9733c56fa3cbfd4177c05ab606d8d5b1309a4130933b3fff2a70df80", func := "loop.example/g01341/laws.FnExactShadesShared", spec := "fnExactShadesShared", inPlace := ["math.sqrt", "math.Float64bits", "math.Float64frombits", "(*sync.WaitGroup).Add", "internal/race.ReleaseMerge", "internal/race.Disable", "internal/race.Enable", "internal/synctest.IsInBubble", "internal/synctest.Associate[sync.WaitGroup]", "sync.fatal", "sync/atomic.OrUint64", "sync/atomic.AddUint64", "internal/race.Read", "sync/atomic.LoadUint64", "sync/atomic.StoreUint64", "internal/synctest.Disassociate[sync.WaitGroup]", "sync.runtime_Semrelease", "(*sync.WaitGroup).Done", "(*sync.WaitGroup).Wait", "internal/race.Acquire", "internal/synctest.IsAssociated[sync.WaitGroup]", "sync/atomic.CompareAndSwapUint64", "internal/race.Write", "sync.runtime_SemacquireWaitGroup"], unfollowed := true, recurses := true, leaving := true, apart := false }
def FnExactShadesSharedSaid : Prop := fnExactShadesSharedRow.holds Try.pinned (OpenSpec.ofChange fnExactShadesSharedSpec)

/-- ITS FALSE NEIGHBOUR: 'it returns false'. Refute it at one input. -/
def fnExactShadesSharedWrong : ChangeSpec := { name := "fnExactShadesShared", fn := fun _ => fun
  | [d1, d2, d3] => { results := [.lit (.bool false)], args := [d1, d2, d3] }
  | _ => none }
def FnExactShadesSharedWrongFalsely : Prop := fnExactShadesSharedRow.holds Try.pinned (OpenSpec.ofChange fnExactShadesSharedWrong)

/- THE SECOND FORM. 'bulk': how many values and letters a reading holds, each counted each time it is reached (what is shared counts as often as it is met; a slice's spare places count too). A statement '..UptoSaid' is the law's where the arguments, and the package variables that the reading takes, are together of bulk at most 1048576: NARROWER than '..Said'. Prove '..Said' where nothing that the law and all that it calls make is longer than what came in: it says more and counts as full. Else prove '..UptoSaid'. A law counts once. -/
mutual
def uptoBulk {H : Type} : DataW H → Nat
  | .lit (.string bytes) => bytes.length + 1
  | .lit _ => 1
  | .nil => 1
  | .ptr d => uptoBulk d + 1
  | .slice elems spare => uptoBulkAll elems + uptoBulkAll spare + 1
  | .agg parts => uptoBulkAll parts + 1
  | .iface _ d => uptoBulk d + 1
  | .map entries => uptoBulkEntries entries + 1
  | .held _ => 1
def uptoBulkAll {H : Type} : List (DataW H) → Nat
  | [] => 0
  | d :: r => uptoBulk d + uptoBulkAll r
def uptoBulkEntries {H : Type} : List (Lit × DataW H) → Nat
  | [] => 0
  | x :: r => uptoBulkEntry x + uptoBulkEntries r
def uptoBulkEntry {H : Type} : Lit × DataW H → Nat
  | (.string bytes, d) => bytes.length + uptoBulk d + 1
  | (_, d) => uptoBulk d + 1
 end
def uptoSmall : (H : Type) → List (DataW H) → Bool := fun _ ds => decide (uptoBulkAll ds ≤ 1048576)
def OpenSpec.upto (s : _root_.Go.ChangeSpec) : _root_.Go.OpenSpec := { _root_.Go.OpenSpec.ofChange s with cond := some uptoSmall }

/-- 'laws.FnSights', WHERE WHAT IT READS IS OF BULK AT MOST 1048576: true; the input reads as it did. -/
def fnSightsUptoRow : OpenClaim := { program := "ytcgmffpddahgoaa", sum := "e06dc6eb9733c56fa3cbfd4177c05ab606d8d5b1309a4130933b3fff2a70df80", func := "loop.example/g01341/laws.FnSights", spec := "fnSights", inPlace := ["math.Float64bits", "math.Float64frombits", "math.sqrt"], unfollowed := true, recurses := true, leaving := true, apart := false, narrowed := true }
def FnSightsUptoSaid : Prop := fnSightsUptoRow.holds Try.pinned (OpenSpec.upto fnSightsSpec)

/-- 'laws.FnWaters', WHERE WHAT IT READS IS OF BULK AT MOST 1048576: true; the input reads as it did. -/
def fnWatersUptoRow : OpenClaim := { program := "ytcgmffpddahgoaa", sum := "e06dc6eb9733c56fa3cbfd4177c05ab606d8d5b1309a4130933b3fff2a70df80", func := "loop.example/g01341/laws.FnWaters", spec := "fnWaters", inPlace := ["math.Float64bits", "math.Float64frombits", "math.sqrt", "math.Float32bits"], unfollowed := true, recurses := true, leaving := true, apart := false, narrowed := true }
def FnWatersUptoSaid : Prop := fnWatersUptoRow.holds Try.pinned (OpenSpec.upto fnWatersSpec)

/-- 'laws.FnExactValidGrid', WHERE WHAT IT READS IS OF BULK AT MOST 1048576: true; the input reads as it did. -/
def fnExactValidGridUptoRow : OpenClaim := { program := "ytcgmffpddahgoaa", sum := "e06dc6eb9733c56fa3cbfd4177c05ab606d8d5b1309a4130933b3fff2a70df80", func := "loop.example/g01341/laws.FnExactValidGrid", spec := "fnExactValidGrid", inPlace := ["math.Float64bits", "math.Float64frombits"], unfollowed := true, recurses := true, leaving := true, apart := false, narrowed := true }
def FnExactValidGridUptoSaid : Prop := fnExactValidGridUptoRow.holds Try.pinned (OpenSpec.upto fnExactValidGridSpec)

/-- 'laws.FnExactSameGrid', WHERE WHAT IT READS IS OF BULK AT MOST 1048576: true; the input reads as it did. -/
def fnExactSameGridUptoRow : OpenClaim := { program := "ytcgmffpddahgoaa", sum := "e06dc6eb9733c56fa3cbfd4177c05ab606d8d5b1309a4130933b3fff2a70df80", func := "loop.example/g01341/laws.FnExactSameGrid", spec := "fnExactSameGrid", inPlace := ["math.Float32bits"], unfollowed := true, recurses := true, leaving := true, apart := false, narrowed := true }
def FnExactSameGridUptoSaid : Prop := fnExactSameGridUptoRow.holds Try.pinned (OpenSpec.upto fnExactSameGridSpec)

/-- 'laws.FnExactFlatGrid', WHERE WHAT IT READS IS OF BULK AT MOST 1048576: true; the input reads as it did. -/
def fnExactFlatGridUptoRow : OpenClaim := { program := "ytcgmffpddahgoaa", sum := "e06dc6eb9733c56fa3cbfd4177c05ab606d8d5b1309a4130933b3fff2a70df80", func := "loop.example/g01341/laws.FnExactFlatGrid", spec := "fnExactFlatGrid", inPlace := ["math.Float64bits", "math.Float64frombits"], unfollowed := true, recurses := true, leaving := true, apart := false, narrowed := true }
def FnExactFlatGridUptoSaid : Prop := fnExactFlatGridUptoRow.holds Try.pinned (OpenSpec.upto fnExactFlatGridSpec)

/-- 'laws.FnExactWeighGrids', WHERE WHAT IT READS IS OF BULK AT MOST 1048576: true; the input reads as it did. -/
def fnExactWeighGridsUptoRow : OpenClaim := { program := "ytcgmffpddahgoaa", sum := "e06dc6eb9733c56fa3cbfd4177c05ab606d8d5b1309a4130933b3fff2a70df80", func := "loop.example/g01341/laws.FnExactWeighGrids", spec := "fnExactWeighGrids", inPlace := ["math.Float64bits", "math.Float64frombits"], unfollowed := true, recurses := true, leaving := true, apart := false, narrowed := true }
def FnExactWeighGridsUptoSaid : Prop := fnExactWeighGridsUptoRow.holds Try.pinned (OpenSpec.upto fnExactWeighGridsSpec)

/-- 'laws.FnExactSlopeOfGrid', WHERE WHAT IT READS IS OF BULK AT MOST 1048576: true; the input reads as it did. -/
def fnExactSlopeOfGridUptoRow : OpenClaim := { program := "ytcgmffpddahgoaa", sum := "e06dc6eb9733c56fa3cbfd4177c05ab606d8d5b1309a4130933b3fff2a70df80", func := "loop.example/g01341/laws.FnExactSlopeOfGrid", spec := "fnExactSlopeOfGrid", inPlace := ["math.Float64bits", "math.Float64frombits"], unfollowed := true, recurses := true, leaving := true, apart := false, narrowed := true }
def FnExactSlopeOfGridUptoSaid : Prop := fnExactSlopeOfGridUptoRow.holds Try.pinned (OpenSpec.upto fnExactSlopeOfGridSpec)

/-- 'laws.FnExactShadeOf', WHERE WHAT IT READS IS OF BULK AT MOST 1048576: true; the input reads as it did. -/
def fnExactShadeOfUptoRow : OpenClaim := { program := "ytcgmffpddahgoaa", sum := "e06dc6eb9733c56fa3cbfd4177c05ab606d8d5b1309a4130933b3fff2a70df80", func := "loop.example/g01341/laws.FnExactShadeOf", spec := "fnExactShadeOf", inPlace := ["math.sqrt", "math.Float64bits", "math.Float64frombits"], unfollowed := true, recurses := true, leaving := true, apart := false, narrowed := true }
def FnExactShadeOfUptoSaid : Prop := fnExactShadeOfUptoRow.holds Try.pinned (OpenSpec.upto fnExactShadeOfSpec)

/-- 'laws.FnExactShadesShared', WHERE WHAT IT READS IS OF BULK AT MOST 1048576: true; the input reads as it did. -/
def fnExactShadesSharedUptoRow : OpenClaim := { program := "ytcgmffpddahgoaa", sum := "e06dc6eb9733c56fa3cbfd4177c05ab606d8d5b1309a4130933b3fff2a70df80", func := "loop.example/g01341/laws.FnExactShadesShared", spec := "fnExactShadesShared", inPlace := ["math.sqrt", "math.Float64bits", "math.Float64frombits", "(*sync.WaitGroup).Add", "internal/race.ReleaseMerge", "internal/race.Disable", "internal/race.Enable", "internal/synctest.IsInBubble", "internal/synctest.Associate[sync.WaitGroup]", "sync.fatal", "sync/atomic.OrUint64", "sync/atomic.AddUint64", "internal/race.Read", "sync/atomic.LoadUint64", "sync/atomic.StoreUint64", "internal/synctest.Disassociate[sync.WaitGroup]", "sync.runtime_Semrelease", "(*sync.WaitGroup).Done", "(*sync.WaitGroup).Wait", "internal/race.Acquire", "internal/synctest.IsAssociated[sync.WaitGroup]", "sync/atomic.CompareAndSwapUint64", "internal/race.Write", "sync.runtime_SemacquireWaitGroup"], unfollowed := true, recurses := true, leaving := true, apart := false, narrowed := true }
def FnExactShadesSharedUptoSaid : Prop := fnExactShadesSharedUptoRow.holds Try.pinned (OpenSpec.upto fnExactShadesSharedSpec)

end Rows
end Go.Proofs.Ytcgmffpddahgoaa
