/-
  No cell of these rows narrows 'for every input' (looked for: loops, veiled, ifaces, maps, wideKeys, modest, calm, conditions, laid).
  DERIVED. THE GIVEN ROWS OF THIS SEAT. 5 by the template 'for every input the law returns true; each argument reads behind the call as it read before'; 0 by the template 'total and deterministic' (their statements: YtjjhklfpdllijabGreatTotals.lean).
  GIVEN WITH THE SEED: the statements are not yours to turn. If you find one false, say at which input.
  Laid BY PROGRAM, IN A SANDBOX (cutbox-rows.mjs): the forced cells as the released guide's own fill.sh prints them over the translation 7ffba701d0936a83… (all of the seat's roots in one cut). By AI agents, Wed Nov 11 2026. No macro, syntax, notation, axiom, sorry.
-/
import Derived.Test.YtjjhklfpdllijabGreatChecked
import GoSem.Claim
import GoSem.ClaimJoined
import GoSem.ClaimMapViews
import Derived.JoinedTies
import Derived.KernelRfl
namespace Go.Proofs.YtjjhklfpdllijabGreat
/- THE CELL 'sum', in the pinned program and in every row, IS THE sha256 OF THE DUMP (.gsa) THAT YtjjhklfpdllijabGreatProg.lean LOADS. Nothing in Lean hashes anything: it is a label: what it is worth is what the hold of that sum in a sandbox is worth. -/
noncomputable def Tryz.pinned : Pinned := { name := "ytjjhklfpdllijabgreat", sum := "7ffba701d0936a836fe95e865755973b46a44c46fe46fe7066a6353aad97c29b", checked := Tryz.checked }
namespace Rows
def none {H : Type} : Left H := { results := [], args := [] }

/-- 'laws.FnExactPointOf': WHATEVER THE INPUT: true; the input reads as it did. -/
def fnExactPointOfSpec : ChangeSpec := { name := "fnExactPointOf", fn := fun _ => fun
  | [d1, d2] => { results := [.lit (.bool true)], args := [d1, d2] }
  | _ => none }
def fnExactPointOfRow : OpenClaim := { program := "ytjjhklfpdllijabgreat", sum := "7ffba701d0936a836fe95e865755973b46a44c46fe46fe7066a6353aad97c29b", func := "loop.example/g01341/laws.FnExactPointOf", spec := "fnExactPointOf", inPlace := ["math.archFloor", "math.Float64bits", "math.Float64frombits", "math.archTrunc", "math.sqrt", "math.Float32frombits"], unfollowed := true, recurses := true, leaving := true, apart := false }
def FnExactPointOfSaid : Prop := fnExactPointOfRow.holds Tryz.pinned (OpenSpec.ofChange fnExactPointOfSpec)

/-- ITS FALSE NEIGHBOUR: 'it returns false'. Refute it at one input. -/
def fnExactPointOfWrong : ChangeSpec := { name := "fnExactPointOf", fn := fun _ => fun
  | [d1, d2] => { results := [.lit (.bool false)], args := [d1, d2] }
  | _ => none }
def FnExactPointOfWrongFalsely : Prop := fnExactPointOfRow.holds Tryz.pinned (OpenSpec.ofChange fnExactPointOfWrong)

/-- 'laws.FnExactPointsOf': WHATEVER THE INPUT: true; the input reads as it did. -/
def fnExactPointsOfSpec : ChangeSpec := { name := "fnExactPointsOf", fn := fun _ => fun
  | [d1, d2] => { results := [.lit (.bool true)], args := [d1, d2] }
  | _ => none }
def fnExactPointsOfRow : OpenClaim := { program := "ytjjhklfpdllijabgreat", sum := "7ffba701d0936a836fe95e865755973b46a44c46fe46fe7066a6353aad97c29b", func := "loop.example/g01341/laws.FnExactPointsOf", spec := "fnExactPointsOf", inPlace := ["math.archFloor", "math.Float64bits", "math.Float64frombits", "math.archTrunc", "math.sqrt", "math.Float32frombits"], unfollowed := true, recurses := true, leaving := true, apart := false }
def FnExactPointsOfSaid : Prop := fnExactPointsOfRow.holds Tryz.pinned (OpenSpec.ofChange fnExactPointsOfSpec)

/-- ITS FALSE NEIGHBOUR: 'it returns false'. Refute it at one input. -/
def fnExactPointsOfWrong : ChangeSpec := { name := "fnExactPointsOf", fn := fun _ => fun
  | [d1, d2] => { results := [.lit (.bool false)], args := [d1, d2] }
  | _ => none }
def FnExactPointsOfWrongFalsely : Prop := fnExactPointsOfRow.holds Tryz.pinned (OpenSpec.ofChange fnExactPointsOfWrong)

/-- 'laws.FnExactPointsShared': WHATEVER THE INPUT: true; the input reads as it did. -/
def fnExactPointsSharedSpec : ChangeSpec := { name := "fnExactPointsShared", fn := fun _ => fun
  | [d1, d2, d3] => { results := [.lit (.bool true)], args := [d1, d2, d3] }
  | _ => none }
def fnExactPointsSharedRow : OpenClaim := { program := "ytjjhklfpdllijabgreat", sum := "7ffba701d0936a836fe95e865755973b46a44c46fe46fe7066a6353aad97c29b", func := "loop.example/g01341/laws.FnExactPointsShared", spec := "fnExactPointsShared", inPlace := ["math.archFloor", "math.Float64bits", "math.Float64frombits", "math.archTrunc", "math.sqrt", "math.Float32frombits", "(*sync.WaitGroup).Add", "internal/race.ReleaseMerge", "internal/race.Disable", "internal/race.Enable", "internal/synctest.IsInBubble", "internal/synctest.Associate[sync.WaitGroup]", "sync.fatal", "sync/atomic.OrUint64", "sync/atomic.AddUint64", "internal/race.Read", "sync/atomic.LoadUint64", "sync/atomic.StoreUint64", "internal/synctest.Disassociate[sync.WaitGroup]", "sync.runtime_Semrelease", "(*sync.WaitGroup).Done", "(*sync.WaitGroup).Wait", "internal/race.Acquire", "internal/synctest.IsAssociated[sync.WaitGroup]", "sync/atomic.CompareAndSwapUint64", "internal/race.Write", "sync.runtime_SemacquireWaitGroup"], unfollowed := true, recurses := true, leaving := true, apart := false }
def FnExactPointsSharedSaid : Prop := fnExactPointsSharedRow.holds Tryz.pinned (OpenSpec.ofChange fnExactPointsSharedSpec)

/-- ITS FALSE NEIGHBOUR: 'it returns false'. Refute it at one input. -/
def fnExactPointsSharedWrong : ChangeSpec := { name := "fnExactPointsShared", fn := fun _ => fun
  | [d1, d2, d3] => { results := [.lit (.bool false)], args := [d1, d2, d3] }
  | _ => none }
def FnExactPointsSharedWrongFalsely : Prop := fnExactPointsSharedRow.holds Tryz.pinned (OpenSpec.ofChange fnExactPointsSharedWrong)

/-- 'laws.FnExactNorthLine': WHATEVER THE INPUT: true; the input reads as it did. -/
def fnExactNorthLineSpec : ChangeSpec := { name := "fnExactNorthLine", fn := fun _ => fun
  | [d1, d2, d3] => { results := [.lit (.bool true)], args := [d1, d2, d3] }
  | _ => none }
def fnExactNorthLineRow : OpenClaim := { program := "ytjjhklfpdllijabgreat", sum := "7ffba701d0936a836fe95e865755973b46a44c46fe46fe7066a6353aad97c29b", func := "loop.example/g01341/laws.FnExactNorthLine", spec := "fnExactNorthLine", inPlace := ["math.archFloor", "math.Float64bits", "math.Float64frombits", "math.archTrunc", "math.sqrt", "math.Float32frombits"], unfollowed := true, recurses := true, leaving := true, apart := false }
def FnExactNorthLineSaid : Prop := fnExactNorthLineRow.holds Tryz.pinned (OpenSpec.ofChange fnExactNorthLineSpec)

/-- ITS FALSE NEIGHBOUR: 'it returns false'. Refute it at one input. -/
def fnExactNorthLineWrong : ChangeSpec := { name := "fnExactNorthLine", fn := fun _ => fun
  | [d1, d2, d3] => { results := [.lit (.bool false)], args := [d1, d2, d3] }
  | _ => none }
def FnExactNorthLineWrongFalsely : Prop := fnExactNorthLineRow.holds Tryz.pinned (OpenSpec.ofChange fnExactNorthLineWrong)

/-- 'laws.FnExactEastLine': WHATEVER THE INPUT: true; the input reads as it did. -/
def fnExactEastLineSpec : ChangeSpec := { name := "fnExactEastLine", fn := fun _ => fun
  | [d1, d2, d3] => { results := [.lit (.bool true)], args := [d1, d2, d3] }
  | _ => none }
def fnExactEastLineRow : OpenClaim := { program := "ytjjhklfpdllijabgreat", sum := "7ffba701d0936a836fe95e865755973b46a44c46fe46fe7066a6353aad97c29b", func := "loop.example/g01341/laws.FnExactEastLine", spec := "fnExactEastLine", inPlace := ["math.archFloor", "math.Float64bits", "math.Float64frombits", "math.archTrunc", "math.sqrt", "math.Float32frombits"], unfollowed := true, recurses := true, leaving := true, apart := false }
def FnExactEastLineSaid : Prop := fnExactEastLineRow.holds Tryz.pinned (OpenSpec.ofChange fnExactEastLineSpec)

/-- ITS FALSE NEIGHBOUR: 'it returns false'. Refute it at one input. -/
def fnExactEastLineWrong : ChangeSpec := { name := "fnExactEastLine", fn := fun _ => fun
  | [d1, d2, d3] => { results := [.lit (.bool false)], args := [d1, d2, d3] }
  | _ => none }
def FnExactEastLineWrongFalsely : Prop := fnExactEastLineRow.holds Tryz.pinned (OpenSpec.ofChange fnExactEastLineWrong)

/- THE SECOND FORM. 'bulk': how many values and letters a reading holds, each counted each time it is reached (what is shared counts as often as it is met; a slice's spare places count too). A statement '..UptoSaid' is the law's where the arguments, and the package variables that the reading takes, are together of bulk at most 1048576: NARROWER than '..Said'. Prove '..Said' where nothing that the law and all that it calls make is longer than what came in: it says more and counts as full. Else prove '..UptoSaid'. A law counts once. -/
mutual
def uptoBulk {H : Type} : DataW H → Nat
  | .lit (.string bytes) => bytes.length + 1
  | .lit _ => 1
  | .nil => 1
  | .ptr d => uptoBulk d + 1
  | .slice elems spare => uptoBulkAll elems + uptoBulkAll spare + 1
  | .agg parts => uptoBulkAll parts + 1
  | .iface _ d => uptoBulk d + 1
  | .map entries => uptoBulkEntries entries + 1
  | .held _ => 1
def uptoBulkAll {H : Type} : List (DataW H) → Nat
  | [] => 0
  | d :: r => uptoBulk d + uptoBulkAll r
def uptoBulkEntries {H : Type} : List (Lit × DataW H) → Nat
  | [] => 0
  | x :: r => uptoBulkEntry x + uptoBulkEntries r
def uptoBulkEntry {H : Type} : Lit × DataW H → Nat
  | (.string bytes, d) => bytes.length + uptoBulk d + 1
  | (_, d) => uptoBulk d + 1
 end
def uptoSmall : (H : Type) → List (DataW H) → Bool := fun _ ds => decide (uptoBulkAll ds ≤ 1048576)
def OpenSpec.upto (s : _root_.Go.ChangeSpec) : _root_.Go.OpenSpec := { _root_.Go.OpenSpec.ofChange s with cond := some uptoSmall }

/-- 'laws.FnExactPointOf', WHERE WHAT IT READS IS OF BULK AT MOST 1048576: true; the input reads as it did. -/
def fnExactPointOfUptoRow : OpenClaim := { program := "ytjjhklfpdllijabgreat", sum := "7ffba701d0936a836fe95e865755973b46a44c46fe46fe7066a6353aad97c29b", func := "loop.example/g01341/laws.FnExactPointOf", spec := "fnExactPointOf", inPlace := ["math.archFloor", "math.Float64bits", "math.Float64frombits", "math.archTrunc", "math.sqrt", "math.Float32frombits"], unfollowed := true, recurses := true, leaving := true, apart := false, narrowed := true }
def FnExactPointOfUptoSaid : Prop := fnExactPointOfUptoRow.holds Tryz.pinned (OpenSpec.upto fnExactPointOfSpec)

/-- 'laws.FnExactPointsOf', WHERE WHAT IT READS IS OF BULK AT MOST 1048576: true; the input reads as it did. -/
def fnExactPointsOfUptoRow : OpenClaim := { program := "ytjjhklfpdllijabgreat", sum := "7ffba701d0936a836fe95e865755973b46a44c46fe46fe7066a6353aad97c29b", func := "loop.example/g01341/laws.FnExactPointsOf", spec := "fnExactPointsOf", inPlace := ["math.archFloor", "math.Float64bits", "math.Float64frombits", "math.archTrunc", "math.sqrt", "math.Float32frombits"], unfollowed := true, recurses := true, leaving := true, apart := false, narrowed := true }
def FnExactPointsOfUptoSaid : Prop := fnExactPointsOfUptoRow.holds Tryz.pinned (OpenSpec.upto fnExactPointsOfSpec)

/-- 'laws.FnExactPointsShared', WHERE WHAT IT READS IS OF BULK AT MOST 1048576: true; the input reads as it did. -/
def fnExactPointsSharedUptoRow : OpenClaim := { program := "ytjjhklfpdllijabgreat", sum := "7ffba701d0936a836fe95e865755973b46a44c46fe46fe7066a6353aad97c29b", func := "loop.example/g01341/laws.FnExactPointsShared", spec := "fnExactPointsShared", inPlace := ["math.archFloor", "math.Float64bits", "math.Float64frombits", "math.archTrunc", "math.sqrt", "math.Float32frombits", "(*sync.WaitGroup).Add", "internal/race.ReleaseMerge", "internal/race.Disable", "internal/race.Enable", "internal/synctest.IsInBubble", "internal/synctest.Associate[sync.WaitGroup]", "sync.fatal", "sync/atomic.OrUint64", "sync/atomic.AddUint64", "internal/race.Read", "sync/atomic.LoadUint64", "sync/atomic.StoreUint64", "internal/synctest.Disassociate[sync.WaitGroup]", "sync.runtime_Semrelease", "(*sync.WaitGroup).Done", "(*sync.WaitGroup).Wait", "internal/race.Acquire", "internal/synctest.IsAssociated[sync.WaitGroup]", "sync/atomic.CompareAndSwapUint64", "internal/race.Write", "sync.runtime_SemacquireWaitGroup"], unfollowed := true, recurses := true, leaving := true, apart := false, narrowed := true }
def FnExactPointsSharedUptoSaid : Prop := fnExactPointsSharedUptoRow.holds Tryz.pinned (OpenSpec.upto fnExactPointsSharedSpec)

/-- 'laws.FnExactNorthLine', WHERE WHAT IT READS IS OF BULK AT MOST 1048576: true; the input reads as it did. -/
def fnExactNorthLineUptoRow : OpenClaim := { program := "ytjjhklfpdllijabgreat", sum := "7ffba701d0936a836fe95e865755973b46a44c46fe46fe7066a6353aad97c29b", func := "loop.example/g01341/laws.FnExactNorthLine", spec := "fnExactNorthLine", inPlace := ["math.archFloor", "math.Float64bits", "math.Float64frombits", "math.archTrunc", "math.sqrt", "math.Float32frombits"], unfollowed := true, recurses := true, leaving := true, apart := false, narrowed := true }
def FnExactNorthLineUptoSaid : Prop := fnExactNorthLineUptoRow.holds Tryz.pinned (OpenSpec.upto fnExactNorthLineSpec)

/-- 'laws.FnExactEastLine', WHERE WHAT IT READS IS OF BULK AT MOST 1048576: true; the input reads as it did. -/
def fnExactEastLineUptoRow : OpenClaim := { program := "ytjjhklfpdllijabgreat", sum := "7ffba701d0936a836fe95e865755973b46a44c46fe46fe7066a6353aad97c29b", func := "loop.example/g01341/laws.FnExactEastLine", spec := "fnExactEastLine", inPlace := ["math.archFloor", "math.Float64bits", "math.Float64frombits", "math.archTrunc", "math.sqrt", "math.Float32frombits"], unfollowed := true, recurses := true, leaving := true, apart := false, narrowed := true }
def FnExactEastLineUptoSaid : Prop := fnExactEastLineUptoRow.holds Tryz.pinned (OpenSpec.upto fnExactEastLineSpec)

end Rows
end Go.Proofs.YtjjhklfpdllijabGreat
