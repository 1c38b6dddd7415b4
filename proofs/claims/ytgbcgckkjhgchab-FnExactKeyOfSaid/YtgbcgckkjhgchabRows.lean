/-
  No cell of these rows narrows 'for every input' (looked for: loops, veiled, ifaces, maps, wideKeys, modest, calm, conditions, laid).
  DERIVED. THE GIVEN ROWS OF THIS SEAT. 11 by the template 'for every input the law returns true; each argument reads behind the call as it read before'; 0 by the template 'total and deterministic' (their statements: YtgbcgckkjhgchabTotals.lean).
  GIVEN WITH THE SEED: the statements are not yours to turn. If you find one false, say at which input.
  Laid BY PROGRAM, IN A SANDBOX (cutbox-rows.mjs): the forced cells as the released guide's own fill.sh prints them over the translation 27e509f53c7cf6ef… (all of the seat's roots in one cut). By AI agents, Wed Nov 11 2026. No macro, syntax, notation, axiom, sorry.
-/
import Derived.Test.YtgbcgckkjhgchabChecked
import GoSem.Claim
import GoSem.ClaimJoined
import GoSem.ClaimMapViews
import Derived.JoinedTies
import Derived.KernelRfl
namespace Go.Proofs.Ytgbcgckkjhgchab
/- THE CELL 'sum', in the pinned program and in every row, IS THE sha256 OF THE DUMP (.gsa) THAT YtgbcgckkjhgchabProg.lean LOADS. Nothing in Lean hashes anything: it is a label: what it is worth is what the hold of that sum in a sandbox is worth. -/
noncomputable def Try.pinned : Pinned := { name := "ytgbcgckkjhgchab", sum := "27e509f53c7cf6efaf30459d4a1f7554692f343b9a01a92a3b62fe331d8e69ef", checked := Try.checked }
namespace Rows
def none {H : Type} : Left H := { results := [], args := [] }

/-- 'laws.FnExactKeyOf': WHATEVER THE INPUT: true; the input reads as it did. -/
def fnExactKeyOfSpec : ChangeSpec := { name := "fnExactKeyOf", fn := fun _ => fun
  | [d1, d2] => { results := [.lit (.bool true)], args := [d1, d2] }
  | _ => none }
def fnExactKeyOfRow : OpenClaim := { program := "ytgbcgckkjhgchab", sum := "27e509f53c7cf6efaf30459d4a1f7554692f343b9a01a92a3b62fe331d8e69ef", func := "loop.example/g01341/laws.FnExactKeyOf", spec := "fnExactKeyOf", inPlace := ["math.archFloor", "math.Float64bits", "math.Float64frombits", "math.archTrunc"], apart := false }
def FnExactKeyOfSaid : Prop := fnExactKeyOfRow.holds Try.pinned (OpenSpec.ofChange fnExactKeyOfSpec)

/-- ITS FALSE NEIGHBOUR: 'it returns false'. Refute it at one input. -/
def fnExactKeyOfWrong : ChangeSpec := { name := "fnExactKeyOf", fn := fun _ => fun
  | [d1, d2] => { results := [.lit (.bool false)], args := [d1, d2] }
  | _ => none }
def FnExactKeyOfWrongFalsely : Prop := fnExactKeyOfRow.holds Try.pinned (OpenSpec.ofChange fnExactKeyOfWrong)

/-- 'laws.FnExactTileKey': WHATEVER THE INPUT: true; the input reads as it did. -/
def fnExactTileKeySpec : ChangeSpec := { name := "fnExactTileKey", fn := fun _ => fun
  | [d1, d2, d3] => { results := [.lit (.bool true)], args := [d1, d2, d3] }
  | _ => none }
def fnExactTileKeyRow : OpenClaim := { program := "ytgbcgckkjhgchab", sum := "27e509f53c7cf6efaf30459d4a1f7554692f343b9a01a92a3b62fe331d8e69ef", func := "loop.example/g01341/laws.FnExactTileKey", spec := "fnExactTileKey", apart := false }
def FnExactTileKeySaid : Prop := fnExactTileKeyRow.holds Try.pinned (OpenSpec.ofChange fnExactTileKeySpec)

/-- ITS FALSE NEIGHBOUR: 'it returns false'. Refute it at one input. -/
def fnExactTileKeyWrong : ChangeSpec := { name := "fnExactTileKey", fn := fun _ => fun
  | [d1, d2, d3] => { results := [.lit (.bool false)], args := [d1, d2, d3] }
  | _ => none }
def FnExactTileKeyWrongFalsely : Prop := fnExactTileKeyRow.holds Try.pinned (OpenSpec.ofChange fnExactTileKeyWrong)

/-- 'laws.FnExactKeyBox': WHATEVER THE INPUT: true; the input reads as it did. -/
def fnExactKeyBoxSpec : ChangeSpec := { name := "fnExactKeyBox", fn := fun _ => fun
  | [d] => { results := [.lit (.bool true)], args := [d] }
  | _ => none }
def fnExactKeyBoxRow : OpenClaim := { program := "ytgbcgckkjhgchab", sum := "27e509f53c7cf6efaf30459d4a1f7554692f343b9a01a92a3b62fe331d8e69ef", func := "loop.example/g01341/laws.FnExactKeyBox", spec := "fnExactKeyBox", unfollowed := true, recurses := true, leaving := true, apart := false }
def FnExactKeyBoxSaid : Prop := fnExactKeyBoxRow.holds Try.pinned (OpenSpec.ofChange fnExactKeyBoxSpec)

/-- ITS FALSE NEIGHBOUR: 'it returns false'. Refute it at one input. -/
def fnExactKeyBoxWrong : ChangeSpec := { name := "fnExactKeyBox", fn := fun _ => fun
  | [d] => { results := [.lit (.bool false)], args := [d] }
  | _ => none }
def FnExactKeyBoxWrongFalsely : Prop := fnExactKeyBoxRow.holds Try.pinned (OpenSpec.ofChange fnExactKeyBoxWrong)

/-- 'laws.FnExactKeyParent': WHATEVER THE INPUT: true; the input reads as it did. -/
def fnExactKeyParentSpec : ChangeSpec := { name := "fnExactKeyParent", fn := fun _ => fun
  | [d] => { results := [.lit (.bool true)], args := [d] }
  | _ => none }
def fnExactKeyParentRow : OpenClaim := { program := "ytgbcgckkjhgchab", sum := "27e509f53c7cf6efaf30459d4a1f7554692f343b9a01a92a3b62fe331d8e69ef", func := "loop.example/g01341/laws.FnExactKeyParent", spec := "fnExactKeyParent", unfollowed := true, recurses := true, leaving := true, apart := false }
def FnExactKeyParentSaid : Prop := fnExactKeyParentRow.holds Try.pinned (OpenSpec.ofChange fnExactKeyParentSpec)

/-- ITS FALSE NEIGHBOUR: 'it returns false'. Refute it at one input. -/
def fnExactKeyParentWrong : ChangeSpec := { name := "fnExactKeyParent", fn := fun _ => fun
  | [d] => { results := [.lit (.bool false)], args := [d] }
  | _ => none }
def FnExactKeyParentWrongFalsely : Prop := fnExactKeyParentRow.holds Try.pinned (OpenSpec.ofChange fnExactKeyParentWrong)

/-- 'laws.FnExactKeyBeside': WHATEVER THE INPUT: true; the input reads as it did. -/
def fnExactKeyBesideSpec : ChangeSpec := { name := "fnExactKeyBeside", fn := fun _ => fun
  | [d1, d2, d3] => { results := [.lit (.bool true)], args := [d1, d2, d3] }
  | _ => none }
def fnExactKeyBesideRow : OpenClaim := { program := "ytgbcgckkjhgchab", sum := "27e509f53c7cf6efaf30459d4a1f7554692f343b9a01a92a3b62fe331d8e69ef", func := "loop.example/g01341/laws.FnExactKeyBeside", spec := "fnExactKeyBeside", unfollowed := true, recurses := true, leaving := true, apart := false }
def FnExactKeyBesideSaid : Prop := fnExactKeyBesideRow.holds Try.pinned (OpenSpec.ofChange fnExactKeyBesideSpec)

/-- ITS FALSE NEIGHBOUR: 'it returns false'. Refute it at one input. -/
def fnExactKeyBesideWrong : ChangeSpec := { name := "fnExactKeyBeside", fn := fun _ => fun
  | [d1, d2, d3] => { results := [.lit (.bool false)], args := [d1, d2, d3] }
  | _ => none }
def FnExactKeyBesideWrongFalsely : Prop := fnExactKeyBesideRow.holds Try.pinned (OpenSpec.ofChange fnExactKeyBesideWrong)

/-- 'laws.FnExactPackPlaces': WHATEVER THE INPUT: true; the input reads as it did. -/
def fnExactPackPlacesSpec : ChangeSpec := { name := "fnExactPackPlaces", fn := fun _ => fun
  | [d] => { results := [.lit (.bool true)], args := [d] }
  | _ => none }
def fnExactPackPlacesRow : OpenClaim := { program := "ytgbcgckkjhgchab", sum := "27e509f53c7cf6efaf30459d4a1f7554692f343b9a01a92a3b62fe331d8e69ef", func := "loop.example/g01341/laws.FnExactPackPlaces", spec := "fnExactPackPlaces", inPlace := ["math.archFloor", "math.Float64bits", "math.Float64frombits", "math.archTrunc", "math.Float32bits"], unfollowed := true, recurses := true, leaving := true, apart := false }
def FnExactPackPlacesSaid : Prop := fnExactPackPlacesRow.holds Try.pinned (OpenSpec.ofChange fnExactPackPlacesSpec)

/-- ITS FALSE NEIGHBOUR: 'it returns false'. Refute it at one input. -/
def fnExactPackPlacesWrong : ChangeSpec := { name := "fnExactPackPlaces", fn := fun _ => fun
  | [d] => { results := [.lit (.bool false)], args := [d] }
  | _ => none }
def FnExactPackPlacesWrongFalsely : Prop := fnExactPackPlacesRow.holds Try.pinned (OpenSpec.ofChange fnExactPackPlacesWrong)

/-- 'laws.FnExactStoreTrack': WHATEVER THE INPUT: true; the input reads as it did. -/
def fnExactStoreTrackSpec : ChangeSpec := { name := "fnExactStoreTrack", fn := fun _ => fun
  | [d] => { results := [.lit (.bool true)], args := [d] }
  | _ => none }
def fnExactStoreTrackRow : OpenClaim := { program := "ytgbcgckkjhgchab", sum := "27e509f53c7cf6efaf30459d4a1f7554692f343b9a01a92a3b62fe331d8e69ef", func := "loop.example/g01341/laws.FnExactStoreTrack", spec := "fnExactStoreTrack", inPlace := ["math.archFloor", "math.Float64bits", "math.Float64frombits", "math.archTrunc", "math.Float32bits"], unfollowed := true, recurses := true, leaving := true, apart := false }
def FnExactStoreTrackSaid : Prop := fnExactStoreTrackRow.holds Try.pinned (OpenSpec.ofChange fnExactStoreTrackSpec)

/-- ITS FALSE NEIGHBOUR: 'it returns false'. Refute it at one input. -/
def fnExactStoreTrackWrong : ChangeSpec := { name := "fnExactStoreTrack", fn := fun _ => fun
  | [d] => { results := [.lit (.bool false)], args := [d] }
  | _ => none }
def FnExactStoreTrackWrongFalsely : Prop := fnExactStoreTrackRow.holds Try.pinned (OpenSpec.ofChange fnExactStoreTrackWrong)

/-- 'laws.FnExactStoreTracks': WHATEVER THE INPUT: true; the input reads as it did. -/
def fnExactStoreTracksSpec : ChangeSpec := { name := "fnExactStoreTracks", fn := fun _ => fun
  | [d] => { results := [.lit (.bool true)], args := [d] }
  | _ => none }
def fnExactStoreTracksRow : OpenClaim := { program := "ytgbcgckkjhgchab", sum := "27e509f53c7cf6efaf30459d4a1f7554692f343b9a01a92a3b62fe331d8e69ef", func := "loop.example/g01341/laws.FnExactStoreTracks", spec := "fnExactStoreTracks", inPlace := ["math.archFloor", "math.Float64bits", "math.Float64frombits", "math.archTrunc", "math.Float32bits"], unfollowed := true, recurses := true, leaving := true, apart := false }
def FnExactStoreTracksSaid : Prop := fnExactStoreTracksRow.holds Try.pinned (OpenSpec.ofChange fnExactStoreTracksSpec)

/-- ITS FALSE NEIGHBOUR: 'it returns false'. Refute it at one input. -/
def fnExactStoreTracksWrong : ChangeSpec := { name := "fnExactStoreTracks", fn := fun _ => fun
  | [d] => { results := [.lit (.bool false)], args := [d] }
  | _ => none }
def FnExactStoreTracksWrongFalsely : Prop := fnExactStoreTracksRow.holds Try.pinned (OpenSpec.ofChange fnExactStoreTracksWrong)

/-- 'laws.FnExactKeysIn': WHATEVER THE INPUT: true; the input reads as it did. -/
def fnExactKeysInSpec : ChangeSpec := { name := "fnExactKeysIn", fn := fun _ => fun
  | [d1, d2, d3] => { results := [.lit (.bool true)], args := [d1, d2, d3] }
  | _ => none }
def fnExactKeysInRow : OpenClaim := { program := "ytgbcgckkjhgchab", sum := "27e509f53c7cf6efaf30459d4a1f7554692f343b9a01a92a3b62fe331d8e69ef", func := "loop.example/g01341/laws.FnExactKeysIn", spec := "fnExactKeysIn", inPlace := ["math.archFloor", "math.Float64bits", "math.Float64frombits", "math.archTrunc"], apart := false }
def FnExactKeysInSaid : Prop := fnExactKeysInRow.holds Try.pinned (OpenSpec.ofChange fnExactKeysInSpec)

/-- ITS FALSE NEIGHBOUR: 'it returns false'. Refute it at one input. -/
def fnExactKeysInWrong : ChangeSpec := { name := "fnExactKeysIn", fn := fun _ => fun
  | [d1, d2, d3] => { results := [.lit (.bool false)], args := [d1, d2, d3] }
  | _ => none }
def FnExactKeysInWrongFalsely : Prop := fnExactKeysInRow.holds Try.pinned (OpenSpec.ofChange fnExactKeysInWrong)

/-- 'laws.FnExactGatherKeys': WHATEVER THE INPUT: true; the input reads as it did. -/
def fnExactGatherKeysSpec : ChangeSpec := { name := "fnExactGatherKeys", fn := fun _ => fun
  | [d] => { results := [.lit (.bool true)], args := [d] }
  | _ => none }
def fnExactGatherKeysRow : OpenClaim := { program := "ytgbcgckkjhgchab", sum := "27e509f53c7cf6efaf30459d4a1f7554692f343b9a01a92a3b62fe331d8e69ef", func := "loop.example/g01341/laws.FnExactGatherKeys", spec := "fnExactGatherKeys", unfollowed := true, recurses := true, leaving := true, apart := false }
def FnExactGatherKeysSaid : Prop := fnExactGatherKeysRow.holds Try.pinned (OpenSpec.ofChange fnExactGatherKeysSpec)

/-- ITS FALSE NEIGHBOUR: 'it returns false'. Refute it at one input. -/
def fnExactGatherKeysWrong : ChangeSpec := { name := "fnExactGatherKeys", fn := fun _ => fun
  | [d] => { results := [.lit (.bool false)], args := [d] }
  | _ => none }
def FnExactGatherKeysWrongFalsely : Prop := fnExactGatherKeysRow.holds Try.pinned (OpenSpec.ofChange fnExactGatherKeysWrong)

/-- 'laws.FnExactRoutesShared': WHATEVER THE INPUT: true; the input reads as it did. -/
def fnExactRoutesSharedSpec : ChangeSpec := { name := "fnExactRoutesShared", fn := fun _ => fun
  | [d1, d2, d3] => { results := [.lit (.bool true)], args := [d1, d2, d3] }
  | _ => none }
def fnExactRoutesSharedRow : OpenClaim := { program := "ytgbcgckkjhgchab", sum := "27e509f53c7cf6efaf30459d4a1f7554692f343b9a01a92a3b62fe331d8e69ef", func := "loop.example/g01341/laws.FnExactRoutesShared", spec := "fnExactRoutesShared", inPlace := ["(*sync.WaitGroup).Add", "internal/race.ReleaseMerge", "internal/race.Disable", "internal/race.Enable", "internal/synctest.IsInBubble", "internal/synctest.Associate[sync.WaitGroup]", "sync.fatal", "sync/atomic.OrUint64", "sync/atomic.AddUint64", "internal/race.Read", "sync/atomic.LoadUint64", "sync/atomic.StoreUint64", "internal/synctest.Disassociate[sync.WaitGroup]", "sync.runtime_Semrelease", "(*sync.WaitGroup).Done", "(*sync.WaitGroup).Wait", "internal/race.Acquire", "internal/synctest.IsAssociated[sync.WaitGroup]", "sync/atomic.CompareAndSwapUint64", "internal/race.Write", "sync.runtime_SemacquireWaitGroup"], unfollowed := true, recurses := true, leaving := true, apart := false }
def FnExactRoutesSharedSaid : Prop := fnExactRoutesSharedRow.holds Try.pinned (OpenSpec.ofChange fnExactRoutesSharedSpec)

/-- ITS FALSE NEIGHBOUR: 'it returns false'. Refute it at one input. -/
def fnExactRoutesSharedWrong : ChangeSpec := { name := "fnExactRoutesShared", fn := fun _ => fun
  | [d1, d2, d3] => { results := [.lit (.bool false)], args := [d1, d2, d3] }
  | _ => none }
def FnExactRoutesSharedWrongFalsely : Prop := fnExactRoutesSharedRow.holds Try.pinned (OpenSpec.ofChange fnExactRoutesSharedWrong)

/- THE SECOND FORM. 'bulk': how many values and letters a reading holds, each counted each time it is reached (what is shared counts as often as it is met; a slice's spare places count too). A statement '..UptoSaid' is the law's where the arguments, and the package variables that the reading takes, are together of bulk at most 1048576: NARROWER than '..Said'. Prove '..Said' where nothing that the law and all that it calls make is longer than what came in: it says more and counts as full. Else prove '..UptoSaid'. A law counts once. -/
mutual
def uptoBulk {H : Type} : DataW H → Nat
  | .lit (.string bytes) => bytes.length + 1
  | .lit _ => 1
  | .nil => 1
  | .ptr d => uptoBulk d + 1
  | .slice elems spare => uptoBulkAll elems + uptoBulkAll spare + 1
  | .agg parts => uptoBulkAll parts + 1
  | .iface _ d => uptoBulk d + 1
  | .map entries => uptoBulkEntries entries + 1
  | .held _ => 1
def uptoBulkAll {H : Type} : List (DataW H) → Nat
  | [] => 0
  | d :: r => uptoBulk d + uptoBulkAll r
def uptoBulkEntries {H : Type} : List (Lit × DataW H) → Nat
  | [] => 0
  | x :: r => uptoBulkEntry x + uptoBulkEntries r
def uptoBulkEntry {H : Type} : Lit × DataW H → Nat
  | (.string bytes, d) => bytes.length + uptoBulk d + 1
  | (_, d) => uptoBulk d + 1
 end
def uptoSmall : (H : Type) → List (DataW H) → Bool := fun _ ds => decide (uptoBulkAll ds ≤ 1048576)
def OpenSpec.upto (s : _root_.Go.ChangeSpec) : _root_.Go.OpenSpec := { _root_.Go.OpenSpec.ofChange s with cond := some uptoSmall }

/-- 'laws.FnExactKeyOf', WHERE WHAT IT READS IS OF BULK AT MOST 1048576: true; the input reads as it did. -/
def fnExactKeyOfUptoRow : OpenClaim := { program := "ytgbcgckkjhgchab", sum := "27e509f53c7cf6efaf30459d4a1f7554692f343b9a01a92a3b62fe331d8e69ef", func := "loop.example/g01341/laws.FnExactKeyOf", spec := "fnExactKeyOf", inPlace := ["math.archFloor", "math.Float64bits", "math.Float64frombits", "math.archTrunc"], apart := false, narrowed := true }
def FnExactKeyOfUptoSaid : Prop := fnExactKeyOfUptoRow.holds Try.pinned (OpenSpec.upto fnExactKeyOfSpec)

/-- 'laws.FnExactTileKey', WHERE WHAT IT READS IS OF BULK AT MOST 1048576: true; the input reads as it did. -/
def fnExactTileKeyUptoRow : OpenClaim := { program := "ytgbcgckkjhgchab", sum := "27e509f53c7cf6efaf30459d4a1f7554692f343b9a01a92a3b62fe331d8e69ef", func := "loop.example/g01341/laws.FnExactTileKey", spec := "fnExactTileKey", apart := false, narrowed := true }
def FnExactTileKeyUptoSaid : Prop := fnExactTileKeyUptoRow.holds Try.pinned (OpenSpec.upto fnExactTileKeySpec)

/-- 'laws.FnExactKeyBox', WHERE WHAT IT READS IS OF BULK AT MOST 1048576: true; the input reads as it did. -/
def fnExactKeyBoxUptoRow : OpenClaim := { program := "ytgbcgckkjhgchab", sum := "27e509f53c7cf6efaf30459d4a1f7554692f343b9a01a92a3b62fe331d8e69ef", func := "loop.example/g01341/laws.FnExactKeyBox", spec := "fnExactKeyBox", unfollowed := true, recurses := true, leaving := true, apart := false, narrowed := true }
def FnExactKeyBoxUptoSaid : Prop := fnExactKeyBoxUptoRow.holds Try.pinned (OpenSpec.upto fnExactKeyBoxSpec)

/-- 'laws.FnExactKeyParent', WHERE WHAT IT READS IS OF BULK AT MOST 1048576: true; the input reads as it did. -/
def fnExactKeyParentUptoRow : OpenClaim := { program := "ytgbcgckkjhgchab", sum := "27e509f53c7cf6efaf30459d4a1f7554692f343b9a01a92a3b62fe331d8e69ef", func := "loop.example/g01341/laws.FnExactKeyParent", spec := "fnExactKeyParent", unfollowed := true, recurses := true, leaving := true, apart := false, narrowed := true }
def FnExactKeyParentUptoSaid : Prop := fnExactKeyParentUptoRow.holds Try.pinned (OpenSpec.upto fnExactKeyParentSpec)

/-- 'laws.FnExactKeyBeside', WHERE WHAT IT READS IS OF BULK AT MOST 1048576: true; the input reads as it did. -/
def fnExactKeyBesideUptoRow : OpenClaim := { program := "ytgbcgckkjhgchab", sum := "27e509f53c7cf6efaf30459d4a1f7554692f343b9a01a92a3b62fe331d8e69ef", func := "loop.example/g01341/laws.FnExactKeyBeside", spec := "fnExactKeyBeside", unfollowed := true, recurses := true, leaving := true, apart := false, narrowed := true }
def FnExactKeyBesideUptoSaid : Prop := fnExactKeyBesideUptoRow.holds Try.pinned (OpenSpec.upto fnExactKeyBesideSpec)

/-- 'laws.FnExactPackPlaces', WHERE WHAT IT READS IS OF BULK AT MOST 1048576: true; the input reads as it did. -/
def fnExactPackPlacesUptoRow : OpenClaim := { program := "ytgbcgckkjhgchab", sum := "27e509f53c7cf6efaf30459d4a1f7554692f343b9a01a92a3b62fe331d8e69ef", func := "loop.example/g01341/laws.FnExactPackPlaces", spec := "fnExactPackPlaces", inPlace := ["math.archFloor", "math.Float64bits", "math.Float64frombits", "math.archTrunc", "math.Float32bits"], unfollowed := true, recurses := true, leaving := true, apart := false, narrowed := true }
def FnExactPackPlacesUptoSaid : Prop := fnExactPackPlacesUptoRow.holds Try.pinned (OpenSpec.upto fnExactPackPlacesSpec)

/-- 'laws.FnExactStoreTrack', WHERE WHAT IT READS IS OF BULK AT MOST 1048576: true; the input reads as it did. -/
def fnExactStoreTrackUptoRow : OpenClaim := { program := "ytgbcgckkjhgchab", sum := "27e509f53c7cf6efaf30459d4a1f7554692f343b9a01a92a3b62fe331d8e69ef", func := "loop.example/g01341/laws.FnExactStoreTrack", spec := "fnExactStoreTrack", inPlace := ["math.archFloor", "math.Float64bits", "math.Float64frombits", "math.archTrunc", "math.Float32bits"], unfollowed := true, recurses := true, leaving := true, apart := false, narrowed := true }
def FnExactStoreTrackUptoSaid : Prop := fnExactStoreTrackUptoRow.holds Try.pinned (OpenSpec.upto fnExactStoreTrackSpec)

/-- 'laws.FnExactStoreTracks', WHERE WHAT IT READS IS OF BULK AT MOST 1048576: true; the input reads as it did. -/
def fnExactStoreTracksUptoRow : OpenClaim := { program := "ytgbcgckkjhgchab", sum := "27e509f53c7cf6efaf30459d4a1f7554692f343b9a01a92a3b62fe331d8e69ef", func := "loop.example/g01341/laws.FnExactStoreTracks", spec := "fnExactStoreTracks", inPlace := ["math.archFloor", "math.Float64bits", "math.Float64frombits", "math.archTrunc", "math.Float32bits"], unfollowed := true, recurses := true, leaving := true, apart := false, narrowed := true }
def FnExactStoreTracksUptoSaid : Prop := fnExactStoreTracksUptoRow.holds Try.pinned (OpenSpec.upto fnExactStoreTracksSpec)

/-- 'laws.FnExactKeysIn', WHERE WHAT IT READS IS OF BULK AT MOST 1048576: true; the input reads as it did. -/
def fnExactKeysInUptoRow : OpenClaim := { program := "ytgbcgckkjhgchab", sum := "27e509f53c7cf6efaf30459d4a1f7554692f343b9a01a92a3b62fe331d8e69ef", func := "loop.example/g01341/laws.FnExactKeysIn", spec := "fnExactKeysIn", inPlace := ["math.archFloor", "math.Float64bits", "math.Float64frombits", "math.archTrunc"], apart := false, narrowed := true }
def FnExactKeysInUptoSaid : Prop := fnExactKeysInUptoRow.holds Try.pinned (OpenSpec.upto fnExactKeysInSpec)

/-- 'laws.FnExactGatherKeys', WHERE WHAT IT READS IS OF BULK AT MOST 1048576: true; the input reads as it did. -/
def fnExactGatherKeysUptoRow : OpenClaim := { program := "ytgbcgckkjhgchab", sum := "27e509f53c7cf6efaf30459d4a1f7554692f343b9a01a92a3b62fe331d8e69ef", func := "loop.example/g01341/laws.FnExactGatherKeys", spec := "fnExactGatherKeys", unfollowed := true, recurses := true, leaving := true, apart := false, narrowed := true }
def FnExactGatherKeysUptoSaid : Prop := fnExactGatherKeysUptoRow.holds Try.pinned (OpenSpec.upto fnExactGatherKeysSpec)

/-- 'laws.FnExactRoutesShared', WHERE WHAT IT READS IS OF BULK AT MOST 1048576: true; the input reads as it did. -/
def fnExactRoutesSharedUptoRow : OpenClaim := { program := "ytgbcgckkjhgchab", sum := "27e509f53c7cf6efaf30459d4a1f7554692f343b9a01a92a3b62fe331d8e69ef", func := "loop.example/g01341/laws.FnExactRoutesShared", spec := "fnExactRoutesShared", inPlace := ["(*sync.WaitGroup).Add", "internal/race.ReleaseMerge", "internal/race.Disable", "internal/race.Enable", "internal/synctest.IsInBubble", "internal/synctest.Associate[sync.WaitGroup]", "sync.fatal", "sync/atomic.OrUint64", "sync/atomic.AddUint64", "internal/race.Read", "sync/atomic.LoadUint64", "sync/atomic.StoreUint64", "internal/synctest.Disassociate[sync.WaitGroup]", "sync.runtime_Semrelease", "(*sync.WaitGroup).Done", "(*sync.WaitGroup).Wait", "internal/race.Acquire", "internal/synctest.IsAssociated[sync.WaitGroup]", "sync/atomic.CompareAndSwapUint64", "internal/race.Write", "sync.runtime_SemacquireWaitGroup"], unfollowed := true, recurses := true, leaving := true, apart := false, narrowed := true }
def FnExactRoutesSharedUptoSaid : Prop := fnExactRoutesSharedUptoRow.holds Try.pinned (OpenSpec.upto fnExactRoutesSharedSpec)

end Rows
end Go.Proofs.Ytgbcgckkjhgchab
