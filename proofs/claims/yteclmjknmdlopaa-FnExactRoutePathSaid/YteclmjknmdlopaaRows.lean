/-
  No cell of these rows narrows 'for every input' (looked for: loops, veiled, ifaces, maps, wideKeys, modest, calm, conditions, laid).
  DERIVED. THE GIVEN ROWS OF THIS SEAT. 6 by the template 'for every input the law returns true; each argument reads behind the call as it read before'; 0 by the template 'total and deterministic' (their statements: YteclmjknmdlopaaTotals.lean).
  GIVEN WITH THE SEED: the statements are not yours to turn. If you find one false, say at which input.
  Laid BY PROGRAM, IN A SANDBOX (cutbox-rows.mjs): the forced cells as the released guide's own fill.sh prints them over the translation 3b8f5bedfdb30632… (all of the seat's roots in one cut). By AI agents, Wed Nov 11 2026. No macro, syntax, notation, axiom, sorry.
-/
import Derived.Test.YteclmjknmdlopaaChecked
import GoSem.Claim
import GoSem.ClaimJoined
import GoSem.ClaimMapViews
import Derived.JoinedTies
import Derived.KernelRfl
namespace Go.Proofs.Yteclmjknmdlopaa
/- THE CELL 'sum', in the pinned program and in every row, IS THE sha256 OF THE DUMP (.gsa) THAT YteclmjknmdlopaaProg.lean LOADS. Nothing in Lean hashes anything: it is a label: what it is worth is what the hold of that sum in a sandbox is worth. -/
noncomputable def Try.pinned : Pinned := { name := "yteclmjknmdlopaa", sum := "3b8f5bedfdb306323aa1fc4053af61d363db0dbdbfff4b184ea1bc43ad2c7cbd", checked := Try.checked }
namespace Rows
def none {H : Type} : Left H := { results := [], args := [] }

/-- 'laws.FnExactRouteLongs': WHATEVER THE INPUT: true; the input reads as it did. -/
def fnExactRouteLongsSpec : ChangeSpec := { name := "fnExactRouteLongs", fn := fun _ => fun
  | [d1, d2] => { results := [.lit (.bool true)], args := [d1, d2] }
  | _ => none }
def fnExactRouteLongsRow : OpenClaim := { program := "yteclmjknmdlopaa", sum := "3b8f5bedfdb306323aa1fc4053af61d363db0dbdbfff4b184ea1bc43ad2c7cbd", func := "loop.example/g01341/laws.FnExactRouteLongs", spec := "fnExactRouteLongs", unfollowed := true, recurses := true, apart := false }
def FnExactRouteLongsSaid : Prop := fnExactRouteLongsRow.holds Try.pinned (OpenSpec.ofChange fnExactRouteLongsSpec)

/-- ITS FALSE NEIGHBOUR: 'it returns false'. Refute it at one input. -/
def fnExactRouteLongsWrong : ChangeSpec := { name := "fnExactRouteLongs", fn := fun _ => fun
  | [d1, d2] => { results := [.lit (.bool false)], args := [d1, d2] }
  | _ => none }
def FnExactRouteLongsWrongFalsely : Prop := fnExactRouteLongsRow.holds Try.pinned (OpenSpec.ofChange fnExactRouteLongsWrong)

/-- 'laws.FnExactRoutePath': WHATEVER THE INPUT: true; the input reads as it did. -/
def fnExactRoutePathSpec : ChangeSpec := { name := "fnExactRoutePath", fn := fun _ => fun
  | [d1, d2, d3] => { results := [.lit (.bool true)], args := [d1, d2, d3] }
  | _ => none }
def fnExactRoutePathRow : OpenClaim := { program := "yteclmjknmdlopaa", sum := "3b8f5bedfdb306323aa1fc4053af61d363db0dbdbfff4b184ea1bc43ad2c7cbd", func := "loop.example/g01341/laws.FnExactRoutePath", spec := "fnExactRoutePath", unfollowed := true, recurses := true, apart := false }
def FnExactRoutePathSaid : Prop := fnExactRoutePathRow.holds Try.pinned (OpenSpec.ofChange fnExactRoutePathSpec)

/-- ITS FALSE NEIGHBOUR: 'it returns false'. Refute it at one input. -/
def fnExactRoutePathWrong : ChangeSpec := { name := "fnExactRoutePath", fn := fun _ => fun
  | [d1, d2, d3] => { results := [.lit (.bool false)], args := [d1, d2, d3] }
  | _ => none }
def FnExactRoutePathWrongFalsely : Prop := fnExactRoutePathRow.holds Try.pinned (OpenSpec.ofChange fnExactRoutePathWrong)

/-- 'laws.FnExactReachOf': WHATEVER THE INPUT: true; the input reads as it did. -/
def fnExactReachOfSpec : ChangeSpec := { name := "fnExactReachOf", fn := fun _ => fun
  | [d1, d2, d3] => { results := [.lit (.bool true)], args := [d1, d2, d3] }
  | _ => none }
def fnExactReachOfRow : OpenClaim := { program := "yteclmjknmdlopaa", sum := "3b8f5bedfdb306323aa1fc4053af61d363db0dbdbfff4b184ea1bc43ad2c7cbd", func := "loop.example/g01341/laws.FnExactReachOf", spec := "fnExactReachOf", unfollowed := true, recurses := true, apart := false }
def FnExactReachOfSaid : Prop := fnExactReachOfRow.holds Try.pinned (OpenSpec.ofChange fnExactReachOfSpec)

/-- ITS FALSE NEIGHBOUR: 'it returns false'. Refute it at one input. -/
def fnExactReachOfWrong : ChangeSpec := { name := "fnExactReachOf", fn := fun _ => fun
  | [d1, d2, d3] => { results := [.lit (.bool false)], args := [d1, d2, d3] }
  | _ => none }
def FnExactReachOfWrongFalsely : Prop := fnExactReachOfRow.holds Try.pinned (OpenSpec.ofChange fnExactReachOfWrong)

/-- 'laws.FnExactNearPlaces': WHATEVER THE INPUT: true; the input reads as it did. -/
def fnExactNearPlacesSpec : ChangeSpec := { name := "fnExactNearPlaces", fn := fun _ => fun
  | [d1, d2, d3] => { results := [.lit (.bool true)], args := [d1, d2, d3] }
  | _ => none }
def fnExactNearPlacesRow : OpenClaim := { program := "yteclmjknmdlopaa", sum := "3b8f5bedfdb306323aa1fc4053af61d363db0dbdbfff4b184ea1bc43ad2c7cbd", func := "loop.example/g01341/laws.FnExactNearPlaces", spec := "fnExactNearPlaces", inPlace := ["math.Float64frombits", "math.sqrt", "math.Float64bits"], unfollowed := true, recurses := true, apart := false }
def FnExactNearPlacesSaid : Prop := fnExactNearPlacesRow.holds Try.pinned (OpenSpec.ofChange fnExactNearPlacesSpec)

/-- ITS FALSE NEIGHBOUR: 'it returns false'. Refute it at one input. -/
def fnExactNearPlacesWrong : ChangeSpec := { name := "fnExactNearPlaces", fn := fun _ => fun
  | [d1, d2, d3] => { results := [.lit (.bool false)], args := [d1, d2, d3] }
  | _ => none }
def FnExactNearPlacesWrongFalsely : Prop := fnExactNearPlacesRow.holds Try.pinned (OpenSpec.ofChange fnExactNearPlacesWrong)

/-- 'laws.FnExactPlainNet': WHATEVER THE INPUT: true; the input reads as it did. -/
def fnExactPlainNetSpec : ChangeSpec := { name := "fnExactPlainNet", fn := fun _ => fun
  | [d1, d2] => { results := [.lit (.bool true)], args := [d1, d2] }
  | _ => none }
def fnExactPlainNetRow : OpenClaim := { program := "yteclmjknmdlopaa", sum := "3b8f5bedfdb306323aa1fc4053af61d363db0dbdbfff4b184ea1bc43ad2c7cbd", func := "loop.example/g01341/laws.FnExactPlainNet", spec := "fnExactPlainNet", unfollowed := true, recurses := true, apart := false }
def FnExactPlainNetSaid : Prop := fnExactPlainNetRow.holds Try.pinned (OpenSpec.ofChange fnExactPlainNetSpec)

/-- ITS FALSE NEIGHBOUR: 'it returns false'. Refute it at one input. -/
def fnExactPlainNetWrong : ChangeSpec := { name := "fnExactPlainNet", fn := fun _ => fun
  | [d1, d2] => { results := [.lit (.bool false)], args := [d1, d2] }
  | _ => none }
def FnExactPlainNetWrongFalsely : Prop := fnExactPlainNetRow.holds Try.pinned (OpenSpec.ofChange fnExactPlainNetWrong)

/-- 'laws.FnExactSameTracks': WHATEVER THE INPUT: true; the input reads as it did. -/
def fnExactSameTracksSpec : ChangeSpec := { name := "fnExactSameTracks", fn := fun _ => fun
  | [d1, d2] => { results := [.lit (.bool true)], args := [d1, d2] }
  | _ => none }
def fnExactSameTracksRow : OpenClaim := { program := "yteclmjknmdlopaa", sum := "3b8f5bedfdb306323aa1fc4053af61d363db0dbdbfff4b184ea1bc43ad2c7cbd", func := "loop.example/g01341/laws.FnExactSameTracks", spec := "fnExactSameTracks", inPlace := ["math.Float32bits"], unfollowed := true, recurses := true, apart := false }
def FnExactSameTracksSaid : Prop := fnExactSameTracksRow.holds Try.pinned (OpenSpec.ofChange fnExactSameTracksSpec)

/-- ITS FALSE NEIGHBOUR: 'it returns false'. Refute it at one input. -/
def fnExactSameTracksWrong : ChangeSpec := { name := "fnExactSameTracks", fn := fun _ => fun
  | [d1, d2] => { results := [.lit (.bool false)], args := [d1, d2] }
  | _ => none }
def FnExactSameTracksWrongFalsely : Prop := fnExactSameTracksRow.holds Try.pinned (OpenSpec.ofChange fnExactSameTracksWrong)

/- THE SECOND FORM. 'bulk': how many values and letters a reading holds, each counted each time it is reached (what is shared counts as often as it is met; a slice's spare places count too). A statement '..UptoSaid' is the law's where the arguments, and the package variables that the reading takes, are together of bulk at most 1048576: NARROWER than '..Said'. Prove '..Said' where nothing that the law and all that it calls make is longer than what came in: it says more and counts as full. Else prove '..UptoSaid'. A law counts once. -/
mutual
def uptoBulk {H : Type} : DataW H → Nat
  | .lit (.string bytes) => bytes.length + 1
  | .lit _ => 1
  | .nil => 1
  | .ptr d => uptoBulk d + 1
  | .slice elems spare => uptoBulkAll elems + uptoBulkAll spare + 1
  | .agg parts => uptoBulkAll parts + 1
  | .iface _ d => uptoBulk d + 1
  | .map entries => uptoBulkEntries entries + 1
  | .held _ => 1
def uptoBulkAll {H : Type} : List (DataW H) → Nat
  | [] => 0
  | d :: r => uptoBulk d + uptoBulkAll r
def uptoBulkEntries {H : Type} : List (Lit × DataW H) → Nat
  | [] => 0
  | x :: r => uptoBulkEntry x + uptoBulkEntries r
def uptoBulkEntry {H : Type} : Lit × DataW H → Nat
  | (.string bytes, d) => bytes.length + uptoBulk d + 1
  | (_, d) => uptoBulk d + 1
 end
def uptoSmall : (H : Type) → List (DataW H) → Bool := fun _ ds => decide (uptoBulkAll ds ≤ 1048576)
def OpenSpec.upto (s : _root_.Go.ChangeSpec) : _root_.Go.OpenSpec := { _root_.Go.OpenSpec.ofChange s with cond := some uptoSmall }

/-- 'laws.FnExactRouteLongs', WHERE WHAT IT READS IS OF BULK AT MOST 1048576: true; the input reads as it did. -/
def fnExactRouteLongsUptoRow : OpenClaim := { program := "yteclmjknmdlopaa", sum := "3b8f5bedfdb306323aa1fc4053af61d363db0dbdbfff4b184ea1bc43ad2c7cbd", func := "loop.example/g01341/laws.FnExactRouteLongs", spec := "fnExactRouteLongs", unfollowed := true, recurses := true, apart := false, narrowed := true }
def FnExactRouteLongsUptoSaid : Prop := fnExactRouteLongsUptoRow.holds Try.pinned (OpenSpec.upto fnExactRouteLongsSpec)

/-- 'laws.FnExactRoutePath', WHERE WHAT IT READS IS OF BULK AT MOST 1048576: true; the input reads as it did. -/
def fnExactRoutePathUptoRow : OpenClaim := { program := "yteclmjknmdlopaa", sum := "3b8f5bedfdb306323aa1fc4053af61d363db0dbdbfff4b184ea1bc43ad2c7cbd", func := "loop.example/g01341/laws.FnExactRoutePath", spec := "fnExactRoutePath", unfollowed := true, recurses := true, apart := false, narrowed := true }
def FnExactRoutePathUptoSaid : Prop := fnExactRoutePathUptoRow.holds Try.pinned (OpenSpec.upto fnExactRoutePathSpec)

/-- 'laws.FnExactReachOf', WHERE WHAT IT READS IS OF BULK AT MOST 1048576: true; the input reads as it did. -/
def fnExactReachOfUptoRow : OpenClaim := { program := "yteclmjknmdlopaa", sum := "3b8f5bedfdb306323aa1fc4053af61d363db0dbdbfff4b184ea1bc43ad2c7cbd", func := "loop.example/g01341/laws.FnExactReachOf", spec := "fnExactReachOf", unfollowed := true, recurses := true, apart := false, narrowed := true }
def FnExactReachOfUptoSaid : Prop := fnExactReachOfUptoRow.holds Try.pinned (OpenSpec.upto fnExactReachOfSpec)

/-- 'laws.FnExactNearPlaces', WHERE WHAT IT READS IS OF BULK AT MOST 1048576: true; the input reads as it did. -/
def fnExactNearPlacesUptoRow : OpenClaim := { program := "yteclmjknmdlopaa", sum := "3b8f5bedfdb306323aa1fc4053af61d363db0dbdbfff4b184ea1bc43ad2c7cbd", func := "loop.example/g01341/laws.FnExactNearPlaces", spec := "fnExactNearPlaces", inPlace := ["math.Float64frombits", "math.sqrt", "math.Float64bits"], unfollowed := true, recurses := true, apart := false, narrowed := true }
def FnExactNearPlacesUptoSaid : Prop := fnExactNearPlacesUptoRow.holds Try.pinned (OpenSpec.upto fnExactNearPlacesSpec)

/-- 'laws.FnExactPlainNet', WHERE WHAT IT READS IS OF BULK AT MOST 1048576: true; the input reads as it did. -/
def fnExactPlainNetUptoRow : OpenClaim := { program := "yteclmjknmdlopaa", sum := "3b8f5bedfdb306323aa1fc4053af61d363db0dbdbfff4b184ea1bc43ad2c7cbd", func := "loop.example/g01341/laws.FnExactPlainNet", spec := "fnExactPlainNet", unfollowed := true, recurses := true, apart := false, narrowed := true }
def FnExactPlainNetUptoSaid : Prop := fnExactPlainNetUptoRow.holds Try.pinned (OpenSpec.upto fnExactPlainNetSpec)

/-- 'laws.FnExactSameTracks', WHERE WHAT IT READS IS OF BULK AT MOST 1048576: true; the input reads as it did. -/
def fnExactSameTracksUptoRow : OpenClaim := { program := "yteclmjknmdlopaa", sum := "3b8f5bedfdb306323aa1fc4053af61d363db0dbdbfff4b184ea1bc43ad2c7cbd", func := "loop.example/g01341/laws.FnExactSameTracks", spec := "fnExactSameTracks", inPlace := ["math.Float32bits"], unfollowed := true, recurses := true, apart := false, narrowed := true }
def FnExactSameTracksUptoSaid : Prop := fnExactSameTracksUptoRow.holds Try.pinned (OpenSpec.upto fnExactSameTracksSpec)

end Rows
end Go.Proofs.Yteclmjknmdlopaa
