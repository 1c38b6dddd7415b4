/-
  What laws over new lists and grids ask of the answers. No premise.
-/
import Derived.Test.YtcgakdgfmhkpjaaDoorFla
namespace Go.Proofs.YtcgakdgfmhkpjaaDoor
open Go Go.RowKit
set_option maxRecDepth 100000

/-- 'returns a new grid whose heights are told, these values, and true' -/
def RGx (T : TypeId) (ok : Bool) (wd hg : Int) (n : Nat) (h : Nat → Nat) (ex : Array Value) (w : World) (e : Ending) (w' : World) : Prop :=
  match ok with
  | true => (∃ g cap, e = .returned (.tuple (#[gd wd hg (sl g n cap)] ++ ex ++ #[.bool true])) ∧ Own w' w.heap.size T g cap n h) ∧ Below w.heap.size w w'
  | false => e = .returned (.tuple (#[gd 0 0 (.slice none 0 0)] ++ ex ++ #[.bool false])) ∧ Below w.heap.size w w'
theorem RG.x {T : TypeId} {ok : Bool} {wd hg : Int} {n : Nat} {h : Nat → Nat} {w w' : World} {e : Ending} (r : RG T ok wd hg n h w e w') : RGx T ok wd hg n h #[] w e w' := by
  cases ok
  · exact r.f
  · exact r.t
/-- 'returns a new list of these values and true, or nothing and false' -/
def RLx (T : TypeId) (ok : Bool) (vs : List Value) (w : World) (e : Ending) (w' : World) : Prop :=
  match ok with
  | true => (∃ g cap, e = .returned (.tuple #[sl g vs.length cap, .bool true]) ∧ w'.ownsRow w.heap.size T 1 (sl g vs.length cap) vs.length vs) ∧ Below w.heap.size w w'
  | false => e = .returned (.tuple #[.slice none 0 0, .bool false]) ∧ Below w.heap.size w w'
end Go.Proofs.YtcgakdgfmhkpjaaDoor
