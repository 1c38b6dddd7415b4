/-
  Grids of the heights that a function tells, of the program and of the model. No premise beyond those named.
-/
import Derived.Test.YtcgakdgfmhkpjaaDoorIdx
namespace Go.Proofs.YtcgakdgfmhkpjaaDoor
open Go Go.RowKit
set_option maxRecDepth 100000

/-- 'returns a new grid whose heights are told, and true, or nothing and false' -/
def RG (T : TypeId) (ok : Bool) (wd hg : Int) (n : Nat) (h : Nat → Nat) (w : World) (e : Ending) (w' : World) : Prop :=
  (ok = true ∧ (∃ g cap, e = .returned (.tuple #[gd wd hg (sl g n cap), .bool true]) ∧ Own w' w.heap.size T g cap n h) ∧ Below w.heap.size w w') ∨ (ok = false ∧ e = .returned (.tuple #[gd 0 0 (.slice none 0 0), .bool false]) ∧ Below w.heap.size w w')
theorem RG.no {T : TypeId} {ok : Bool} {wd hg : Int} {n : Nat} {h : Nat → Nat} {w w' : World} (ho : ok = false) (b : Below w.heap.size w w') : RG T ok wd hg n h w (.returned (.tuple #[gd 0 0 (.slice none 0 0), .bool false])) w' := .inr ⟨ho, rfl, b⟩
theorem RG.t {T : TypeId} {wd hg : Int} {n : Nat} {h : Nat → Nat} {w w' : World} {e : Ending} (r : RG T true wd hg n h w e w') : (∃ g cap, e = .returned (.tuple #[gd wd hg (sl g n cap), .bool true]) ∧ Own w' w.heap.size T g cap n h) ∧ Below w.heap.size w w' := by
  rcases r with ⟨_, h1, h2⟩ | ⟨h, _⟩
  · exact ⟨h1, h2⟩
  · cases h
theorem RG.f {T : TypeId} {wd hg : Int} {n : Nat} {h : Nat → Nat} {w w' : World} {e : Ending} (r : RG T false wd hg n h w e w') : e = .returned (.tuple #[gd 0 0 (.slice none 0 0), .bool false]) ∧ Below w.heap.size w w' := by
  rcases r with ⟨h, _⟩ | ⟨_, h1, h2⟩
  · cases h
  · exact ⟨h1, h2⟩
end Go.Proofs.YtcgakdgfmhkpjaaDoor
