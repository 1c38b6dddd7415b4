/-
  The ways of two and of three valid places, as the program lays them in a slice. No condition beyond those named.
-/
import Derived.Test.YtjjhklfpdllijabVec
namespace Go.Proofs.Ytjjhklfpdllijab
open Go Go.RowKit
set_option maxRecDepth 100000

def vals (W : List Nat) (m j : Nat) : Nat := if j < 3 * m then W.getD j 0 else 0
def RWs (W : List Nat) (k : Nat) (w : World) (e : Ending) (w' : World) : Prop := e = .returned (.tuple #[.slice (some ⟨w.heap.size, 0, none⟩) k k, .bool true]) ∧ Below w.heap.size w w' ∧ w.heap.size < w'.heap.size ∧ ∀ j, j < 3 * k → w'.cell? ⟨w.heap.size, j, none⟩ = some (.float .f32 (W.getD j 0))
def RNo (w : World) (e : Ending) (w' : World) : Prop := e = .returned (.tuple #[.slice none 0 0, .bool false]) ∧ Below w.heap.size w w'
end Go.Proofs.Ytjjhklfpdllijab
