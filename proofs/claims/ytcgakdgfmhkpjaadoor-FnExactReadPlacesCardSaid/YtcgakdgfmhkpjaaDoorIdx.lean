/-
  Indices of places of a grid, of the program and of the model; ValidGrid of the model. No premise beyond those named.
-/
import Derived.Test.YtcgakdgfmhkpjaaDoorGmb
import Derived.Deep.QuietTactic
namespace Go.Proofs.YtcgakdgfmhkpjaaDoor
open Go Go.RowKit
set_option maxRecDepth 100000

def idxB (i : Int) (n : Nat) : Bool := decide (0 ≤ i ∧ i < (n : Int))
theorem idxB_of {i : Int} {n : Nat} (h : idxB i n = true) : ∃ j : Nat, i = (j : Int) ∧ j < n := by
  unfold idxB at h
  rw [decide_eq_true_iff] at h
  exact ⟨i.toNat, by omega, by omega⟩
end Go.Proofs.YtcgakdgfmhkpjaaDoor
