/-
  FnExactSumNumbers: the law's own walk. No condition.
-/
import Derived.Test.YtcgakdgfmhkpjaaDoorSum
namespace Go.Proofs.YtcgakdgfmhkpjaaDoor
open Go Go.RowKit

theorem FRow.drews {w w' : World} {a : Option Addr} {xs : List Nat} (h : FRow w a xs) (d : Drew w w') : FRow w' a xs := by
  obtain ⟨n, rfl⟩ := d; exact h.drew n
theorem below_drews {w w' : World} (d : Drew w w') : Below w.heap.size w w' := by
  obtain ⟨n, rfl⟩ := d; exact ⟨rfl, rfl, rfl, Nat.le_refl _, fun _ _ => rfl⟩
theorem below_on {w w1 w2 : World} (h : Below w.heap.size w w1) (k : Below w1.heap.size w1 w2) : Below w.heap.size w w2 := h.trans (k.mono h.size)
theorem below_over {w w1 w1' w2 : World} (h : Below w.heap.size w w1) (d : Drew w1 w1') (k : Below w1'.heap.size w1' w2) : Below w.heap.size w w2 := below_on (below_on h (below_drews d)) k
end Go.Proofs.YtcgakdgfmhkpjaaDoor
