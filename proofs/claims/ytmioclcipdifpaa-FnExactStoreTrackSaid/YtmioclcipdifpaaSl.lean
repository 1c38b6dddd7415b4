/-
  Slices of float32: what 'toFloat32S' copies. No premise beyond those named.
-/
import Derived.Test.YtmioclcipdifpaaCn
namespace Go.Proofs.Ytmioclcipdifpaa
open Go Go.RowKit

/-- The words of a slice of float32s, in a world. -/
def FRow (w : World) (a : Option Addr) (xs : List Nat) : Prop := ∀ i, i < xs.length → ∃ p, a = some p ∧ w.cell? (p.add i) = some (.float .f32 (xs.getD i 0))
def fls (xs : List Nat) : List Value := xs.map (.float .f32)
theorem i_ext2 {a b : Int} {k : IntKind} (h : a = b) : Value.int k a = .int k b := by rw [h]
theorem addr_add (p : Addr) (i : Nat) : (p.add i).block = p.block := by unfold Addr.add; split <;> rfl
theorem addr_lt {w : World} {p : Addr} {i : Nat} {v : Value} (h : w.cell? (p.add i) = some v) : (p.add i).block < w.heap.size := block_lt_of_cell h
theorem add_at (g i : Nat) : (⟨g, 0, none⟩ : Addr).add i = ⟨g, i, none⟩ := by
  unfold Addr.add
  split
  · next h => rw [h]
  · simp
structure Hf (p : Prop) : Prop where
  out : p
theorem FRow.below {w w' : World} {a : Option Addr} {xs : List Nat} (h : FRow w a xs) (hb : Below w.heap.size w w') : FRow w' a xs := by
  intro i hi
  obtain ⟨p, hp, hc⟩ := h i hi
  exact ⟨p, hp, by rw [hb.cell (addr_lt hc)]; exact hc⟩
theorem fls_of {xs : List Nat} {cur : List Value} (hl : cur.length = xs.length) (h : ∀ j, j < xs.length → cur[j]? = some (.float .f32 (xs.getD j 0))) : cur = fls xs := by
  apply List.ext_getElem?
  intro j
  by_cases hj : j < xs.length
  · rw [h j hj]; simp [fls, List.getElem?_map, List.getElem?_eq_getElem hj]
  · rw [List.getElem?_eq_none (by omega), List.getElem?_eq_none (by simp [fls]; omega)]
theorem frow_own {w : World} {base g n cap : Nat} {xs : List Nat} {e : TypeId} (hn : n = xs.length) (h : w.ownsRow base e 1 (.slice (some ⟨g, 0, none⟩) n cap) n (fls xs)) : FRow w (some ⟨g, 0, none⟩) xs := by
  intro i hi
  refine ⟨_, rfl, ?_⟩
  have := h.cellAt i (by omega)
  rw [add_at, this]
  simp [fls, List.getElem?_map, List.getElem?_eq_getElem hi]
end Go.Proofs.Ytmioclcipdifpaa
