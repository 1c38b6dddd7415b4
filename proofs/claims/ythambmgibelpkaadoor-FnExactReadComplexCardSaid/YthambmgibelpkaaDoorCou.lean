/-
CountOutputs of the model: how many lines are no or what. No premise beyond the text's size.
-/
import Derived.Test.YthambmgibelpkaaDoorCut
import Derived.Deep.RegionWith
namespace Go.Proofs.YthambmgibelpkaaDoor
open Go Go.RowKit
set_option maxRecDepth 100000

theorem cu_shf {w : World} {base : Nat} {e : TypeId} {size : Nat} {v : Value} {n : Nat} {xs : List Value} (h : w.ownsRow base e size v n xs) (h0 : 0 < n) : ∃ g cap, v = .slice (some ⟨g, 0, none⟩) n cap ∧ base ≤ g ∧ g < w.heap.size ∧ n ≤ cap := by
  obtain ⟨_, h2⟩ := h
  rcases h2 with ⟨_, hz⟩ | ⟨g, cap, cur, hv, hg, hh, hn, hc, _⟩
  · omega
  · exact ⟨g, cap, hv, hg, (Array.getElem?_eq_some_iff.1 hh).1, hn⟩
/-- A list of texts lies in a block. -/
def TRow (w : World) (g : Nat) (L : List (List UInt8)) : Prop := ∀ j, j < L.length → w.cell? ⟨g, j, none⟩ = some (.string ⟨(L.getD j []).toArray⟩)
theorem TRow.below {w w' : World} {g : Nat} {L : List (List UInt8)} (h : TRow w g L) (b : Below w.heap.size w w') : TRow w' g L := fun j hj => Below.keep b (h j hj)
theorem trow_own {w : World} {base g n cap : Nat} {e : TypeId} {L : List (List UInt8)} (h : w.ownsRow base e 1 (.slice (some ⟨g, 0, none⟩) n cap) n (sRow L)) : TRow w g L := by
  intro j hj
  have hl : n = L.length := by have := h.1; rw [sRow_len] at this; omega
  have := h.cellAt j (by omega)
  rw [this]
  unfold sRow
  rw [List.getElem?_map, List.getD, List.getElem?_eq_getElem hj]
  rfl
theorem trow_pre {w : World} {g : Nat} {L M : List (List UInt8)} (h : TRow w g (L ++ M)) : TRow w g L := by
  intro j hj
  have := h j (by rw [List.length_append]; omega)
  rw [this]
  have e : (L ++ M).getD j [] = L.getD j [] := by simp [List.getD, List.getElem?_append_left hj]
  rw [e]
/-- The lines of a text and what is left. -/
theorem cut_split (c : UInt8) (t : List UInt8) : ∃ (L : List (List UInt8)) (r : List UInt8), cutL c t = L ++ [r] ∧ r = (cutL c t).getLast (cutL_ne c t) := by
  refine ⟨(cutL c t).dropLast, _, (List.dropLast_concat_getLast (cutL_ne c t)).symm, rfl⟩
/-- no or what -/
def bdL (l : List UInt8) : Bool := decide (l = [110, 111] ∨ l = [119, 104, 97, 116])
def bdC (L : List (List UInt8)) : Nat → Nat
  | 0 => 0
  | k + 1 => bdC L k + (if bdL (L.getD k []) then 1 else 0)
theorem bdC_le (L : List (List UInt8)) : ∀ k, bdC L k ≤ k := by
  intro k
  induction k with
  | zero => exact Nat.le_refl _
  | succ k ih => unfold bdC; split <;> omega
abbrev coT (a b : Int) (ok : Bool) : Value := .tuple #[.int .i64 a, .int .i64 b, .bool ok]
end Go.Proofs.YthambmgibelpkaaDoor
