/-
  Keys: what IsKey of the program and of its model tell of a text. No condition.
-/
import Derived.Test.YtmioclcipdifpaaRow
import Derived.Laws.IdiomStrings
namespace Go.Proofs.Ytmioclcipdifpaa
open Go Go.RowKit
set_option maxRecDepth 100000

def digit4 (b : Nat) : Bool := decide (48 ≤ b ∧ b ≤ 51)
def byt (s : ByteArray) (j : Nat) : Nat := (s.data.toList.getD j 0).toNat
/-- The first m bytes are letters of keys. -/
def digs (s : ByteArray) (m : Nat) : Prop := ∀ j, j < m → digit4 (byt s j) = true
def allD (s : ByteArray) : Bool := s.data.toList.all fun b => digit4 b.toNat
def keyB (s : ByteArray) : Bool := allD s && decide (s.size ≤ 20)
theorem byt_at (s : ByteArray) (i : Nat) (h : i < s.size) : (s[i]'h).toNat = byt s i := by
  obtain ⟨⟨l⟩⟩ := s
  have hl : i < l.length := h
  unfold byt
  simp only [List.getD, List.getElem?_eq_getElem hl, Option.getD_some]
  rfl
theorem byt_lt (s : ByteArray) (i : Nat) : byt s i < 256 := UInt8.toNat_lt _
theorem allD_bad {s : ByteArray} {m : Nat} (h : m < s.size) (hb : digit4 (byt s m) = false) : allD s = false := by
  unfold allD
  rw [List.all_eq_false]
  refine ⟨s[m]'h, ?_, by rw [byt_at s m h, hb]; decide⟩
  obtain ⟨⟨l⟩⟩ := s
  exact List.getElem_mem (show m < l.length from h)
theorem allD_all {s : ByteArray} (h : digs s s.size) : allD s = true := by
  unfold allD
  rw [List.all_eq_true]
  intro x hx
  obtain ⟨⟨l⟩⟩ := s
  obtain ⟨j, hj, rfl⟩ := List.getElem_of_mem hx
  have := h j hj
  unfold byt at this
  simpa [List.getD, List.getElem?_eq_getElem hj] using this
theorem digs_more {s : ByteArray} {m : Nat} (hl : digs s m) (hb : digit4 (byt s m) = true) : digs s (m + 1) := by
  intro j hj
  by_cases hjm : j < m
  · exact hl j hjm
  · obtain rfl : j = m := by omega
    exact hb
theorem digs_of {s : ByteArray} (h : keyB s = true) : s.size ≤ 20 ∧ digs s s.size := by
  unfold keyB at h
  rw [Bool.and_eq_true, decide_eq_true_eq] at h
  refine ⟨h.2, fun j hj => ?_⟩
  cases hb : digit4 (byt s j)
  · have := allD_bad hj hb
    rw [this] at h
    exact absurd h.1 (by decide)
  · rfl
/-- The bytes of a text, in a block. -/
def URow (w : World) (g : Nat) (s : ByteArray) : Prop := ∀ j, j < s.size → w.cell? ⟨g, j, none⟩ = some (.int .u8 (byt s j : Int))
theorem URow.below {w w' : World} {g : Nat} {s : ByteArray} (h : URow w g s) (hb : Below w.heap.size w w') : URow w' g s := fun j hj => Below.keep hb (h j hj)
theorem URow.drew {w : World} {g : Nat} {s : ByteArray} (h : URow w g s) (n : Nat) : URow (w.drewN n) g s := h
theorem urow_new (w : World) (s : ByteArray) (cap : Nat) (t : TypeId) (fr : Nat × Nat) : URow (w.alloc (.cells (bytesRow s cap) t fr)) w.heap.size s := by
  intro j hj
  have hj' : j < s.data.size := hj
  rw [World.cell?_alloc_mark, bytesRow_at s cap j hj']
  obtain ⟨⟨l⟩⟩ := s
  have hl : j < l.length := hj
  unfold byt
  simp [List.getD, List.getElem?_eq_getElem hl]
theorem urow_newd (w : World) (s : ByteArray) (cap : Nat) (t : TypeId) (fr : Nat × Nat) : URow (World.drew (w.alloc (.cells (bytesRow s cap) t fr))) w.heap.size s := urow_new w s cap t fr
end Go.Proofs.Ytmioclcipdifpaa
