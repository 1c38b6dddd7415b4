/-
ReadComplex: what is read, as numbers: words of sixteen digits.
-/
import Derived.Test.YthambmgibelpkaaDoorRnp
import Derived.Test.YthambmgibelpkaaDoorCqw
namespace Go.Proofs.YthambmgibelpkaaDoor
open Go Go.RowKit
set_option maxRecDepth 100000

/-- a word says a complex number; its parts -/
def cwOk (l : List UInt8) : Bool := decide (l.length = 16) && (hwOk (l.take 8) && hwOk (l.drop 8))
def cwP (l : List UInt8) : Nat × Nat := (hval (l.take 8), hval (l.drop 8))
theorem cwOk_len {l : List UInt8} (h : l.length ≠ 16) : cwOk l = false := by unfold cwOk; rw [decide_eq_false h]; rfl
theorem cwOk_two {l : List UInt8} (h : l.length = 16) : cwOk l = (hwOk (l.take 8) && hwOk (l.drop 8)) := by unfold cwOk; rw [decide_eq_true h]; rfl
def okC (W : List (List UInt8)) : Bool := decide (W.length ≤ 256) && W.all cwOk
def numC (W : List (List UInt8)) : List (Nat × Nat) := W.map cwP
theorem numC_len (W : List (List UInt8)) : (numC W).length = W.length := by simp [numC]
theorem numC_at {W : List (List UInt8)} {m : Nat} (h : m < W.length) : (numC W).getD m (0, 0) = cwP (W.getD m []) := by
  unfold numC
  simp [List.getD, List.getElem?_map, List.getElem?_eq_getElem h]
theorem takeC_up {xs : List (Nat × Nat)} {m : Nat} {x : Nat × Nat} (hm : m < xs.length) (hx : xs.getD m (0, 0) = x) : cxs (xs.take m) ++ [.complex .f32 x.1 x.2] = cxs (xs.take (m + 1)) := by
  have e : xs.take (m + 1) = xs.take m ++ [x] := by
    rw [List.take_succ_eq_append_getElem hm]
    simp [List.getD, List.getElem?_eq_getElem hm] at hx
    rw [hx]
  rw [e]
  unfold cxs
  rw [List.map_append]
  rfl
def upC (W : List (List UInt8)) (m : Nat) : Prop := ∀ j, j < m → cwOk (W.getD j []) = true
theorem upC.up {W : List (List UInt8)} {m : Nat} (h : upC W m) (h1 : cwOk (W.getD m []) = true) : upC W (m + 1) := fun j hj => by
  by_cases e : j = m
  · subst e; exact h1
  · exact h j (by omega)
theorem okC_yes {W : List (List UInt8)} (h : upC W W.length) (h64 : W.length ≤ 256) : okC W = true := by
  unfold okC
  rw [Bool.and_eq_true, List.all_eq_true]
  refine ⟨decide_eq_true h64, fun x hx => ?_⟩
  obtain ⟨j, hj, rfl⟩ := List.mem_iff_getElem.1 hx
  have := h j hj
  rwa [List.getD, List.getElem?_eq_getElem hj] at this
theorem okC_no {W : List (List UInt8)} {m : Nat} (hm : m < W.length) (h : cwOk (W.getD m []) = false) : okC W = false := by
  rw [Bool.eq_false_iff]
  intro e
  unfold okC at e
  rw [Bool.and_eq_true, List.all_eq_true] at e
  have := e.2 _ (show W.getD m [] ∈ W by rw [List.getD, List.getElem?_eq_getElem hm]; exact List.getElem_mem hm)
  rw [h] at this
  cases this
theorem okC_long {W : List (List UInt8)} (h : 256 < W.length) : okC W = false := by
  unfold okC
  rw [decide_eq_false (by omega)]; rfl
def rcO (l : List UInt8) : Bool := decide (l = noneL) || okC (cutL 44 l)
def rcX (l : List UInt8) : List (Nat × Nat) := if l = noneL then [] else if okC (cutL 44 l) then numC (cutL 44 l) else []
theorem rc_none {l : List UInt8} (h : l = noneL) : rcO l = true ∧ rcX l = [] := by
  unfold rcO rcX
  rw [if_pos h, decide_eq_true h]
  exact ⟨rfl, rfl⟩
theorem rc_no {l : List UInt8} (h : l ≠ noneL) (hk : okC (cutL 44 l) = false) : rcO l = false ∧ rcX l = [] := by
  unfold rcO rcX
  rw [if_neg h, decide_eq_false h, hk]
  exact ⟨rfl, rfl⟩
theorem rc_yes {l : List UInt8} (h : l ≠ noneL) (hk : okC (cutL 44 l) = true) : rcO l = true ∧ rcX l = numC (cutL 44 l) := by
  unfold rcO rcX
  rw [if_neg h, hk]
  exact ⟨by simp, rfl⟩
theorem rcX_len (l : List UInt8) : (rcX l).length ≤ 256 := by
  unfold rcX
  split
  · exact Nat.zero_le _
  · split
    · next h =>
      unfold okC at h
      rw [Bool.and_eq_true] at h
      rw [numC_len]
      exact of_decide_eq_true h.1
    · exact Nat.zero_le _
theorem rcX_fl (l : List UInt8) : FlC (rcX l) := by
  intro j hj
  unfold rcX at hj ⊢
  split at hj
  · simp at hj
  · next h0 =>
    rw [if_neg h0]
    split at hj
    · next h =>
      rw [if_pos h]
      rw [numC_len] at hj
      rw [numC_at hj]
      unfold okC at h
      rw [Bool.and_eq_true, List.all_eq_true] at h
      have h2 := h.2 _ (show (cutL 44 l).getD j [] ∈ cutL 44 l by rw [List.getD, List.getElem?_eq_getElem hj]; exact List.getElem_mem hj)
      unfold cwOk at h2
      rw [Bool.and_eq_true, Bool.and_eq_true] at h2
      exact ⟨hwOk_fl h2.2.1, hwOk_fl h2.2.2⟩
    · simp at hj
theorem RLy.nilC {T : TypeId} {w w' : World} (b : Below w.heap.size w w') : RLy T false (cxs []) w (.returned (.tuple #[.slice none 0 0, .bool false])) w' := ⟨⟨_, rfl, World.ownsRow_nil _ _ _ _⟩, b⟩
theorem ext_lo (A : ByteArray) : (A.extract 0 8).data.toList = A.data.toList.take 8 := by
  rw [ext_part]
  simp
theorem ext_hi (A : ByteArray) (h : A.size = 16) : (A.extract 8 A.size).data.toList = A.data.toList.drop 8 := by
  rw [ext_part]
  have : A.data.toList.length = A.size := rfl
  show (A.data.toList.drop 8).take (A.size - 8) = _
  rw [List.take_of_length_le (by rw [List.length_drop]; omega)]
end Go.Proofs.YthambmgibelpkaaDoor
