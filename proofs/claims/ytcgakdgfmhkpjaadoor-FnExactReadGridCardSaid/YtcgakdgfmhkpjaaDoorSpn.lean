/-
strings.SplitN at one byte: the same pieces as the model's, or one more than asked. No memory.
-/
import Derived.Test.YtcgakdgfmhkpjaaDoorCut
namespace Go.Proofs.YtcgakdgfmhkpjaaDoor
open Go Go.RowKit
set_option maxRecDepth 100000

theorem splitK_more (c : UInt8) : ∀ (k : Nat) (l : List UInt8), Lib.count l [c] ≤ k → Lib.splitK [c] 0 k l = Lib.splitK [c] 0 (Lib.count l [c]) l
  | 0, l, h => by rw [Nat.le_zero.1 h]
  | k + 1, l, h => by
    by_cases hm : Lib.index l [c] = -1
    · rw [Lib.count_miss hm, Lib.splitK, Lib.splitK, if_pos (beq_iff_eq.2 hm)]
    · have hge := Lib.index_ge l [c]
      obtain ⟨i, hi⟩ : ∃ i : Nat, Lib.index l [c] = i := ⟨(Lib.index l [c]).toNat, by omega⟩
      have hc := Lib.count_hit (by simp) hi
      have hn : ¬ (Lib.index l [c] == -1) = true := fun e => hm (beq_iff_eq.1 e)
      rw [hc, Nat.add_comm 1, Lib.splitK, Lib.splitK, if_neg hn, if_neg hn, hi]
      rw [show ((i : Int)).toNat = i by omega]
      rw [splitK_more c k _ (by omega)]
theorem splitK_less (c : UInt8) : ∀ (k : Nat) (l : List UInt8), k ≤ Lib.count l [c] → (Lib.splitK [c] 0 k l).length = k + 1
  | 0, l, h => rfl
  | k + 1, l, h => by
    by_cases hm : Lib.index l [c] = -1
    · rw [Lib.count_miss hm] at h; omega
    · have hge := Lib.index_ge l [c]
      obtain ⟨i, hi⟩ : ∃ i : Nat, Lib.index l [c] = i := ⟨(Lib.index l [c]).toNat, by omega⟩
      have hc := Lib.count_hit (by simp) hi
      have hn : ¬ (Lib.index l [c] == -1) = true := fun e => hm (beq_iff_eq.1 e)
      rw [Lib.splitK, if_neg hn, hi, List.length_cons]
      rw [show ((i : Int)).toNat = i by omega]
      rw [splitK_less c k _ (by omega)]
theorem cutL_count (c : UInt8) (l : List UInt8) : (cutL c l).length = Lib.count l [c] + 1 := by
  rw [← splitK_cut c l, splitK_less c _ l (Nat.le_refl _)]
theorem count_len (c : UInt8) (l : List UInt8) : Lib.count l [c] ≤ l.length := by rw [Lib.count_one]; exact List.count_le_length
/-- The words that SplitN gives. -/
def wdN (c : UInt8) (n : Nat) (s : ByteArray) : List ByteArray := Lib.splitB ⟨#[c]⟩ 0 (min n (s.size + 1) - 1) s
theorem wdN_map (c : UInt8) (n : Nat) (s : ByteArray) : (wdN c n s).map (·.data.toList) = Lib.splitK [c] 0 (min n (s.size + 1) - 1) s.data.toList := Lib.splitB_data ⟨#[c]⟩ 0 _ s
theorem wdN_all {c : UInt8} {n : Nat} {s : ByteArray} (h : (cutL c s.data.toList).length ≤ n) : (wdN c n s).map Value.string = sRow (cutL c s.data.toList) := by
  have h1 := cutL_count c s.data.toList
  have h2 := count_len c s.data.toList
  have h3 : s.data.toList.length = s.size := rfl
  have h4 := wdN_map c n s
  rw [splitK_more c _ _ (by omega), splitK_cut] at h4
  rw [← h4]
  simp [sRow]
theorem wdN_most {c : UInt8} {n : Nat} {s : ByteArray} (h0 : 1 ≤ n) (h : n ≤ (cutL c s.data.toList).length) : (wdN c n s).length = n := by
  have h1 := cutL_count c s.data.toList
  have h2 := count_len c s.data.toList
  have h3 : s.data.toList.length = s.size := rfl
  have h4 := congrArg List.length (wdN_map c n s)
  rw [List.length_map, splitK_less c _ _ (by omega)] at h4
  omega
theorem wdN_len {c : UInt8} {n : Nat} {s : ByteArray} (h : (cutL c s.data.toList).length ≤ n) : (wdN c n s).length = (cutL c s.data.toList).length := by
  have := congrArg List.length (wdN_all h)
  rw [List.length_map, sRow_len] at this
  exact this
theorem wdN_cap (c : UInt8) (n : Nat) (s : ByteArray) : (wdN c n s).length ≤ min n (s.size + 1) - 1 + 1 := Lib.splitB_length_le _ _ _ _
theorem cells_at {l : List ByteArray} {N j : Nat} (h : j < l.length) : (Lib.cellsOf l N)[j]? = some (.string (l[j]'h)) := by
  unfold Lib.cellsOf
  rw [List.getElem?_toArray, List.getElem?_append_left (by simpa using h)]
  simp [h]
theorem wdN_cell {w : World} {c : UInt8} {n : Nat} {s : ByteArray} (t : TypeId) (h : (cutL c s.data.toList).length ≤ n) {j : Nat} (hj : j < (cutL c s.data.toList).length) : (w.alloc (.cells (Lib.cellsOf (wdN c n s) (min n (s.size + 1))) t)).cell? ⟨w.heap.size, j, none⟩ = some (.string ⟨((cutL c s.data.toList).getD j []).toArray⟩) := by
  have hl := wdN_len h
  have h1 := cells_at (l := wdN c n s) (N := min n (s.size + 1)) (j := j) (by omega)
  have h2 : ((wdN c n s).map Value.string)[j]? = some (.string ((wdN c n s)[j]'(by omega))) := by rw [List.getElem?_map, List.getElem?_eq_getElem (by omega)]; rfl
  rw [wdN_all h] at h2
  unfold sRow at h2
  rw [List.getElem?_map, List.getElem?_eq_getElem hj] at h2
  have h3 : ⟨((cutL c s.data.toList).getD j []).toArray⟩ = (wdN c n s)[j]'(by omega) := by
    simp only [List.getD, List.getElem?_eq_getElem hj]
    exact Value.string.inj (Option.some.inj h2)
  rw [h3]
  simpa [go_sem] using h1
end Go.Proofs.YtcgakdgfmhkpjaaDoor
