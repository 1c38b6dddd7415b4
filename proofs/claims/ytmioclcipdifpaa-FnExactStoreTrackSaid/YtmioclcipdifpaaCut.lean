/-
The model's spec.l01Cut: the pieces of a text between the marks, as a list of strings. No premise beyond the text's size.
-/
import Derived.Test.YtmioclcipdifpaaCtn
import Derived.Test.YtmioclcipdifpaaKey
import Derived.Test.YtmioclcipdifpaaTail
import Derived.Lib.PathFns
namespace Go.Proofs.Ytmioclcipdifpaa
open Go Go.RowKit
set_option maxRecDepth 100000

/-- A list of texts, as values. -/
def sRow (L : List (List UInt8)) : List Value := L.map fun l => .string ⟨l.toArray⟩
theorem sRow_len (L : List (List UInt8)) : (sRow L).length = L.length := by simp [sRow]
theorem sRow_app {L : List (List UInt8)} {l : List UInt8} : sRow L ++ [.string ⟨l.toArray⟩] = sRow (L ++ [l]) := by simp [sRow]
theorem ext_part (s : ByteArray) (a b : Nat) : s.extract a b = ⟨((s.data.toList.drop a).take (b - a)).toArray⟩ := by
  apply ByteArray.ext
  rw [ByteArray.data_extract]
  apply Array.toList_inj.1
  rw [Array.toList_extract, List.extract_eq_take_drop]
/-- What the loop has cut when it stands at i, the last piece beginning at f. -/
structure CutAt (c : UInt8) (t : List UInt8) (L : List (List UInt8)) (f i : Nat) : Prop where
  le : f ≤ i
  cut : cutL c t = L ++ cutL c (t.drop f)
  no : ∀ j, f ≤ j → j < i → t[j]? ≠ some c
  len : L.length ≤ i
theorem CutAt.first (c : UInt8) (t : List UInt8) : CutAt c t [] 0 0 := ⟨Nat.le_refl _, by simp, fun j h1 h2 => by omega, Nat.le_refl _⟩
theorem CutAt.pass {c : UInt8} {t : List UInt8} {L : List (List UInt8)} {f i : Nat} (h : CutAt c t L f i) (hc : t[i]? ≠ some c) : CutAt c t L f (i + 1) :=
  ⟨by have := h.le; omega, h.cut, fun j h1 h2 => by
    by_cases e : j = i
    · subst e; exact hc
    · exact h.no j h1 (by omega), by have := h.len; omega⟩
theorem CutAt.piece {c : UInt8} {t : List UInt8} {L : List (List UInt8)} {f i : Nat} (h : CutAt c t L f i) : ∀ b, b ∈ (t.drop f).take (i - f) → b ≠ c := by
  intro b hb
  rw [List.mem_take_iff_getElem] at hb
  obtain ⟨j, hj, e⟩ := hb
  have hj2 : j < i - f ∧ j < (t.drop f).length := by omega
  intro he
  refine h.no (f + j) (by omega) (by omega) ?_
  rw [← he, ← e, List.getElem_drop, List.getElem?_eq_getElem]
theorem CutAt.hit {c : UInt8} {t : List UInt8} {L : List (List UInt8)} {f i : Nat} (h : CutAt c t L f i) (hi : i < t.length) (hc : t[i]? = some c) : CutAt c t (L ++ [(t.drop f).take (i - f)]) (i + 1) (i + 1) := by
  have hle := h.le
  refine ⟨Nat.le_refl _, ?_, fun j h1 h2 => by omega, by have := h.len; simp; omega⟩
  have e : t.drop f = (t.drop f).take (i - f) ++ c :: t.drop (i + 1) := by
    conv => lhs; rw [← List.take_append_drop (i - f) (t.drop f)]
    rw [List.drop_drop, show f + (i - f) = i by omega]
    congr 1
    rw [List.drop_eq_getElem_cons hi]
    rw [List.getElem?_eq_getElem hi] at hc
    rw [Option.some.inj hc]
  rw [h.cut, e, cutL_hit h.piece, ← e]
  simp
theorem CutAt.last {c : UInt8} {t : List UInt8} {L : List (List UInt8)} {f : Nat} (h : CutAt c t L f t.length) : L ++ [(t.drop f).take (t.length - f)] = cutL c t := by
  have e : (t.drop f).take (t.length - f) = t.drop f := List.take_of_length_le (by simp)
  have hp := h.piece
  rw [e] at hp
  rw [h.cut, cutL_no hp, e]
theorem byt_list (s : ByteArray) (i : Nat) (h : i < s.size) : s.data.toList[i]? = some (s[i]'h) := by
  obtain ⟨⟨l⟩⟩ := s
  have hl : i < l.length := h
  exact List.getElem?_eq_getElem hl
theorem rt_str {s : ByteArray} : ∀ u ∈ [Value.string s], u.oneCell' = true := by
  intro u hu
  simp at hu
  subst hu
  rfl
theorem str_one (w : World) (a : Value) (t : TypeId) : ∀ j u, [a][j]? = some u → (w.alloc (.cells #[a] t)).cell? ((⟨w.heap.size, 0, none⟩ : Addr).add j) = some u := by
  intro j u hj
  match j, hj with
  | 0, hj => simp at hj; subst hj; simp [Addr.add]
  | j + 1, hj => simp at hj
theorem cu_ge {w : World} {base : Nat} {e : TypeId} {size n k : Nat} {v : Value} {xs : List Value} (h : w.ownsRow base e size v n xs) (hb : v.ownBlock = some k) : base ≤ k := by
  rcases h.2 with ⟨h1, _⟩ | ⟨g, cap, cur, hv, hg, _⟩
  · rw [h1] at hb; simp [Value.ownBlock] at hb
  · rw [hv] at hb; simp [Value.ownBlock] at hb; omega
theorem cu_below {w w' : World} {base : Nat} {e : TypeId} {size : Nat} {v : Value} {n : Nat} {xs : List Value} (h : w.ownsRow base e size v n xs) (b : Below w.heap.size w w') : w'.ownsRow base e size v n xs := by
  obtain ⟨h0, h1⟩ := h
  refine ⟨h0, ?_⟩
  rcases h1 with h1 | ⟨g, cap, cur, hv, hg, hh, hr⟩
  · exact .inl h1
  · exact .inr ⟨g, cap, cur, hv, hg, (b.block g (Array.getElem?_eq_some_iff.1 hh).1).trans hh, hr⟩
end Go.Proofs.Ytmioclcipdifpaa
