/-
  IsName, of the program and of its model, compute the same Lean function; its exact law. No condition.
-/
import Derived.Test.YtmioclcipdifpaaCn
namespace Go.Proofs.Ytmioclcipdifpaa
open Go Go.RowKit

structure Hdn (p : Prop) : Prop where
  out : p
def letter (b : Nat) : Bool := decide (97 ≤ b ∧ b ≤ 122)
/-- The first m bytes are small letters. -/
def lets (s : ByteArray) (m : Nat) : Prop := ∀ j, j < m → letter (s.data.toList.getD j 0).toNat = true
def nameB (s : ByteArray) : Bool := (s.data.toList.all fun b => letter b.toNat) && decide (1 ≤ s.size ∧ s.size ≤ 8)
theorem byteAt (s : ByteArray) (i : Nat) (h : i < s.size) : s[i]'h = s.data.toList.getD i 0 := by
  obtain ⟨⟨l⟩⟩ := s
  have hl : i < l.length := h
  simp only [List.getD, List.getElem?_eq_getElem hl, Option.getD_some]
  rfl
theorem nameB_bad {s : ByteArray} {m : Nat} (h : m < s.size) (hb : letter (s[m]'h).toNat = false) : nameB s = false := by
  unfold nameB
  have : (s.data.toList.all fun b => letter b.toNat) = false := by
    rw [List.all_eq_false]
    refine ⟨s[m]'h, ?_, by rw [hb]; decide⟩
    obtain ⟨⟨l⟩⟩ := s
    exact List.getElem_mem (show m < l.length from h)
  rw [this, Bool.false_and]
theorem nameB_size {s : ByteArray} (h : ¬ (1 ≤ s.size ∧ s.size ≤ 8)) : nameB s = false := by
  unfold nameB; rw [decide_eq_false h, Bool.and_false]
theorem nameB_all {s : ByteArray} (h : lets s s.size) : nameB s = decide (1 ≤ s.size ∧ s.size ≤ 8) := by
  unfold nameB
  have : (s.data.toList.all fun b => letter b.toNat) = true := by
    rw [List.all_eq_true]
    intro x hx
    obtain ⟨⟨l⟩⟩ := s
    obtain ⟨j, hj, rfl⟩ := List.getElem_of_mem hx
    have := h j hj
    simpa [List.getD, List.getElem?_eq_getElem hj] using this
  rw [this, Bool.true_and]
theorem lets_more {s : ByteArray} {m : Nat} (h : m < s.size) (hl : lets s m) (hb : letter (s[m]'h).toNat = true) : lets s (m + 1) := by
  intro j hj
  by_cases hjm : j < m
  · exact hl j hjm
  · obtain rfl : j = m := by omega
    rw [← byteAt s j h]; exact hb
theorem iName_any (s : ByteArray) (w : World) : Calls Try.prog 26 #[.string s] w (fun e w' => e = .returned (.bool (nameB s)) ∧ Below w.heap.size w w') := by
  have hB : ∀ p, Below w.heap.size w (w.iter s p) := fun p => (Below.refl _ w).alloc (Nat.le_refl _) _
  have KB := Hdn.mk hB
  clear hB
  by_cases h1 : (s.size : Int) < 1
  · have K := Hdn.mk (nameB_size (s := s) (by omega))
    go_enter Try.func26, Try.ntmps26
    go_wp2
    go_ret
    rw [K.out]
    exact ⟨rfl, by first | exact KB.out _ | exact Below.refl _ _⟩
  · by_cases h8 : 8 < (s.size : Int)
    · have K := Hdn.mk (nameB_size (s := s) (by omega))
      go_enter Try.func26, Try.ntmps26
      go_wp2
      go_ret
      rw [K.out]
      exact ⟨rfl, by first | exact KB.out _ | exact Below.refl _ _⟩
    · go_enter Try.func26, Try.ntmps26
      go_wp2
      go_loopw [] (fun w' => ∃ m : Nat, m ≤ s.size ∧ Hdn (lets s m) ∧ w' = w.iter s m) (fun w' => s.size - w'.iterPos w.heap.size)
      case atStart => exact ⟨0, by omega, ⟨fun j hj => absurd hj (Nat.not_lt_zero j)⟩, rfl⟩
      case round =>
        obtain ⟨m, hm, hl, rfl⟩ := hrel
        by_cases hlt : m < s.size
        · by_cases hh : 128 ≤ (s[m]'hlt).toNat
          · have hnx : ∀ ty, (Instr.next (.pointer (some ⟨w.heap.size, 0, none⟩)) true ty).run Try.prog (w.iter s m) = _ := fun ty => run_next_any w s m ty hlt
            obtain ⟨g, _⟩ := decode_high s m hlt hh
            have K := Hdn.mk (nameB_bad hlt (by unfold letter; exact decide_eq_false (by omega)))
            go_wp2
            go_ret
            rw [K.out]
            exact ⟨rfl, by first | exact KB.out _ | exact Below.refl _ _⟩
          · have hnx : ∀ ty, (Instr.next (.pointer (some ⟨w.heap.size, 0, none⟩)) true ty).run Try.prog (w.iter s m) = _ := fun ty => run_next_ascii w s m ty hlt (by omega)
            by_cases ha : (s[m]'hlt).toNat < 97
            · have K := Hdn.mk (nameB_bad hlt (by unfold letter; exact decide_eq_false (by omega)))
              go_wp2
              go_ret
              rw [K.out]
              exact ⟨rfl, by first | exact KB.out _ | exact Below.refl _ _⟩
            · by_cases hz : 122 < (s[m]'hlt).toNat
              · have K := Hdn.mk (nameB_bad hlt (by unfold letter; exact decide_eq_false (by omega)))
                go_wp2
                go_ret
                rw [K.out]
                exact ⟨rfl, by first | exact KB.out _ | exact Below.refl _ _⟩
              · have K := Hdn.mk (lets_more hlt hl.out (by unfold letter; exact decide_eq_true (by omega)))
                go_wp2
                go_roundw
                case rel => exact ⟨m + 1, by omega, K, rfl⟩
                case measure => simp; omega
        · have hnx : ∀ ty, (Instr.next (.pointer (some ⟨w.heap.size, 0, none⟩)) true ty).run Try.prog (w.iter s m) = _ := fun ty => run_next_end w s m ty hlt
          obtain rfl : m = s.size := by omega
          have K := Hdn.mk (nameB_all hl.out)
          go_wp2
          go_ret
          rw [K.out, decide_eq_true (by omega)]
          exact ⟨rfl, by first | exact KB.out _ | exact Below.refl _ _⟩
end Go.Proofs.Ytmioclcipdifpaa
