/-
  The parent of a key, of the program and of its model; the exact law KeyParent. No condition.
-/
import Derived.Test.YtgbcgckkjhgchabKey
namespace Go.Proofs.Ytgbcgckkjhgchab
open Go Go.RowKit
set_option maxRecDepth 100000

abbrev stT (s : ByteArray) (ok : Bool) : Value := .tuple #[.string s, .bool ok]
def front (s : ByteArray) : ByteArray := s.extract 0 (s.size - 1)
theorem sKeyParent_no {s : ByteArray} (hs : s.size ≤ 1048576) (hk : keyB s = false ∨ s.size = 0) (w : World) : Calls Try.prog 22 #[.string s] w (RT (stT ⟨#[]⟩ false) w) := by
  have HI := Hf.mk (l07Is_any s hs)
  cases hb : keyB s
  · rw [hb] at HI
    clear hk
    go_enter Try.func22, Try.ntmps22
    go_wp2_with (first | (go_at_call 69; refine (HI.out _).mono ?_; rintro e w' ⟨rfl, n1, rfl⟩))
    go_ret2
    exact RT.any (by repeat (first | exact Drew.refl _ | refine Drew.more ?_))
  · rw [hb] at HI
    have h0 : s.size = 0 := by rcases hk with h | h; · rw [hb] at h; cases h
                               · exact h
    clear hk
    go_enter Try.func22, Try.ntmps22
    go_wp2_with (first | (go_at_call 69; refine (HI.out _).mono ?_; rintro e w' ⟨rfl, n1, rfl⟩))
    go_ret2
    exact RT.any (by repeat (first | exact Drew.refl _ | refine Drew.more ?_))
theorem sKeyParent_yes {s : ByteArray} (hs : s.size ≤ 1048576) (hk : keyB s = true) (h0 : 0 < s.size) (w : World) : Calls Try.prog 22 #[.string s] w (RT (stT (front s) true) w) := by
  have HI := Hf.mk (l07Is_any s hs)
  rw [hk] at HI
  clear hk
  go_enter Try.func22, Try.ntmps22
  go_wp2_with (first | (go_at_call 69; refine (HI.out _).mono ?_; rintro e w' ⟨rfl, n1, rfl⟩))
  go_ret2
  exact RT.any (by repeat (first | exact Drew.refl _ | refine Drew.more ?_))
theorem iKeyParent_no {s : ByteArray} (hs : s.size ≤ 1048576) (hk : keyB s = false ∨ s.size = 0) (w : World) : Calls Try.prog 23 #[.string s] w (RS (stT ⟨#[]⟩ false) w) := by
  have HI := Hf.mk (iIsKey_any s hs)
  have B0 := Hb.mk (Below.refl w.heap.size w)
  cases hb : keyB s
  · rw [hb] at HI
    clear hk
    go_enter Try.func23, Try.ntmps23
    go_wp2_with (first | (go_at_call 72; refine (HI.out _).mono ?_; rintro e w1 ⟨rfl, b1⟩; have B1 := Hb.mk (Below.on (B := w.heap.size) (a := w) (by repeat (first | exact B0.out | refine Below.drews ?_ | refine Below.drew ?_ | refine Below.alloc ?_ (by have hq_ := B0.out.size; first | omega | (simp <;> omega)) _ | refine Below.setCell ?_ (by have hq_ := B0.out.size; first | omega | (simp <;> omega)) _)) b1 (by have hq_ := B0.out.size; first | omega | (simp <;> omega))); clear b1))
    go_ret2
    exact ⟨rfl, (by repeat (first | exact B1.out | refine Below.drews ?_ | refine Below.drew ?_ | refine Below.alloc ?_ (by have hq_ := B1.out.size; first | omega | (simp <;> omega)) _ | refine Below.setCell ?_ (by have hq_ := B1.out.size; first | omega | (simp <;> omega)) _))⟩
  · rw [hb] at HI
    have h0 : s.size = 0 := by rcases hk with h | h; · rw [hb] at h; cases h
                               · exact h
    have he : s = ⟨#[]⟩ := by
      obtain ⟨⟨l⟩⟩ := s
      have : l.length = 0 := h0
      rw [List.length_eq_zero_iff] at this
      rw [this]
    subst he
    clear hk h0
    go_enter Try.func23, Try.ntmps23
    go_wp2_with (first | (go_at_call 72; refine (HI.out _).mono ?_; rintro e w1 ⟨rfl, b1⟩; have B1 := Hb.mk (Below.on (B := w.heap.size) (a := w) (by repeat (first | exact B0.out | refine Below.drews ?_ | refine Below.drew ?_ | refine Below.alloc ?_ (by have hq_ := B0.out.size; first | omega | (simp <;> omega)) _ | refine Below.setCell ?_ (by have hq_ := B0.out.size; first | omega | (simp <;> omega)) _)) b1 (by have hq_ := B0.out.size; first | omega | (simp <;> omega))); clear b1))
    go_ret2
    exact ⟨rfl, (by repeat (first | exact B1.out | refine Below.drews ?_ | refine Below.drew ?_ | refine Below.alloc ?_ (by have hq_ := B1.out.size; first | omega | (simp <;> omega)) _ | refine Below.setCell ?_ (by have hq_ := B1.out.size; first | omega | (simp <;> omega)) _))⟩
theorem iKeyParent_yes {s : ByteArray} (hs : s.size ≤ 1048576) (hk : keyB s = true) (h0 : 0 < s.size) (w : World) : Calls Try.prog 23 #[.string s] w (RS (stT (front s) true) w) := by
  have HI := Hf.mk (iIsKey_any s hs)
  have B0 := Hb.mk (Below.refl w.heap.size w)
  have hne : s.toList.isEmpty = false := by
    rw [ByteArray.toList_eq]
    obtain ⟨⟨l⟩⟩ := s
    have : 0 < l.length := h0
    cases l with
    | nil => simp at this
    | cons x l => rfl
  rw [hk] at HI
  clear hk
  go_enter Try.func23, Try.ntmps23
  go_wp2_with (first | (go_at_call 72; refine (HI.out _).mono ?_; rintro e w1 ⟨rfl, b1⟩; have B1 := Hb.mk (Below.on (B := w.heap.size) (a := w) (by repeat (first | exact B0.out | refine Below.drews ?_ | refine Below.drew ?_ | refine Below.alloc ?_ (by have hq_ := B0.out.size; first | omega | (simp <;> omega)) _ | refine Below.setCell ?_ (by have hq_ := B0.out.size; first | omega | (simp <;> omega)) _)) b1 (by have hq_ := B0.out.size; first | omega | (simp <;> omega))); clear b1))
  go_ret2
  exact ⟨rfl, (by repeat (first | exact B1.out | refine Below.drews ?_ | refine Below.drew ?_ | refine Below.alloc ?_ (by have hq_ := B1.out.size; first | omega | (simp <;> omega)) _ | refine Below.setCell ?_ (by have hq_ := B1.out.size; first | omega | (simp <;> omega)) _))⟩
theorem law_KeyParent {s : ByteArray} (_ : s.size ≤ maxLen) (w : World) : Calls Try.prog 6 #[.string s] w (fun e w' => e = .returned (.bool true) ∧ Below w.heap.size w w') := by
  by_cases hs : s.size ≤ 1048576
  · have B0 := Hb.mk (Below.refl w.heap.size w)
    obtain ⟨x, b, KS, KI⟩ : ∃ x b, Hf (∀ w, Calls Try.prog 22 #[.string s] w (RT (stT x b) w)) ∧ Hf (∀ w, Calls Try.prog 23 #[.string s] w (RS (stT x b) w)) := by
      cases hk : keyB s
      · exact ⟨_, _, ⟨sKeyParent_no hs (.inl hk)⟩, ⟨iKeyParent_no hs (.inl hk)⟩⟩
      · by_cases h0 : s.size = 0
        · exact ⟨_, _, ⟨sKeyParent_no hs (.inr h0)⟩, ⟨iKeyParent_no hs (.inr h0)⟩⟩
        · exact ⟨_, _, ⟨sKeyParent_yes hs hk (by omega)⟩, ⟨iKeyParent_yes hs hk (by omega)⟩⟩
    go_enter Try.func6, Try.ntmps6
    go_wp2_with (first | (go_at_call 22; refine (KS.out _).mono ?_; rintro e w' ⟨rfl, n1, rfl⟩) | (go_at_call 23; refine (KI.out _).mono ?_; rintro e w1 ⟨rfl, b1⟩; have B1 := Hb.mk (Below.on (B := w.heap.size) (a := w) (by repeat (first | exact B0.out | refine Below.drews ?_ | refine Below.drew ?_ | refine Below.alloc ?_ (by have hq_ := B0.out.size; first | omega | (simp <;> omega)) _ | refine Below.setCell ?_ (by have hq_ := B0.out.size; first | omega | (simp <;> omega)) _)) b1 (by have hq_ := B0.out.size; first | omega | (simp <;> omega))); clear b1))
    go_ret
    exact ⟨rfl, B1.out⟩
  · go_enter Try.func6, Try.ntmps6
    go_wp2
    go_ret
    exact ⟨rfl, Below.refl _ _⟩
end Go.Proofs.Ytgbcgckkjhgchab
