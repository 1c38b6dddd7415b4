/-
  Keys: what IsKey of the program and of its model tell of a text. No condition.
-/
import Derived.Test.YtgbcgckkjhgchabRow
import Derived.Laws.IdiomStrings
namespace Go.Proofs.Ytgbcgckkjhgchab
open Go Go.RowKit
set_option maxRecDepth 100000

def digit4 (b : Nat) : Bool := decide (48 ≤ b ∧ b ≤ 51)
def byt (s : ByteArray) (j : Nat) : Nat := (s.data.toList.getD j 0).toNat
/-- The first m bytes are letters of keys. -/
def digs (s : ByteArray) (m : Nat) : Prop := ∀ j, j < m → digit4 (byt s j) = true
def allD (s : ByteArray) : Bool := s.data.toList.all fun b => digit4 b.toNat
def keyB (s : ByteArray) : Bool := allD s && decide (s.size ≤ 20)
theorem byt_at (s : ByteArray) (i : Nat) (h : i < s.size) : (s[i]'h).toNat = byt s i := by
  obtain ⟨⟨l⟩⟩ := s
  have hl : i < l.length := h
  unfold byt
  simp only [List.getD, List.getElem?_eq_getElem hl, Option.getD_some]
  rfl
theorem byt_lt (s : ByteArray) (i : Nat) : byt s i < 256 := UInt8.toNat_lt _
theorem allD_bad {s : ByteArray} {m : Nat} (h : m < s.size) (hb : digit4 (byt s m) = false) : allD s = false := by
  unfold allD
  rw [List.all_eq_false]
  refine ⟨s[m]'h, ?_, by rw [byt_at s m h, hb]; decide⟩
  obtain ⟨⟨l⟩⟩ := s
  exact List.getElem_mem (show m < l.length from h)
theorem allD_all {s : ByteArray} (h : digs s s.size) : allD s = true := by
  unfold allD
  rw [List.all_eq_true]
  intro x hx
  obtain ⟨⟨l⟩⟩ := s
  obtain ⟨j, hj, rfl⟩ := List.getElem_of_mem hx
  have := h j hj
  unfold byt at this
  simpa [List.getD, List.getElem?_eq_getElem hj] using this
theorem digs_more {s : ByteArray} {m : Nat} (hl : digs s m) (hb : digit4 (byt s m) = true) : digs s (m + 1) := by
  intro j hj
  by_cases hjm : j < m
  · exact hl j hjm
  · obtain rfl : j = m := by omega
    exact hb
theorem digs_of {s : ByteArray} (h : keyB s = true) : s.size ≤ 20 ∧ digs s s.size := by
  unfold keyB at h
  rw [Bool.and_eq_true, decide_eq_true_eq] at h
  refine ⟨h.2, fun j hj => ?_⟩
  cases hb : digit4 (byt s j)
  · have := allD_bad hj hb
    rw [this] at h
    exact absurd h.1 (by decide)
  · rfl
/-- The bytes of a text, in a block. -/
def URow (w : World) (g : Nat) (s : ByteArray) : Prop := ∀ j, j < s.size → w.cell? ⟨g, j, none⟩ = some (.int .u8 (byt s j : Int))
theorem URow.below {w w' : World} {g : Nat} {s : ByteArray} (h : URow w g s) (hb : Below w.heap.size w w') : URow w' g s := fun j hj => Below.keep hb (h j hj)
theorem URow.drew {w : World} {g : Nat} {s : ByteArray} (h : URow w g s) (n : Nat) : URow (w.drewN n) g s := h
theorem urow_new (w : World) (s : ByteArray) (cap : Nat) (t : TypeId) (fr : Nat × Nat) : URow (w.alloc (.cells (bytesRow s cap) t fr)) w.heap.size s := by
  intro j hj
  have hj' : j < s.data.size := hj
  rw [World.cell?_alloc_mark, bytesRow_at s cap j hj']
  obtain ⟨⟨l⟩⟩ := s
  have hl : j < l.length := hj
  unfold byt
  simp [List.getD, List.getElem?_eq_getElem hl]
theorem urow_newd (w : World) (s : ByteArray) (cap : Nat) (t : TypeId) (fr : Nat × Nat) : URow (World.drew (w.alloc (.cells (bytesRow s cap) t fr))) w.heap.size s := urow_new w s cap t fr
theorem l07Is_any (s : ByteArray) (hs : s.size ≤ 1048576) (w : World) : Calls Try.prog 69 #[.string s] w (RB (keyB s) w) := by
  go_enter Try.func69, Try.ntmps69
  go_wp2
  go_loopw [3] (fun i wr => ∃ m : Nat, m ≤ s.size ∧ i = .int .i64 m ∧ Hf (digs s m) ∧ Drew w wr) (fun i _ => s.size - (intOf i).toNat)
  case atStart => exact ⟨0, by omega, rfl, ⟨fun j hj => absurd hj (Nat.not_lt_zero j)⟩, (by repeat (first | exact Drew.refl _ | refine Drew.more ?_))⟩
  case round =>
    obtain ⟨m, hm, rfl, hl, q, rfl⟩ := hrel
    by_cases hlt : m < s.size
    · have hb : (s[m]'hlt).toNat < 256 := UInt8.toNat_lt _
      have he := Hf.mk (byt_at s m hlt)
      by_cases ha : (s[m]'hlt).toNat < 48
      · have K := Hf.mk (show keyB s = false by unfold keyB; rw [allD_bad hlt (by unfold digit4; rw [← he.out]; exact decide_eq_false (by omega))]; rfl)
        go_wp2
        go_ret
        rw [K.out]
        exact RB.any rfl (by repeat (first | exact Drew.refl _ | refine Drew.more ?_))
      · by_cases hz : 51 < (s[m]'hlt).toNat
        · have K := Hf.mk (show keyB s = false by unfold keyB; rw [allD_bad hlt (by unfold digit4; rw [← he.out]; exact decide_eq_false (by omega))]; rfl)
          go_wp2
          go_ret
          rw [K.out]
          exact RB.any rfl (by repeat (first | exact Drew.refl _ | refine Drew.more ?_))
        · have K := Hf.mk (digs_more hl.out (by unfold digit4; rw [← he.out]; exact decide_eq_true (by omega)))
          go_wp2
          go_roundw
          case rel => exact ⟨m + 1, by omega, i_ext2 (by omega), K, (by repeat (first | exact Drew.refl _ | refine Drew.more ?_))⟩
          case measure => simp [intOf]; omega
    · obtain rfl : m = s.size := by omega
      have K := Hf.mk (show keyB s = decide (s.size ≤ 20) by unfold keyB; rw [allD_all hl.out, Bool.true_and])
      go_wp2
      go_ret
      rw [K.out]
      exact RB.any (by rw [Bool.eq_iff_iff]; simp only [decide_eq_true_eq]; omega) (by repeat (first | exact Drew.refl _ | refine Drew.more ?_))
theorem isLetter_any {b : Nat} (hb : b < 256) (w : World) : Calls Try.prog 114 #[.int .u8 (b : Int)] w (RB (digit4 b) w) := by
  by_cases h1 : (48 : Int) ≤ b
  · have K := Hf.mk (show digit4 b = decide ((b : Int) ≤ 51) by unfold digit4; rw [Bool.eq_iff_iff, decide_eq_true_eq, decide_eq_true_eq]; omega)
    go_enter Try.func114, Try.ntmps114
    go_wp2
    go_ret
    rw [K.out]
    exact RB.any rfl (by repeat (first | exact Drew.refl _ | refine Drew.more ?_))
  · have K := Hf.mk (show digit4 b = false by unfold digit4; exact decide_eq_false (by omega))
    go_enter Try.func114, Try.ntmps114
    go_wp2
    go_ret
    rw [K.out]
    exact RB.any rfl (by repeat (first | exact Drew.refl _ | refine Drew.more ?_))
theorem areAllU_any {g k : Nat} {s : ByteArray} (w : World) (hr : URow w g s) (hl : s.size ≤ 1048576) : Calls Try.prog 113 #[.slice (some ⟨g, 0, none⟩) s.size k, .func (.func 114) #[] #[]] w (RB (allD s) w) := by
  have HR := Hf.mk hr
  clear hr
  go_enter Try.func113, Try.ntmps113
  go_wp2
  go_loopw [9] (fun i wr => ∃ m : Nat, m ≤ s.size ∧ i = .int .i64 m ∧ Hf (digs s m) ∧ Drew w wr) (fun i _ => s.size - (intOf i).toNat)
  case atStart => exact ⟨0, by omega, rfl, ⟨fun j hj => absurd hj (Nat.not_lt_zero j)⟩, (by repeat (first | exact Drew.refl _ | refine Drew.more ?_))⟩
  case round =>
    obtain ⟨m, hm, rfl, ha, q, rfl⟩ := hrel
    by_cases hlt : m < s.size
    · have hc := HR.out.drew q m hlt
      have hv := fun w => isLetter_any (byt_lt s m) w
      cases hv1 : digit4 (byt s m)
      · rw [hv1] at hv
        have HV := Hf.mk hv
        have KR := Hf.mk (allD_bad hlt hv1)
        clear hv hv1
        go_wp2_with (first | (go_at_call 114; refine (HV.out _).mono ?_; rintro e w' ⟨rfl, n1, rfl⟩))
        go_ret
        rw [KR.out]
        exact RB.any rfl (by repeat (first | exact Drew.refl _ | refine Drew.more ?_))
      · rw [hv1] at hv
        have HV := Hf.mk hv
        have KS := Hf.mk (digs_more ha.out hv1)
        clear hv hv1
        go_wp2_with (first | (go_at_call 114; refine (HV.out _).mono ?_; rintro e w' ⟨rfl, n1, rfl⟩))
        go_roundw
        case rel => exact ⟨m + 1, by omega, i_ext2 (by omega), KS, (by repeat (first | exact Drew.refl _ | refine Drew.more ?_))⟩
        case measure => simp [intOf]; omega
    · obtain rfl : m = s.size := by omega
      have KR := Hf.mk (allD_all ha.out)
      go_wp2
      go_ret
      rw [KR.out]
      exact RB.any rfl (by repeat (first | exact Drew.refl _ | refine Drew.more ?_))
theorem iIsKey_any (s : ByteArray) (hs : s.size ≤ 1048576) (w : World) : Calls Try.prog 72 #[.string s] w (RS (.bool (keyB s)) w) := by
  by_cases h : s.size ≤ 20
  · have K := Hf.mk (show keyB s = allD s by unfold keyB; rw [decide_eq_true h, Bool.and_true])
    have kc := fun w => run_bytes_of_string (P := Try.prog) w 9 111 5 s Try.underlying9 Try.underlying111 Try.underlying5
    generalize hb : allD s = b at *
    have HB := Hf.mk hb
    clear hb
    go_enter Try.func72, Try.ntmps72
    go_wp2_with (first | (go_at_call 113; refine (areAllU_any _ (urow_newd _ s _ _ _) hs).mono ?_; rw [HB.out]; rintro e w' ⟨rfl, n1, rfl⟩))
    go_ret
    rw [K.out]
    exact ⟨rfl, (by repeat (first | exact Below.refl _ _ | with_reducible assumption | refine Below.drews ?_ | refine Below.drew ?_ | refine Below.alloc ?_ (by simp <;> omega) _ | refine Below.setCell ?_ (by simp <;> omega) _))⟩
  · have K := Hf.mk (show keyB s = false by unfold keyB; rw [decide_eq_false h, Bool.and_false])
    go_enter Try.func72, Try.ntmps72
    go_wp2
    go_ret
    rw [K.out]
    exact ⟨rfl, (by repeat (first | exact Below.refl _ _ | with_reducible assumption | refine Below.drews ?_ | refine Below.drew ?_ | refine Below.alloc ?_ (by simp <;> omega) _ | refine Below.setCell ?_ (by simp <;> omega) _))⟩
end Go.Proofs.Ytgbcgckkjhgchab
