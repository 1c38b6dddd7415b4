/-
  Rises one by one: copied, compared, and whether each is one, of the program and of the model. No premise.
-/
import Derived.Test.YtconlpgifkknmabRow
import Derived.Deep.QuietTactic
import Derived.BigQuiet
import Derived.Deep.RegionWith
namespace Go.Proofs.Ytconlpgifkknmab
open Go Go.RowKit
set_option maxRecDepth 100000

/-- What a rise has to be, between marks below c. -/
def rises (f t s l c : Int) : Prop := 0 ≤ f ∧ f < c ∧ 0 ≤ t ∧ t < c ∧ f ≠ t ∧ -10000000 ≤ s ∧ s ≤ 10000000 ∧ 1 ≤ l ∧ l ≤ 10000000
instance (f t s l c : Int) : Decidable (rises f t s l c) := by unfold rises; exact inferInstance
def risB (f t s l c : Int) : Bool := decide (rises f t s l c)
theorem risB_def {f t s l c : Int} {b : Bool} (h : (b = true) ↔ rises f t s l c) : b = risB f t s l c := by
  unfold risB
  rw [Bool.eq_iff_iff, decide_eq_true_iff]
  exact h
set_option maxHeartbeats 1000000 in
theorem isBetween_any {f t s l c : Int} (w : World) : Calls Try.prog 37 #[ri f t s l, .int .i64 c] w (RS (.bool (risB f t s l c)) w) := by
  go_enter Try.func37, Try.ntmps37
  go_wp2
  all_goals
    go_ret
    refine ⟨ret_b (risB_def ?_), (by repeat (first | exact Below.refl _ _ | with_reducible assumption | refine Below.drews ?_ | refine Below.drew ?_ | refine Below.alloc ?_ (by simp <;> omega) _ | refine Below.setCell ?_ (by simp <;> omega) _))⟩
    unfold rises
    simp
    try omega
theorem toRise_any (f t s l : Int) (w : World) : Calls Try.prog 35 #[ri f t s l] w (RS (ri f t s l) w) := by
  go_enter Try.func35, Try.ntmps35
  go_wp2
  exact bodyPost_ret (v := ri f t s l) (by simp [results, Try.results35, go_sem]) rfl ⟨rfl, (by repeat (first | exact Below.refl _ _ | with_reducible assumption | refine Below.drews ?_ | refine Below.drew ?_ | refine Below.alloc ?_ (by simp <;> omega) _ | refine Below.setCell ?_ (by simp <;> omega) _))⟩
theorem eqRise_any (f t s l : Int) (w : World) : Calls Try.prog 39 #[ri f t s l, ri f t s l] w (RS (.bool true) w) := by
  go_enter Try.func39, Try.ntmps39
  go_wp2
  go_ret
  exact ⟨rfl, (by repeat (first | exact Below.refl _ _ | with_reducible assumption | refine Below.drews ?_ | refine Below.drew ?_ | refine Below.alloc ?_ (by simp <;> omega) _ | refine Below.setCell ?_ (by simp <;> omega) _))⟩
/-- The model's rise, whose marks are told elsewhere. -/
def rsB (f t s l : Int) : Bool := decide (-10000000 ≤ s ∧ s ≤ 10000000 ∧ 1 ≤ l ∧ l ≤ 10000000 ∧ f ≠ t)
theorem rsB_no1 {f t s l : Int} (h : s < -10000000 ∨ 10000000 < s) : rsB f t s l = false := by unfold rsB; rw [decide_eq_false_iff_not]; omega
theorem rsB_no2 {f t s l : Int} (h : l < 1 ∨ 10000000 < l) : rsB f t s l = false := by unfold rsB; rw [decide_eq_false_iff_not]; omega
theorem rsB_yes {f t s l : Int} (h0 : -10000000 ≤ s) (h1 : s ≤ 10000000) (h2 : 1 ≤ l) (h3 : l ≤ 10000000) : rsB f t s l = decide (f ≠ t) := by unfold rsB; rw [Bool.eq_iff_iff, decide_eq_true_iff, decide_eq_true_iff]; omega
theorem l05Rise_any {f t s l : Int} {g o : Nat} (w : World) (c0 : w.cell? ⟨g, o, none⟩ = some (.int .i64 f)) (c1 : w.cell? ⟨g, o + 1, none⟩ = some (.int .i64 t)) (c2 : w.cell? ⟨g, o + 2, none⟩ = some (.int .i64 s)) (c3 : w.cell? ⟨g, o + 3, none⟩ = some (.int .i64 l)) : Calls Try.prog 61 #[.pointer (some ⟨g, o, none⟩)] w (RB (rsB f t s l) w) := by
  by_cases h1 : s < -10000000 ∨ 10000000 < s
  · have KV := Keep.mk (rsB_no1 (f := f) (t := t) (l := l) h1)
    go_enter Try.func61, Try.ntmps61
    go_wp2
    go_quiet ((go_at_call 49; exact Calls.quiet_of (l00In_no h1 _)))
    go_wp2
    go_ret
    rw [KV.out]
    exact RB.of rfl
  · by_cases h2 : l < 1 ∨ 10000000 < l
    · have KV := Keep.mk (rsB_no2 (f := f) (t := t) (s := s) h2)
      have a0 : -10000000 ≤ s := by omega
      have a1 : s ≤ 10000000 := by omega
      go_enter Try.func61, Try.ntmps61
      go_wp2
      go_quiet ((first | (go_at_call_of 49 (Value.int .i64 s); exact Calls.quiet_of (l00In_yes a0 a1 _)) | (go_at_call_of 49 (Value.int .i64 l); exact Calls.quiet_of (l00In_no h2 _))))
      go_wp2
      go_ret
      rw [KV.out]
      exact RB.of rfl
    · have a0 : -10000000 ≤ s := by omega
      have a1 : s ≤ 10000000 := by omega
      have b0 : 1 ≤ l := by omega
      have b1 : l ≤ 10000000 := by omega
      have KV := Keep.mk (rsB_yes (f := f) (t := t) a0 a1 b0 b1)
      go_enter Try.func61, Try.ntmps61
      go_wp2
      go_quiet ((first | (go_at_call_of 49 (Value.int .i64 s); exact Calls.quiet_of (l00In_yes a0 a1 _)) | (go_at_call_of 49 (Value.int .i64 l); exact Calls.quiet_of (l00In_yes b0 b1 _))))
      go_wp2
      go_ret
      rw [KV.out]
      refine RB.of ?_
      rw [Bool.eq_iff_iff]
      simp
end Go.Proofs.Ytconlpgifkknmab
