/-
  LogNumber, TenthsOf and RootNumber, of the program and of its model, compute the same Lean functions; their exact laws. No condition.
-/
import Derived.Test.YtmioclcipdifpaaLog
namespace Go.Proofs.Ytmioclcipdifpaa
open Go Go.RowKit
set_option maxRecDepth 100000

/-- The words that tell float32s, class by class. -/
theorem classes {c : Nat} (hc : c < 4294967296) : isN .f32 c = true ∨ (c = 0 ∨ c = 2147483648) ∨ c = 2139095040 ∨ (0 < c ∧ c < 2139095040) ∨ (2147483648 < c ∧ c ≤ 4286578688) := by
  by_cases h : isN .f32 c = true
  · exact .inl h
  · right
    rw [isN_iff, in32, decide_eq_true_eq] at h
    unfold rung at h; rw [sw32] at h
    omega
theorem neg_class {c : Nat} (h1 : 2147483648 < c) (h2 : c ≤ 4286578688) : fcmp .neq .f32 c c = false ∧ fcmp .lss .f32 c 0 = true ∧ fcmp .eql .f32 c 0 = false ∧ fcmp .gtr .f32 c 0 = false ∧ fcmp .gtr .f32 c 2139095039 = false ∧ fcmp .leq .f32 c 0 = true := by
  by_cases he : c = 4286578688
  · subst he; decide +kernel
  · have hr : rung .f32 c = c - 2147483648 := by unfold rung; rw [sw32]; omega
    have hs : sgn .f32 c = true := by unfold sgn; rw [sw32, show c / 2147483648 = 1 by omega]; rfl
    have hf : fin .f32 c = true := by unfold fin; rw [hr, in32, decide_eq_true (by omega)]
    have h0 : fin .f32 0 = true := by decide +kernel
    have hm : fin .f32 2139095039 = true := by decide +kernel
    have s0 : sv .f32 0 = 0 := by decide +kernel
    have sm : 0 < sv .f32 2139095039 := by decide +kernel
    have hv : sv .f32 c < 0 := by
      have := val_mono FloatKind.f32.format (show 0 < rung .f32 c by omega)
      rw [val_zero] at this
      unfold sv; rw [if_pos hs]; omega
    obtain ⟨a1, a2, a3, a4, a5, a6⟩ := fcmp_fin hf h0
    obtain ⟨b1, b2, b3, b4, b5, b6⟩ := fcmp_fin hf hm
    rw [a1, a2, a3, a5, b3, s0]
    refine ⟨fcmp_self (fin_notN hf), decide_eq_true hv, decide_eq_false (by omega), decide_eq_false (by omega), decide_eq_false (by omega), decide_eq_true (by omega)⟩
theorem pos_class {c : Nat} (h1 : 0 < c) (h2 : c < 2139095040) : fin .f32 c = true ∧ fcmp .eql .f32 c 0 = false ∧ fcmp .gtr .f32 c 0 = true ∧ fcmp .gtr .f32 c 2139095039 = false ∧ fcmp .leq .f32 c 0 = false := by
  have hr : rung .f32 c = c := by unfold rung; rw [sw32]; omega
  have hs : sgn .f32 c = false := by unfold sgn; rw [sw32, show c / 2147483648 = 0 by omega]; rfl
  have hf : fin .f32 c = true := by unfold fin; rw [hr, in32, decide_eq_true (by omega)]
  have h0 : fin .f32 0 = true := by decide +kernel
  have hm : fin .f32 2139095039 = true := by decide +kernel
  have s0 : sv .f32 0 = 0 := by decide +kernel
  have hrm : rung .f32 2139095039 = 2139095039 := by decide +kernel
  have hsm : sgn .f32 2139095039 = false := by decide +kernel
  have hv : 0 < sv .f32 c := by
    have := val_mono FloatKind.f32.format (show 0 < rung .f32 c by omega)
    rw [val_zero] at this
    rw [sv_pos hs]; omega
  have hle : sv .f32 c ≤ sv .f32 2139095039 := by
    rw [sv_pos hs, sv_pos hsm, hr, hrm]
    rcases Nat.lt_or_eq_of_le (show c ≤ 2139095039 by omega) with hl | hl
    · have := val_mono FloatKind.f32.format hl; omega
    · rw [hl]; exact Int.le_refl _
  obtain ⟨a1, a2, a3, a4, a5, a6⟩ := fcmp_fin hf h0
  obtain ⟨b1, b2, b3, b4, b5, b6⟩ := fcmp_fin hf hm
  rw [a2, a3, a5, b3, s0]
  exact ⟨hf, decide_eq_false (by omega), decide_eq_true (by omega), decide_eq_false (by omega), decide_eq_false (by omega)⟩
theorem nan_class {c : Nat} (h : isN .f32 c = true) : fcmp .neq .f32 c c = true ∧ (∀ y, fcmp .eql .f32 c y = false ∧ fcmp .gtr .f32 c y = false ∧ fcmp .leq .f32 c y = false) := by
  unfold fcmp
  dsimp only
  rw [order_isN_l h]
  refine ⟨rfl, fun y => ?_⟩
  rw [order_isN_l h]
  exact ⟨rfl, rfl, rfl⟩
/-- The logarithm of a float32. -/
def logC (c : Nat) : Nat :=
  if isN .f32 c = true then qn .f32 else if c = 0 ∨ c = 2147483648 then 4286578688 else if c = 2139095040 then c else if c < 2147483648 then fcv .f64 .f32 (logW (fcv .f32 .f64 c)) else qn .f32

end Go.Proofs.Ytmioclcipdifpaa
