/-
  RootNumber, of the program and of its model, compute the same Lean function; its exact law. No condition.
-/
import Derived.Test.YtmioclcipdifpaaLogN
namespace Go.Proofs.Ytmioclcipdifpaa
open Go Go.RowKit
set_option maxRecDepth 100000

def rootC (c : Nat) : Nat := fcv .f64 .f32 (fsqrt (fcv .f32 .f64 c))
theorem fsqrt_neg {c : Nat} (h : fin .f64 c = true) (hs : sgn .f64 c = true) : fits .f64 .f32 (fsqrt c) = true := by
  obtain ⟨m, i, h1, _⟩ := read_fin h
  by_cases hm : m = 0
  · have e : fsqrt c = FloatKind.f64.format.nearest true 0 i := by
      unfold fsqrt Ieee.Format.sqrt
      rw [h1, hs, hm]; rfl
    rw [e]
    have hb : Bd .f64 (FloatKind.f64.format.nearest true 0 i) 0 := nearest_bd _ _ _ (by decide) (by decide) (.inl rfl)
    exact (hb.fits (by decide) (by decide)).1
  · have e : fsqrt c = qn .f64 := by
      unfold fsqrt Ieee.Format.sqrt
      rw [h1, hs]
      unfold Ieee.Datum.root
      dsimp only
      rw [if_neg hm, if_pos rfl]
      rfl
    rw [e]; decide +kernel
theorem root_fits {c : Nat} (hc : c < 4294967296) : fits .f64 .f32 (fsqrt (fcv .f32 .f64 c)) = true := by
  rcases classes hc with h | h | h | ⟨h1, h2⟩ | ⟨h1, h2⟩
  · rw [wide_nan h]; decide +kernel
  · rcases h with rfl | rfl <;> decide +kernel
  · subst h; decide +kernel
  · obtain ⟨r1, r2⟩ := wide_range h1 h2
    have hr : rung .f64 (fcv .f32 .f64 c) ≤ 5183643171103440896 := by unfold rung; rw [sw64]; omega
    have hb : Bd .f64 (fcv .f32 .f64 c) 128 := ⟨Nat.le_trans hr (by decide), by decide, by decide⟩
    have hs : sgn .f64 (fcv .f32 .f64 c) = false := by
      have := (wide_fin (pos_class h1 h2).1).2.1
      rw [this]; unfold sgn; rw [sw32, show c / 2147483648 = 0 by omega]; rfl
    exact ((fsqrt_bd hb hs (by decide)).1.fits (by decide) (by decide)).1
  · by_cases he : c = 4286578688
    · subst he; decide +kernel
    · have hr : rung .f32 c = c - 2147483648 := by unfold rung; rw [sw32]; omega
      have hs : sgn .f32 c = true := by unfold sgn; rw [sw32, show c / 2147483648 = 1 by omega]; rfl
      have hf : fin .f32 c = true := by unfold fin; rw [hr, in32, decide_eq_true (by omega)]
      obtain ⟨a1, a2, _⟩ := wide_fin hf
      exact fsqrt_neg a1 (by rw [a2, hs])
end Go.Proofs.Ytmioclcipdifpaa
