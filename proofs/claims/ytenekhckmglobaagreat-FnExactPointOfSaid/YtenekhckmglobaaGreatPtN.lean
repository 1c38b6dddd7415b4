/-
  PointOf: numbers: a product by 1, and the half of a number.
-/
import Derived.Test.YtenekhckmglobaaGreatMap
import Derived.Test.YtenekhckmglobaaGreatApt
import Derived.Test.YtenekhckmglobaaGreatPhL
namespace Go.Proofs.YtenekhckmglobaaGreat
open Go Go.RowKit

theorem word_ext32 {x y : Nat} (hx : (Lit.float .f32 x).wf = true) (hy : (Lit.float .f32 y).wf = true) (h : rung .f32 x = rung .f32 y) (s : sgn .f32 x = sgn .f32 y) : x = y := by
  have h1 : x < 4294967296 := by simpa [Lit.wf] using hx
  have h2 : y < 4294967296 := by simpa [Lit.wf] using hy
  unfold rung at h
  unfold sgn at s
  rw [sw32] at *
  rw [Bool.eq_iff_iff, beq_iff_eq, beq_iff_eq] at s
  omega
theorem one_read32 : FloatKind.f32.format.read 1065353216 = .number false 8388608 (-23) := by decide +kernel
theorem half_read32 : FloatKind.f32.format.read 1056964608 = .number false 8388608 (-24) := by decide +kernel
theorem two_read32 : FloatKind.f32.format.read 1073741824 = .number false 8388608 (-22) := by decide +kernel
theorem mul_one32 {x : Nat} (hx : fin .f32 x = true) (hw : (Lit.float .f32 x).wf = true) : fop .mul .f32 x 1065353216 = x := by
  obtain ⟨n, q, e, _, _, hr⟩ := nearest_self hx (sgn .f32 x)
  have e2 : fop .mul .f32 x 1065353216 = FloatKind.f32.format.nearest (sgn .f32 x) n q := by
    refine fop_of_some ?_
    unfold floatBits Ieee.Format.mul
    dsimp only
    rw [e, one_read32]
    show some (FloatKind.f32.format.nearest (sgn .f32 x ^^ false) (n * 8388608) (q + -23)) = _
    rw [Bool.xor_false]
    congr 1
    exact nearest_scale' _ _ n q _ 23 (by omega)
  refine word_ext32 (wf_fop _ _ _ _) hw ?_ ?_
  · rw [e2, hr]
  · rw [e2, nearest_sgn]
theorem half32 {x : Nat} (hx : fin .f32 x = true) : fop .quo .f32 x 1073741824 = fop .mul .f32 1056964608 x := by
  obtain ⟨m, p, e, _, _, hm, _⟩ := read_fin hx
  have e1 : fop .mul .f32 1056964608 x = FloatKind.f32.format.nearest (sgn .f32 x) m (p - 1) := by
    refine fop_of_some ?_
    unfold floatBits Ieee.Format.mul
    dsimp only
    rw [e, half_read32]
    show some (FloatKind.f32.format.nearest (false ^^ sgn .f32 x) (8388608 * m) (-24 + p)) = _
    rw [Bool.false_xor, Nat.mul_comm]
    congr 1
    exact nearest_scale' _ _ m (p - 1) _ 23 (by omega)
  rw [e1]
  refine fop_of_some ?_
  unfold floatBits Ieee.Format.div
  dsimp only
  rw [e, two_read32]
  unfold Ieee.Datum.quotient
  dsimp only
  rw [if_neg (by decide)]
  have hl : m.log2 ≤ 23 := by
    rw [bi32] at hm
    by_cases h0 : m = 0
    · subst h0; decide
    · have := (Nat.log2_lt (k := 24) h0).2 (by omega)
      omega
  rw [show FloatKind.f32.format.fractionBits = 23 by decide +kernel, show (8388608 : Nat).log2 = 23 by decide +kernel, Nat.shiftLeft_eq]
  obtain ⟨d, hd⟩ : ∃ d, 23 + 2 + 23 - m.log2 = d + 23 := ⟨23 + 2 - m.log2, by omega⟩
  rw [hd, Nat.pow_add, ← Nat.mul_assoc, show (2 : Nat) ^ 23 = 8388608 from rfl, Nat.mul_div_cancel _ (by decide), Nat.mul_mod_left]
  simp only [Option.map_some, bne_self_eq_false, Bool.toNat_false, Nat.add_zero]
  unfold Ieee.Format.write
  dsimp only
  rw [Bool.xor_false, show 2 * (m * 2 ^ d) = m * 2 ^ (d + 1) by rw [Nat.pow_succ]; simp only [Nat.mul_comm, Nat.mul_left_comm]]
  congr 1
  exact nearest_scale' _ _ _ _ _ (d + 1) (by omega)
end Go.Proofs.YtenekhckmglobaaGreat
