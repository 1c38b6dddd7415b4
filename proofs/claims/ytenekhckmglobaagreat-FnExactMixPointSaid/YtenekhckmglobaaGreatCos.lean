/-
  The cosine of at most 0.24 turns is at least a 64th. No walk. No premise beyond the range.
-/
import Derived.Test.YtenekhckmglobaaGreatWr
namespace Go.Proofs.YtenekhckmglobaaGreat
open Go Go.RowKit
set_option maxRecDepth 100000
theorem fint_zero {x : Nat} (hf : fin .f64 x = true) (hl : rung .f64 x < rung .f64 w1) : floatToIntVal .f64 x .i64 = some 0 := by
  obtain ⟨m, p, h1, h2, h3, h4, _⟩ := read_fin hf
  have hv := val_mono FloatKind.f64.format hl
  have hv1 : val FloatKind.f64.format (rung .f64 w1) = 2 ^ pb := by decide +kernel
  rw [hv1, ← h3, least64, show p - -1074 = p + 1074 by omega] at hv
  rw [least64] at h2
  have hc : (FloatKind.f64.decode x).toInt .zero = some 0 := by
    unfold FloatKind.decode
    rw [h1]
    unfold Ieee.Datum.toInt Ieee.Datum.integral
    dsimp only
    rw [cut_zero h2, Nat.div_eq_of_lt hv]
    unfold Ieee.signed; cases sgn .f64 x <;> rfl
  unfold floatToIntVal
  rw [hc]
  exact if_pos (by decide)
theorem near_lb {k : FloatKind} (s : Bool) {z : Int} {c : Nat} (hc : fin k c = true) (h : val k.format (rung k c) ≤ z.natAbs) : rung k c ≤ rung k (k.format.nearest s z.natAbs k.format.leastPlace) := by
  refine word_le_nearest _ k.format.leastPlace hc (Int.le_refl _) (Int.le_refl _) ?_
  rw [show (k.format.leastPlace - k.format.leastPlace).toNat = 0 by omega, Nat.pow_zero, Nat.mul_one, Nat.mul_one]
  exact h
theorem mul_lb {k : FloatKind} {x y a b c : Nat} (fx : fin k x = true) (fy : fin k y = true) (ha : rung k a ≤ rung k x) (hb : rung k b ≤ rung k y) (hc : fin k c = true) (h : val k.format (rung k c) * 2 ^ (-k.format.leastPlace).toNat ≤ val k.format (rung k a) * val k.format (rung k b)) : rung k c ≤ rung k (fop .mul k x y) := by
  rw [fop_mul_near fx fy]
  have hl := least_neg k
  refine word_le_nearest _ (k.format.leastPlace + k.format.leastPlace) hc (Int.le_refl _) (by omega) ?_
  rw [show (k.format.leastPlace + k.format.leastPlace - (k.format.leastPlace + k.format.leastPlace)).toNat = 0 by omega, Nat.pow_zero, Nat.mul_one, show (k.format.leastPlace - (k.format.leastPlace + k.format.leastPlace)).toNat = (-k.format.leastPlace).toNat by omega]
  exact Nat.le_trans h (Nat.mul_le_mul (val_le ha) (val_le hb))
/-- x is from lo to hi, both greater than 0 -/
structure Rg (k : FloatKind) (x lo hi : Nat) : Prop where
  pos : sgn k x = false
  ge : rung k lo ≤ rung k x
  le : rung k x ≤ rung k hi
  fit : fin k hi = true
theorem Rg.ab {k : FloatKind} {x lo hi : Nat} (h : Rg k x lo hi) : Ab k x hi := ⟨h.le, h.fit⟩
theorem Rg.nn {k : FloatKind} {x lo hi : Nat} (h : Rg k x lo hi) : Nn k x hi := ⟨h.ab, h.pos⟩
theorem Rg.sv_ge {k : FloatKind} {x lo hi : Nat} (h : Rg k x lo hi) : ((val k.format (rung k lo) : Nat) : Int) ≤ sv k x := by
  rw [sv_pos h.pos]; exact Int.ofNat_le.2 (val_le h.ge)
theorem Rg.sv_le {k : FloatKind} {x lo hi : Nat} (h : Rg k x lo hi) : sv k x ≤ ((val k.format (rung k hi) : Nat) : Int) := by
  rw [sv_pos h.pos]; exact Int.ofNat_le.2 (val_le h.le)
/-- a sum or a difference that is known as a whole number of least places -/
theorem Rg.near {k : FloatKind} {z : Int} {t : Bool} {lo hi : Nat} (fl : fin k lo = true) (fh : fin k hi = true) (h0 : 0 < val k.format (rung k lo)) (h1 : ((val k.format (rung k lo) : Nat) : Int) ≤ z) (h2 : z ≤ ((val k.format (rung k hi) : Nat) : Int)) : Rg k (k.format.nearest (if z = 0 then t else decide (z < 0)) z.natAbs k.format.leastPlace) lo hi := by
  refine ⟨?_, near_lb _ fl (by omega), near_ab _ fh (by omega), fh⟩
  rw [nearest_sgn, if_neg (by omega), decide_eq_false_iff_not]; omega
theorem cos_arg {f : Nat} (h1 : fcmp .geq .f32 f 3195388559 = true) (h2 : fcmp .leq .f32 f 1047904911 = true) : Rg .f32 (fop .add .f32 f 1048576000) 1008874396 1056632419 := by
  obtain ⟨hf, g1, g2⟩ := between (by decide +kernel) (by decide +kernel) h1 h2
  have c1 : ((val FloatKind.f32.format (rung .f32 1008874396) : Nat) : Int) ≤ sv .f32 3195388559 + sv .f32 1048576000 := by decide +kernel
  have c2 : sv .f32 1047904911 + sv .f32 1048576000 ≤ ((val FloatKind.f32.format (rung .f32 1056632419) : Nat) : Int) := by decide +kernel
  rw [fop_add_near hf (by decide +kernel)]
  exact Rg.near (k := .f32) (by decide +kernel) (by decide +kernel) (by decide +kernel) (by omega) (by omega)
theorem Rg.wide {x lo hi : Nat} (h : Rg .f32 x lo hi) (fl : fin .f32 lo = true) : Rg .f64 (fcv .f32 .f64 x) (fcv .f32 .f64 lo) (fcv .f32 .f64 hi) := by
  obtain ⟨a1, a2, a3⟩ := wide_fin h.ab.fin
  obtain ⟨b1, b2, b3⟩ := wide_fin fl
  obtain ⟨c1, c2, c3⟩ := wide_fin h.fit
  refine ⟨by rw [a2]; exact h.pos, le_of_val ?_, le_of_val ?_, c1⟩
  · rw [a3, b3]; exact Nat.mul_le_mul_right _ (val_le h.ge)
  · rw [a3, c3]; exact Nat.mul_le_mul_right _ (val_le h.le)
theorem sin_fold {y : Nat} (h : Rg .f64 y 4576860583197933568 4602500476561260544) : ∃ d, floatToIntVal .f64 y .i64 = some 0 ∧ many y = false ∧ left y 0 = d ∧ Rg .f64 d 4576860583197933568 4602500476561260544 := by
  have hy := h.ab.fin
  have hlt : rung .f64 y < rung .f64 w1 := Nat.lt_of_le_of_lt h.le (by decide +kernel)
  have hm : many y = false := by
    unfold many
    rw [(fcmp_fin (by rw [fin_fabs]; exact hy) (by decide +kernel)).2.2.2.1, decide_eq_false_iff_not, sv_pos (sgn_fabs y), rung_fabs]
    have := val_mono FloatKind.f64.format hlt
    have c : ((val FloatKind.f64.format (rung .f64 w1) : Nat) : Int) ≤ sv .f64 4841369599423283200 := by decide +kernel
    omega
  refine ⟨_, fint_zero hy hlt, hm, rfl, ?_⟩
  have e0 : floatOfInt .f64 0 = 0 := by decide +kernel
  have hd : Rg .f64 (fop .sub .f64 y 0) 4576860583197933568 4602500476561260544 := by
    rw [fop_sub_near hy (fin_zero _), sv_zero]
    have a := h.sv_ge
    have b := h.sv_le
    exact Rg.near (k := .f64) (by decide +kernel) h.fit (by decide +kernel) (by omega) (by omega)
  unfold left
  rw [e0, lss_zero hd.ab.fin, if_neg]
  · exact hd
  · rw [decide_eq_true_eq]; have := sv_nn hd.pos; omega
theorem sin_z {d : Nat} (h : Rg .f64 d 4576860583197933568 4602500476561260544) : fcmp .geq .f64 d 4602678819172646912 = false ∧ sgn .f64 (sinZ d) = false ∧ rung .f64 4589023905102459568 ≤ rung .f64 (sinZ d) ∧ fin .f64 (sinZ d) = true := by
  have hk : fin .f64 4602678819172646912 = true := by decide +kernel
  have a := h.sv_ge
  have b := h.sv_le
  have hh : fcmp .geq .f64 d 4602678819172646912 = false := by
    rw [(fcmp_fin h.ab.fin hk).2.2.2.1, decide_eq_false_iff_not]
    have c : ((val FloatKind.f64.format (rung .f64 4602500476561260544) : Nat) : Int) < sv .f64 4602678819172646912 := by decide +kernel
    omega
  have eh : half d = d := by unfold half; rw [if_neg (by rw [hh]; decide)]
  have hf : sgn .f64 (fold d) = false ∧ rung .f64 4576802937153626990 ≤ rung .f64 (fold d) := by
    unfold fold
    split
    · rw [fop_sub_near hk h.ab.fin]
      have c1 : ((val FloatKind.f64.format (rung .f64 4576802937153626990) : Nat) : Int) ≤ sv .f64 4602678819172646912 - ((val FloatKind.f64.format (rung .f64 4602500476561260544) : Nat) : Int) := by decide +kernel
      have c2 : sv .f64 4602678819172646912 ≤ ((val FloatKind.f64.format (rung .f64 4602678819172646912) : Nat) : Int) := by decide +kernel
      have g0 : 0 ≤ sv .f64 d := sv_nn h.pos
      have r := Rg.near (k := .f64) (t := (sgn .f64 4602678819172646912 && !sgn .f64 d)) (z := sv .f64 4602678819172646912 - sv .f64 d) (lo := 4576802937153626990) (hi := 4602678819172646912) (by decide +kernel) hk (by decide +kernel) (by omega) (by omega)
      exact ⟨r.pos, r.ge⟩
    · exact ⟨h.pos, Nat.le_trans (by decide +kernel) h.ge⟩
  have hab := fold_ab (f := d) ⟨Nat.le_trans h.le (by decide +kernel), hk⟩ (sv_nn h.pos)
  have hz : sinZ d = fop .mul .f64 (fold d) 4618760256179416344 := by unfold sinZ; rw [eh]
  have hzf : fin .f64 (sinZ d) = true := by rw [hz]; exact (mul_ab (b := 4618760256179416344) (c := 4611686018427387904) hab ⟨Nat.le_refl _, by decide +kernel⟩ (by decide +kernel) (by decide +kernel)).fin
  refine ⟨hh, ?_, ?_, hzf⟩
  · rw [hz, mul_sgn hab.fin (by decide +kernel), hf.1]; decide +kernel
  · rw [hz]
    exact mul_lb (a := 4576802937153626990) (b := 4618760256179416344) hab.fin (by decide +kernel) hf.2 (Nat.le_refl _) (by decide +kernel) (by decide +kernel)
theorem sin_p {u : Nat} (hu : Nn .f64 u 4616189618054758400) : rung .f64 4598895795485655695 ≤ rung .f64 (sinP u 8) := by
  have ih := sinP_nn hu 7 (by omega)
  have h1 := mul_nn (c := 4616189618054758400) hu ih (by decide +kernel) (by decide +kernel)
  have hd : fin .f64 (den 1) = true ∧ sgn .f64 (den 1) = false := by decide +kernel
  have h2 := quo_nn (c := 4604480259023595110) (d := den 1) h1 hd.1 hd.2 (Nat.le_refl _) (by decide +kernel) (by decide +kernel) (by decide +kernel)
  have e : sinP u 8 = fop .sub .f64 4607182418800017408 (fop .quo .f64 (fop .mul .f64 u (sinP u 7)) (den 1)) := rfl
  rw [e, fop_sub_near (by decide +kernel) h2.ab.fin]
  have h3 := h2.ab.val
  have h4 := sv_pos h2.pos
  have c1 : ((val FloatKind.f64.format (rung .f64 4598895795485655695) : Nat) : Int) ≤ sv .f64 4607182418800017408 - ((val FloatKind.f64.format (rung .f64 4604480259023595110) : Nat) : Int) := by decide +kernel
  refine near_lb _ (by decide +kernel) (by omega)
/-- The cosine of at most 0.24 turns: greater than 0, at least 0.015625. -/
theorem cos_lb {f : Nat} (h1 : fcmp .geq .f32 f 3195388559 = true) (h2 : fcmp .leq .f32 f 1047904911 = true) : sgn .f32 (cosC f) = false ∧ rung .f32 1015021568 ≤ rung .f32 (cosC f) := by
  have h := cos_arg h1 h2
  unfold cosC
  generalize fop .add .f32 f 1048576000 = x at *
  have hw := h.wide (by decide +kernel)
  rw [show fcv .f32 .f64 1008874396 = 4576860583197933568 by decide +kernel, show fcv .f32 .f64 1056632419 = 4602500476561260544 by decide +kernel] at hw
  obtain ⟨d, d1, d2, d3, d4⟩ := sin_fold hw
  obtain ⟨z1, z2, z3, z4⟩ := sin_z d4
  have hz := sinZ_ab (f := d) ⟨Nat.le_trans d4.le (by decide +kernel), by decide +kernel⟩ (sv_nn d4.pos)
  have hu : Nn .f64 (fop .mul .f64 (sinZ d) (sinZ d)) 4616189618054758400 := ⟨mul_ab hz hz (by decide +kernel) (by decide +kernel), by rw [mul_sgn hz.fin hz.fin, Bool.xor_self]⟩
  have hp := sin_p hu
  have hpn := sinP_nn hu 8 (by omega)
  have hv := sinV_ab (f := d) ⟨Nat.le_trans d4.le (by decide +kernel), by decide +kernel⟩ (sv_nn d4.pos)
  have hvs : sgn .f64 (sinV d) = false := by rw [sinV_eq, mul_sgn z4 hpn.ab.fin, z2, hpn.pos]; rfl
  have hvl : rung .f64 4580160821035794432 ≤ rung .f64 (sinV d) := by
    rw [sinV_eq]
    exact mul_lb (a := 4589023905102459568) (b := 4598895795485655695) z4 hpn.ab.fin z3 hp (by decide +kernel) (by decide +kernel)
  have es : sineC x = fcv .f64 .f32 (sinV d) := by
    unfold sineC
    rw [if_pos h.ab.fin, if_neg (by rw [d2]; decide), fint_of d1, d3]
    unfold sinW
    rw [if_neg (by rw [z1]; decide)]
  rw [es]
  refine ⟨by rw [fcv_near hv.fin, nearest_sgn]; exact hvs, ?_⟩
  rw [fcv_near hv.fin]
  refine word_le_nearest _ (-1074) (by decide +kernel) (by decide) (by decide) ?_
  rw [show ((-1074 : Int) - -1074).toNat = 0 by decide, Nat.pow_zero, Nat.mul_one]
  refine Nat.le_trans ?_ (val_le hvl)
  decide +kernel
end Go.Proofs.YtenekhckmglobaaGreat
