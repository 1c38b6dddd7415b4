/-
  How great sines and angles are: a sine is at most 2 with either sign, an angle at most a half turn, and at most a quarter turn of a point that is not behind; what is not below has no sign. No walk. No premise.
-/
import Derived.Test.YtmioclcipdifpaaIn
import Derived.Test.YtmioclcipdifpaaAngM
namespace Go.Proofs.Ytmioclcipdifpaa
open Go Go.RowKit

def w1 : Nat := 4607182418800017408
theorem sv_zero (k : FloatKind) : sv k 0 = 0 := by cases k <;> decide +kernel
theorem fin_zero (k : FloatKind) : fin k 0 = true := by cases k <;> decide +kernel
theorem sgn_of_pos {k : FloatKind} {x : Nat} (h : 0 < sv k x) : sgn k x = false := by
  unfold sv at h
  cases hs : sgn k x
  · rfl
  · rw [hs] at h; simp only [if_true] at h; omega
theorem rung_le_of_sv {k : FloatKind} {x b : Nat} (h0 : 0 ≤ sv k x) (hb : sgn k b = false) (h : sv k x ≤ sv k b) : rung k x ≤ rung k b := by
  refine le_of_val ?_
  rw [sv_pos hb] at h
  have := sv_abs k x
  omega
theorem sv_nn {k : FloatKind} {x : Nat} (h : sgn k x = false) : 0 ≤ sv k x := by rw [sv_pos h]; omega
theorem lss_zero {k : FloatKind} {x : Nat} (h : fin k x = true) : fcmp .lss k x 0 = decide (sv k x < 0) := by
  rw [(fcmp_fin h (fin_zero k)).1, sv_zero]
/-! ## The sine -/
theorem one_nn : Nn .f64 w1 w1 := ⟨⟨Nat.le_refl _, by decide +kernel⟩, by decide +kernel⟩
theorem left_np {c : Nat} {iv : Int} (hf : fin .f64 c = true) (hm : many c = false) (hi : floatToIntVal .f64 c .i64 = some iv) : Ab .f64 (left c iv) w1 ∧ 0 ≤ sv .f64 (left c iv) := by
  have h := sub_whole hf hm hi
  have ha : Ab .f64 (fop .sub .f64 c (floatOfInt .f64 iv)) w1 := ab_of_bd h (by decide +kernel) (by decide +kernel)
  unfold left
  rw [lss_zero ha.fin]
  generalize fop .sub .f64 c (floatOfInt .f64 iv) = d at *
  split
  · rename_i hd; rw [decide_eq_true_eq] at hd
    have hv := ha.val
    rw [← sv_abs] at hv
    have h1 : sv .f64 4607182418800017408 = (val FloatKind.f64.format (rung .f64 w1) : Nat) := sv_pos (by decide +kernel)
    refine ⟨⟨?_, by decide +kernel⟩, ?_⟩
    · show rung .f64 (fop .add .f64 d w1) ≤ _
      rw [fop_add_near ha.fin one_nn.ab.fin]
      refine near_ab _ (by decide +kernel) ?_
      rw [show sv .f64 w1 = (val FloatKind.f64.format (rung .f64 w1) : Nat) from h1]; omega
    · refine sv_nn ?_
      show sgn .f64 (fop .add .f64 d w1) = false
      rw [fop_add_near ha.fin one_nn.ab.fin, nearest_sgn]
      split
      · rw [show sgn .f64 w1 = false from one_nn.pos, Bool.and_false]
      · rw [decide_eq_false_iff_not, show sv .f64 w1 = (val FloatKind.f64.format (rung .f64 w1) : Nat) from h1]; omega
  · rename_i hd; rw [decide_eq_true_eq] at hd
    exact ⟨ha, by omega⟩
theorem half_np {f : Nat} (h : Ab .f64 f w1) (h0 : 0 ≤ sv .f64 f) : Ab .f64 (half f) 4602678819172646912 ∧ 0 ≤ sv .f64 (half f) := by
  have hk : fin .f64 4602678819172646912 = true := by decide +kernel
  have hs : sgn .f64 4602678819172646912 = false := by decide +kernel
  have hkp : 0 < sv .f64 4602678819172646912 := by decide +kernel
  unfold half
  rw [(fcmp_fin h.fin hk).2.2.2.1]
  split
  · rename_i hd; rw [decide_eq_true_eq] at hd
    have hp := sgn_of_pos (Int.lt_of_lt_of_le hkp hd)
    have hr : rung .f64 4602678819172646912 ≤ rung .f64 f := rung_le_of_sv (Int.le_of_lt hkp) hp hd
    have := sub_nn2 (c := 4602678819172646912) (d := 4602678819172646912) (Nn.mk h hp) hk hs hr (Nat.le_refl _) hk (by decide +kernel)
    exact ⟨this.ab, sv_nn this.pos⟩
  · rename_i hd; rw [decide_eq_true_eq] at hd
    exact ⟨⟨rung_le_of_sv h0 hs (by omega), hk⟩, h0⟩
theorem fold_ab {f : Nat} (h : Ab .f64 f 4602678819172646912) (h0 : 0 ≤ sv .f64 f) : Ab .f64 (fold f) 4598175219545276416 := by
  have hk : fin .f64 4598175219545276416 = true := by decide +kernel
  have hs : sgn .f64 4598175219545276416 = false := by decide +kernel
  have hkp : 0 < sv .f64 4598175219545276416 := by decide +kernel
  unfold fold
  rw [(fcmp_fin h.fin hk).2.2.1]
  split
  · rename_i hd; rw [decide_eq_true_eq] at hd
    have hp := sgn_of_pos (Int.lt_trans hkp hd)
    have hr : rung .f64 4598175219545276416 ≤ rung .f64 f := rung_le_of_sv (Int.le_of_lt hkp) hp (Int.le_of_lt hd)
    exact (sub_nn2 (x := 4602678819172646912) (a := 4602678819172646912) (d := 4598175219545276416) ⟨⟨Nat.le_refl _, by decide +kernel⟩, by decide +kernel⟩ h.fin hp h.le hr hk (by decide +kernel)).ab
  · rename_i hd; rw [decide_eq_true_eq] at hd
    exact ⟨rung_le_of_sv h0 hs (by omega), hk⟩
theorem sinZ_ab {f : Nat} (h : Ab .f64 f w1) (h0 : 0 ≤ sv .f64 f) : Ab .f64 (sinZ f) 4611686018427387904 := by
  obtain ⟨h1, h2⟩ := half_np h h0
  exact mul_ab (b := 4618760256179416344) (fold_ab h1 h2) ⟨Nat.le_refl _, by decide +kernel⟩ (by decide +kernel) (by decide +kernel)
theorem den_ge {k : Nat} (h1 : 1 ≤ k) (h8 : k ≤ 8) : fin .f64 (den k) = true ∧ sgn .f64 (den k) = false ∧ rung .f64 4618441417868443648 ≤ rung .f64 (den k) := by
  have a : ∀ k, k < 9 → 1 ≤ k → fin .f64 (den k) = true ∧ sgn .f64 (den k) = false ∧ rung .f64 4618441417868443648 ≤ rung .f64 (den k) := by decide +kernel
  exact a k (by omega) h1
theorem sinP_nn {u : Nat} (hu : Nn .f64 u 4616189618054758400) (m : Nat) (hm : m ≤ 8) : Nn .f64 (sinP u m) w1 := by
  induction m with
  | zero => exact one_nn
  | succ m ih =>
    have ih := ih (by omega)
    have h1 := mul_nn (c := 4616189618054758400) hu ih (by decide +kernel) (by decide +kernel)
    obtain ⟨d1, d2, d3⟩ := den_ge (k := 8 - m) (by omega) (by omega)
    have h2 := quo_nn (c := w1) h1 d1 d2 d3 (by decide +kernel) (by decide +kernel) (by decide +kernel)
    exact sub_nn one_nn h2.ab.fin h2.pos h2.ab.le
theorem sinV_ab {f : Nat} (h : Ab .f64 f w1) (h0 : 0 ≤ sv .f64 f) : Ab .f64 (sinV f) 4611686018427387904 := by
  have hz := sinZ_ab h h0
  have hu : Nn .f64 (fop .mul .f64 (sinZ f) (sinZ f)) 4616189618054758400 := ⟨mul_ab hz hz (by decide +kernel) (by decide +kernel), by rw [mul_sgn hz.fin hz.fin, Bool.xor_self]⟩
  exact mul_ab hz (sinP_nn hu 8 (by omega)).ab (by decide +kernel) (by decide +kernel)
theorem Ab.neg {k : FloatKind} {x b : Nat} (h : Ab k x b) : Ab k (fneg k x) b := by
  have hn : isN k (Op.negFloat k x) = false := by rw [isN_neg]; exact fin_notN h.fin
  unfold fneg
  rw [nrm_not hn]
  exact ⟨by rw [rung_neg]; exact h.le, h.fit⟩
/-- A sine of a finite number of turns is at most 2. -/
theorem sine_ab {c : Nat} (hf : fin .f32 c = true) : Ab .f32 (sineC c) 1073741824 := by
  unfold sineC
  rw [if_pos hf]
  by_cases hm : many (fcv .f32 .f64 c) = true
  · rw [if_pos hm]; exact ⟨by decide +kernel, by decide +kernel⟩
  · rw [if_neg hm]
    have hf' : fin .f64 (fcv .f32 .f64 c) = true := by rw [fin_wide]; exact hf
    obtain ⟨iv, hi⟩ := fint_in hf' (by simpa using hm)
    rw [fint_of hi]
    obtain ⟨h1, h2⟩ := left_np hf' (by simpa using hm) hi
    have hv : Ab .f64 (sinW (left (fcv .f32 .f64 c) iv)) 4611686018427387904 := by
      unfold sinW
      split
      · exact (sinV_ab h1 h2).neg
      · exact sinV_ab h1 h2
    refine (narrow_ab hv.fin (by decide +kernel) ?_).1
    exact Nat.le_trans hv.le (by decide +kernel)
/-! ## The angle -/
theorem rootFrom_gt (n : Nat) : ∀ (todo root : Nat), n < (root + 2 ^ todo) * (root + 2 ^ todo) → n < (Ieee.Datum.rootFrom n todo root + 1) * (Ieee.Datum.rootFrom n todo root + 1) := by
  intro todo
  induction todo with
  | zero => intro root h; exact h
  | succ t ih =>
    intro root h
    unfold Ieee.Datum.rootFrom
    dsimp only
    rw [Nat.one_shiftLeft]
    apply ih
    split
    · rw [show root + 2 ^ t + 2 ^ t = root + 2 ^ (t + 1) by rw [Nat.pow_succ]; omega]; exact h
    · rename_i hc; omega
def tenB : Nat := 1074
/-- The root of what is at least 1 is at least 1. -/
theorem fsqrt_one {c : Nat} (hs : sgn .f64 c = false) (hl : Lb .f64 c 0) : rung .f64 w1 ≤ rung .f64 (fsqrt c) := by
  obtain ⟨m, i, h1, hm, h3, h4, h5⟩ := hl.read
  have h5' : -1074 ≤ i := h5
  obtain ⟨more, whole, stick, hpar, hw, e⟩ : ∃ more whole stick : Nat, (i - more) % 2 = 0 ∧ m * 2 ^ more < (whole + 1) * (whole + 1) ∧ fsqrt c = FloatKind.f64.format.nearest false (2 * whole + stick) ((i - more) / 2 - 1) := by
    unfold fsqrt Ieee.Format.sqrt
    rw [h1, hs]
    unfold Ieee.Datum.root
    dsimp only
    rw [if_neg hm, if_neg (by decide)]
    refine ⟨_, _, _, ?_, ?_, rfl⟩
    · omega
    · rw [← Nat.shiftLeft_eq]
      refine rootFrom_gt _ _ 0 ?_
      rw [Nat.zero_add, ← Nat.pow_add]
      refine Nat.lt_of_lt_of_le Nat.lt_log2_self (Nat.pow_le_pow_right (by omega) (by omega))
  rw [e]
  have hw0 : whole ≠ 0 := by
    intro h; subst h
    have : 0 < m * 2 ^ more := Nat.mul_pos (Nat.pos_of_ne_zero hm) (Nat.two_pow_pos _)
    omega
  have hbig : 2 ^ (-((i - more) / 2)).toNat ≤ whole := by
    by_cases he : 0 ≤ (i - more) / 2
    · rw [show (-((i - more) / 2)).toNat = 0 by omega]; omega
    · apply Nat.le_of_not_lt
      intro hlt
      have h6 : (whole + 1) * (whole + 1) ≤ 2 ^ (-((i - more) / 2)).toNat * 2 ^ (-((i - more) / 2)).toNat := Nat.mul_le_mul hlt hlt
      rw [← Nat.pow_add] at h6
      have h7 : 2 ^ (m.log2 + more) ≤ m * 2 ^ more := by rw [Nat.pow_add]; exact Nat.mul_le_mul_right _ (Nat.log2_self_le hm)
      have h8 : 2 ^ ((-((i - more) / 2)).toNat + (-((i - more) / 2)).toNat) ≤ 2 ^ (m.log2 + more) := Nat.pow_le_pow_right (by omega) (by omega)
      omega
  have hv1 : val FloatKind.f64.format (rung .f64 w1) = 2 ^ tenB := by decide +kernel
  have ht : tenB = 1074 := rfl
  generalize hj : (i - more) / 2 = j at *
  refine word_le_nearest _ (min (j - 1) (-1074)) (by decide +kernel) (by omega) (by show _ ≤ (-1074 : Int); omega) ?_
  rw [hv1, show FloatKind.f64.format.leastPlace = (-1074 : Int) from least64]
  have h9 : 2 * 2 ^ (-j).toNat ≤ 2 * whole + stick := by omega
  refine Nat.le_trans ?_ (Nat.mul_le_mul_right _ h9)
  rw [← Nat.pow_add, ← Nat.pow_succ', ← Nat.pow_add]
  exact Nat.pow_le_pow_right (by omega) (by omega)
theorem tHalf_nn {t a b : Nat} (ht : Nn .f64 t a) (h1 : rung .f64 a ≤ rung .f64 w1) (hb : fin .f64 b = true) (h : val FloatKind.f64.format (rung .f64 a) * 2 ^ (-FloatKind.f64.format.leastPlace).toNat ≤ val FloatKind.f64.format (rung .f64 b) * val FloatKind.f64.format (rung .f64 4611686018427387904)) : Nn .f64 (tHalf t) b := by
  have e1 : (((0 : Int) + (bias .f64 : Nat)).toNat * FloatKind.f64.format.binade) = rung .f64 w1 := by decide +kernel
  have hB : Bd .f64 t 0 := ⟨by rw [e1]; exact Nat.le_trans ht.ab.le h1, by decide, by decide⟩
  have hq := fop_mul_bd hB hB (by decide) (by decide)
  obtain ⟨s1, s2, s3⟩ := fop_one_add one_bd one_lb one_sgn hq (fop_sq hB) (by decide) (by decide)
  obtain ⟨r1, r2⟩ := fsqrt_bd s1 s3 (by decide)
  have r3 := fsqrt_one s3 s2
  obtain ⟨d1, _, d3⟩ := fop_one_add one_bd one_lb one_sgn r1 r2 (by decide) (by decide)
  refine quo_nn (d := 4611686018427387904) ht d1.fin d3 ?_ (by decide +kernel) hb h
  show rung .f64 4611686018427387904 ≤ rung .f64 (fop .add .f64 4607182418800017408 (fsqrt (fop .add .f64 4607182418800017408 (fop .mul .f64 t t))))
  rw [fop_add_near one_bd.fin r1.fin]
  refine word_le_nearest _ (-1074) (by decide +kernel) (by decide) (by decide) ?_
  have hv1 : val FloatKind.f64.format (rung .f64 w1) = 2 ^ tenB := by decide +kernel
  have ht : tenB = 1074 := rfl
  have hv2 : val FloatKind.f64.format (rung .f64 4611686018427387904) = 2 * 2 ^ tenB := by decide +kernel
  have h5 := val_le (f := FloatKind.f64.format) r3
  rw [sv_pos one_sgn, sv_pos r2, hv2]
  rw [show val FloatKind.f64.format (rung .f64 4607182418800017408) = 2 ^ tenB from hv1]
  rw [hv1] at h5
  rw [show (FloatKind.f64.format.leastPlace - -1074).toNat = 0 by decide]
  clear ht
  generalize (2 : Nat) ^ tenB = T at *
  simp only [Nat.pow_zero, Nat.mul_one]
  show 2 * T ≤ (((T : Nat) : Int) + ((val FloatKind.f64.format (rung .f64 (fsqrt (fop .add .f64 4607182418800017408 (fop .mul .f64 t t)))) : Nat) : Int)).natAbs
  have h6 : T ≤ val FloatKind.f64.format (rung .f64 (fsqrt (fop .add .f64 4607182418800017408 (fop .mul .f64 t t)))) := h5
  omega
theorem tIt3_nn {t : Nat} (ht : Nn .f64 t w1) : Nn .f64 (tIt t 3) 4593671619917905920 := by
  have h1 := tHalf_nn (b := 4602678819172646912) ht (Nat.le_refl _) (by decide +kernel) (by decide +kernel)
  have h2 := tHalf_nn (b := 4598175219545276416) h1 (by decide +kernel) (by decide +kernel) (by decide +kernel)
  exact tHalf_nn (b := 4593671619917905920) h2 (by decide +kernel) (by decide +kernel) (by decide +kernel)
/-- The polynomial's bounds. -/
def hiP : Nat → Nat
  | 0 => 0
  | m + 1 => fop .quo .f64 4607182418800017408 (floatOfInt .f64 (15 - 2 * (m : Int)))
theorem hiP_ok : ∀ m, m < 9 → fin .f64 (hiP m) = true ∧ sgn .f64 (hiP m) = false := by decide +kernel
theorem hiP_step : ∀ m, m < 8 → val FloatKind.f64.format (rung .f64 4580160821035794432) * val FloatKind.f64.format (rung .f64 (hiP m)) ≤ val FloatKind.f64.format (rung .f64 (hiP (m + 1))) * 2 ^ (-FloatKind.f64.format.leastPlace).toNat := by decide +kernel
theorem angP_nn {u : Nat} (hu : Nn .f64 u 4580160821035794432) (m : Nat) (hm : m ≤ 8) : Nn .f64 (angP u m) (hiP m) := by
  induction m with
  | zero => exact (⟨⟨Nat.le_refl _, by decide +kernel⟩, by decide +kernel⟩ : Nn .f64 0 0)
  | succ m ih =>
    have ih := ih (by omega)
    obtain ⟨a1, a2⟩ := hiP_ok (m + 1) (by omega)
    have h1 := mul_nn (c := hiP (m + 1)) hu ih a1 (hiP_step m (by omega))
    exact sub_nn (x := hiP (m + 1)) (a := hiP (m + 1)) ⟨⟨Nat.le_refl _, a1⟩, a2⟩ h1.ab.fin h1.pos h1.ab.le
theorem angV_nn {t : Nat} (ht : Nn .f64 t 4593671619917905920) : Nn .f64 (angV t) 4598175219545276416 := by
  have hu : Nn .f64 (fop .mul .f64 t t) 4580160821035794432 := mul_nn ht ht (by decide +kernel) (by decide +kernel)
  have hp := (angP_nn hu 8 (by omega)).mono (c := w1) (by decide +kernel) (by decide +kernel)
  have h1 := mul_nn (c := 4593671619917905920) ht hp (by decide +kernel) (by decide +kernel)
  have h2 := mul_nn (x := 4620693217682128896) (a := 4620693217682128896) (c := w1) ⟨⟨Nat.le_refl _, by decide +kernel⟩, by decide +kernel⟩ h1 (by decide +kernel) (by decide +kernel)
  exact quo_nn (d := 4616189618054758400) h2 (by decide +kernel) (by decide +kernel) (by decide +kernel) (by decide +kernel) (by decide +kernel) (by decide +kernel)
theorem quo_pos {k : FloatKind} {x y : Nat} (hx : fin k x = true) (hy : fin k y = true) (hn : rung k y ≠ 0) : sgn k (fop .quo k x y) = (sgn k x ^^ sgn k y) := by
  obtain ⟨m, p, a1, a2, a3, _, _⟩ := read_fin hx
  obtain ⟨n, q, b1, b2, b3, _, _⟩ := read_fin hy
  have hn0 : n ≠ 0 := by
    intro h; subst h
    rw [Nat.zero_mul] at b3
    exact hn (val_inj k.format (by rw [← b3, val_zero]))
  have e : fop .quo k x y = k.format.nearest (sgn k x ^^ sgn k y)
      (2 * ((m <<< (k.format.fractionBits + 2 + n.log2 - m.log2)) / n) + ((m <<< (k.format.fractionBits + 2 + n.log2 - m.log2)) % n != 0).toNat) (p - q - (k.format.fractionBits + 2 + n.log2 - m.log2 : Nat) - 1) := by
    refine fop_of_some ?_
    unfold floatBits Ieee.Format.div
    dsimp only
    rw [a1, b1]
    unfold Ieee.Datum.quotient
    dsimp only
    rw [if_neg hn0]
    rfl
  rw [e, nearest_sgn]
theorem angT_nn {y x : Nat} (hy : fin .f64 y = true) (hx : fin .f64 x = true) (hz : ¬ (rung .f64 y = 0 ∧ rung .f64 x = 0)) : Nn .f64 (angT y x) w1 := by
  have hb := angT_bd hy hx hz
  refine ⟨ab_of_bd hb (by decide +kernel) (by decide +kernel), ?_⟩
  have fy : fin .f64 (fabs y) = true := by rw [fin_fabs]; exact hy
  have fx : fin .f64 (fabs x) = true := by rw [fin_fabs]; exact hx
  have ho : over y x = decide (rung .f64 x < rung .f64 y) := by
    unfold over
    rw [(fcmp_fin fy fx).2.2.1, sv_pos (sgn_fabs y), sv_pos (sgn_fabs x), rung_fabs, rung_fabs]
    have := val_lt_iff FloatKind.f64.format (rung .f64 x) (rung .f64 y)
    rw [Bool.eq_iff_iff, decide_eq_true_eq, decide_eq_true_eq, ← this]
    omega
  unfold angT
  rw [ho]
  split
  · rename_i h; rw [decide_eq_true_eq] at h
    rw [quo_pos fx fy (by rw [rung_fabs]; omega), sgn_fabs, sgn_fabs]; rfl
  · rename_i h; rw [decide_eq_true_eq] at h
    rw [quo_pos fy fx (by rw [rung_fabs]; omega), sgn_fabs, sgn_fabs]; rfl
theorem ang1_nn {y x : Nat} (hy : fin .f64 y = true) (hx : fin .f64 x = true) (hz : ¬ (rung .f64 y = 0 ∧ rung .f64 x = 0)) : Nn .f64 (ang1 y x) 4598175219545276416 := by
  have hv := angV_nn (tIt3_nn (angT_nn hy hx hz))
  unfold ang1; split
  · exact sub_nn (x := 4598175219545276416) ⟨⟨Nat.le_refl _, by decide +kernel⟩, by decide +kernel⟩ hv.ab.fin hv.pos hv.ab.le
  · exact hv
theorem ang2_nn {y x : Nat} (hy : fin .f64 y = true) (hx : fin .f64 x = true) (hz : ¬ (rung .f64 y = 0 ∧ rung .f64 x = 0)) : Nn .f64 (ang2 y x) 4602678819172646912 ∧ (fcmp .lss .f64 x 0 = false → Nn .f64 (ang2 y x) 4598175219545276416) := by
  have hv := ang1_nn hy hx hz
  unfold ang2; split
  · rename_i h
    refine ⟨sub_nn (x := 4602678819172646912) ⟨⟨Nat.le_refl _, by decide +kernel⟩, by decide +kernel⟩ hv.ab.fin hv.pos (Nat.le_trans hv.ab.le (by decide +kernel)), fun h2 => ?_⟩
    rw [h] at h2; exact absurd h2 (by decide)
  · exact ⟨hv.mono (by decide +kernel) (by decide +kernel), fun _ => hv⟩
theorem ang3_ab {y x : Nat} (hy : fin .f64 y = true) (hx : fin .f64 x = true) (hz : ¬ (rung .f64 y = 0 ∧ rung .f64 x = 0)) : Ab .f64 (ang3 y x) 4602678819172646912 ∧ (fcmp .lss .f64 x 0 = false → Ab .f64 (ang3 y x) 4598175219545276416) ∧ (fcmp .lss .f64 y 0 = false → sgn .f64 (ang3 y x) = false) := by
  obtain ⟨h1, h2⟩ := ang2_nn hy hx hz
  unfold ang3; split
  · rename_i h
    exact ⟨h1.ab.neg, fun g => (h2 g).ab.neg, fun g => by rw [h] at g; exact absurd g (by decide)⟩
  · exact ⟨h1.ab, fun g => (h2 g).ab, fun _ => h1.pos⟩
/-- An angle is at most a half turn; at most a quarter of a point that is not behind; without a sign above. -/
theorem angle_ab {y x : Nat} (hy : fin .f32 y = true) (hx : fin .f32 x = true) : Ab .f32 (angleC y x) 1056964608 ∧ (fcmp .lss .f32 x 0 = false → Ab .f32 (angleC y x) 1048576000) ∧ (fcmp .lss .f32 y 0 = false → sgn .f32 (angleC y x) = false) := by
  unfold angleC
  rw [if_pos ⟨hy, hx⟩]
  by_cases hz : fcmp .eql .f32 y 0 = true ∧ fcmp .eql .f32 x 0 = true
  · rw [if_pos hz]
    exact ⟨⟨by decide +kernel, by decide +kernel⟩, fun _ => ⟨by decide +kernel, by decide +kernel⟩, fun _ => by decide +kernel⟩
  · rw [if_neg hz]
    have fy : fin .f64 (fcv .f32 .f64 y) = true := by rw [fin_wide]; exact hy
    have fx : fin .f64 (fcv .f32 .f64 x) = true := by rw [fin_wide]; exact hx
    obtain ⟨g1, g2, g3⟩ := ang3_ab fy fx (by
      rintro ⟨h1, h2⟩
      refine hz ⟨?_, ?_⟩
      · rw [← fcmp_wide0, eql_zero fy, decide_eq_true h1]
      · rw [← fcmp_wide0, eql_zero fx, decide_eq_true h2])
    rw [fcmp_wide0] at g2 g3
    refine ⟨(narrow_ab g1.fin (by decide +kernel) (Nat.le_trans g1.le (by decide +kernel))).1, fun h => (narrow_ab g1.fin (by decide +kernel) (Nat.le_trans (g2 h).le (by decide +kernel))).1, fun h => ?_⟩
    rw [(narrow_ab (c := 1056964608) g1.fin (by decide +kernel) (Nat.le_trans g1.le (by decide +kernel))).2, g3 h]
end Go.Proofs.Ytmioclcipdifpaa
