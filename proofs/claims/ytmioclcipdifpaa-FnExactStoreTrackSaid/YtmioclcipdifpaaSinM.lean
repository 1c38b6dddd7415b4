/-
  The sine of a number of turns in 64 bits, as one Lean function; that it is small enough to be narrowed; the whole ones of some turns. No walk. No premise.
-/
import Derived.Test.YtmioclcipdifpaaBnd
import Derived.Test.YtmioclcipdifpaaCn
namespace Go.Proofs.Ytmioclcipdifpaa
open Go Go.RowKit

/-- So many turns that no places behind the point are left. -/
def many (c : Nat) : Bool := fcmp .geq .f64 (fabs c) 4841369599423283200
/-- Turns less the whole ones. -/
def left (c : Nat) (n : Int) : Nat :=
  if fcmp .lss .f64 (fop .sub .f64 c (floatOfInt .f64 n)) 0 = true then fop .add .f64 (fop .sub .f64 c (floatOfInt .f64 n)) 4607182418800017408
  else fop .sub .f64 c (floatOfInt .f64 n)
def half (f : Nat) : Nat := if fcmp .geq .f64 f 4602678819172646912 = true then fop .sub .f64 f 4602678819172646912 else f
def fold (f : Nat) : Nat := if fcmp .gtr .f64 f 4598175219545276416 = true then fop .sub .f64 4602678819172646912 f else f
/-- 2 k (2 k + 1) as a float64. -/
def den (k : Nat) : Nat := floatOfInt .f64 (2 * k * (2 * k + 1))
/-- The polynomial behind m rounds. -/
def sinP (u : Nat) : Nat → Nat
  | 0 => 4607182418800017408
  | m + 1 => fop .sub .f64 4607182418800017408 (fop .quo .f64 (fop .mul .f64 u (sinP u m)) (den (8 - m)))
def sinZ (f : Nat) : Nat := fop .mul .f64 (fold (half f)) 4618760256179416344
def sinV (f : Nat) : Nat := fop .mul .f64 (sinZ f) (sinP (fop .mul .f64 (sinZ f) (sinZ f)) 8)
/-- The sine of what is left of some turns. -/
def sinW (f : Nat) : Nat := if fcmp .geq .f64 f 4602678819172646912 = true then fneg .f64 (sinV f) else sinV f

theorem sinW_of {f : Nat} {b : Bool} (h : fcmp .geq .f64 f 4602678819172646912 = b) : sinW f = if b then fneg .f64 (sinV f) else sinV f := by unfold sinW; rw [h]
theorem sinZ_of {f : Nat} {b : Bool} (h : fcmp .gtr .f64 (half f) 4598175219545276416 = b) : sinZ f = fop .mul .f64 (if b then fop .sub .f64 4602678819172646912 (half f) else half f) 4618760256179416344 := by unfold sinZ fold; rw [h]
theorem sinV_eq (f : Nat) : sinV f = fop .mul .f64 (sinZ f) (sinP (fop .mul .f64 (sinZ f) (sinZ f)) 8) := rfl
theorem int_ext {k : IntKind} {a b : Int} (h : a = b) : Value.int k a = .int k b := by rw [h]
theorem sinP_zero (u : Nat) : Fl .f64 (sinP u (8 - 8)) 4607182418800017408 := Fl.not (k := .f64) (x := 4607182418800017408) (by decide +kernel) (by decide +kernel)
theorem den_wrap {k : Nat} (h : k ≤ 8) : wrap64 (2 * (k : Int) * (2 * k + 1)) = 2 * (k : Int) * (2 * k + 1) := by
  rcases (by omega : k = 0 ∨ k = 1 ∨ k = 2 ∨ k = 3 ∨ k = 4 ∨ k = 5 ∨ k = 6 ∨ k = 7 ∨ k = 8) with rfl | rfl | rfl | rfl | rfl | rfl | rfl | rfl | rfl <;> exact IntWalk.wrap64_in _ (by omega)
theorem sinP_step {u m : Nat} (h : 1 ≤ m) (hm : m ≤ 8) : sinP u (8 - (m - 1)) = fop .sub .f64 4607182418800017408 (fop .quo .f64 (fop .mul .f64 u (sinP u (8 - m))) (floatOfInt .f64 (wrap64 (2 * (m : Int) * (2 * m + 1))))) := by
  rw [den_wrap hm, show 8 - (m - 1) = (8 - m) + 1 by omega, sinP, den, show 8 - (8 - m) = m by omega]
/-! ## The program's own loop, whose counter is a float64 -/
theorem upTo8 {p : Nat → Prop} (h : ∀ m, m < 9 → p m) {m : Nat} (hm : m ≤ 8) : p m := h m (by omega)
theorem kf_geq {m : Nat} (hm : m ≤ 8) : fcmp .geq .f64 (floatOfInt .f64 m) 4607182418800017408 = decide (1 ≤ m) := by
  have : ∀ m, m < 9 → fcmp .geq .f64 (floatOfInt .f64 (m : Nat)) 4607182418800017408 = decide (1 ≤ m) := by decide +kernel
  exact this m (by omega)
theorem kf_sub {m : Nat} (h : 1 ≤ m) (hm : m ≤ 8) : fop .sub .f64 (floatOfInt .f64 m) 4607182418800017408 = floatOfInt .f64 ((m - 1 : Nat) : Int) := by
  have : ∀ m, m < 9 → 1 ≤ m → fop .sub .f64 (floatOfInt .f64 (m : Nat)) 4607182418800017408 = floatOfInt .f64 ((m - 1 : Nat) : Int) := by decide +kernel
  exact this m (by omega) h
theorem kf_den {m : Nat} (hm : m ≤ 8) : fop .mul .f64 (fop .mul .f64 4611686018427387904 (floatOfInt .f64 m)) (fop .add .f64 (fop .mul .f64 4611686018427387904 (floatOfInt .f64 m)) 4607182418800017408) = den m := by
  have : ∀ m, m < 9 → fop .mul .f64 (fop .mul .f64 4611686018427387904 (floatOfInt .f64 (m : Nat))) (fop .add .f64 (fop .mul .f64 4611686018427387904 (floatOfInt .f64 (m : Nat))) 4607182418800017408) = den m := by decide +kernel
  exact this m (by omega)
theorem sinP_step' {u m : Nat} (h : 1 ≤ m) (hm : m ≤ 8) : sinP u (8 - (m - 1)) = fop .sub .f64 4607182418800017408 (fop .quo .f64 (fop .mul .f64 u (sinP u (8 - m))) (den m)) := by
  rw [show 8 - (m - 1) = (8 - m) + 1 by omega, sinP, show 8 - (8 - m) = m by omega]
theorem kf_lt {m a b : Nat} (h : 1 ≤ m) (hm : m ≤ 8) (ha : Fl .f64 (floatOfInt .f64 ((m - 1 : Nat) : Int)) a) (hb : Fl .f64 (floatOfInt .f64 m) b) : a < b := by
  have : ∀ m, m < 9 → 1 ≤ m → floatOfInt .f64 ((m - 1 : Nat) : Int) < floatOfInt .f64 (m : Nat) := by decide +kernel
  rw [ha.word (nearest_notN _ _), hb.word (nearest_notN _ _)]
  exact this m (by omega) h
theorem eight : Fl .f64 (floatOfInt .f64 ((8 : Nat) : Int)) 4620693217682128896 := by
  have e : floatOfInt .f64 ((8 : Nat) : Int) = 4620693217682128896 := by decide +kernel
  rw [e]; exact Fl.not (by decide +kernel) (by decide +kernel)

/-! ## Many turns, and the whole ones -/
theorem many_rung {c : Nat} (hf : fin .f64 c = true) (hm : many c = false) : rung .f64 c < 4841369599423283200 := by
  have hk : fin .f64 4841369599423283200 = true := by decide +kernel
  have hks : sgn .f64 4841369599423283200 = false := by decide +kernel
  have hk2 : rung .f64 4841369599423283200 = 4841369599423283200 := by decide +kernel
  have hl := lss_pos (k := .f64) (x := fabs c) (by rw [fin_fabs]; exact hf) hk (sgn_fabs c) hks
  rw [rung_fabs, hk2] at hl
  unfold many fcmp at hm
  simp only [Bool.or_eq_false_iff, beq_eq_false_iff_ne, ne_eq] at hm
  by_cases hh : rung .f64 c < 4841369599423283200
  · exact hh
  · rw [decide_eq_false hh, order_fin (by rw [fin_fabs]; exact hf) hk] at hl
    rw [order_fin (by rw [fin_fabs]; exact hf) hk] at hm
    cases ho : compare (sv .f64 (fabs c)) (sv .f64 4841369599423283200) <;> rw [ho] at hl hm
    · cases hl
    · exact absurd rfl hm.2
    · exact absurd rfl hm.1
def pb : Nat := 1074
theorem fint_in {c : Nat} (hf : fin .f64 c = true) (hm : many c = false) : ∃ iv, floatToIntVal .f64 c .i64 = some iv := by
  obtain ⟨m, p, h1, h2, h3, h4, h5⟩ := read_fin hf
  have hl := many_rung hf hm
  have hv := val_mono FloatKind.f64.format hl
  rw [← h3, least64] at hv
  have hkv : val FloatKind.f64.format 4841369599423283200 = 4503599627370496 * 2 ^ pb := by decide +kernel
  rw [hkv] at hv
  rw [bi64] at h4
  rw [least64] at h2
  have hcut : ∃ m' : Nat, m' < 9007199254740992 ∧ (FloatKind.f64.decode c).toInt .zero = some (Ieee.signed (sgn .f64 c) m' 0) := by
    unfold FloatKind.decode
    rw [h1]
    refine ⟨Ieee.Toward.zero.cut (sgn .f64 c) (m <<< p.toNat) (-p).toNat, ?_, rfl⟩
    by_cases hp : 0 ≤ p
    · rw [show (-p).toNat = 0 by omega, cut_none, Nat.shiftLeft_eq]
      have e : (p - -1074).toNat = p.toNat + pb := by unfold pb; omega
      rw [e, Nat.pow_add, ← Nat.mul_assoc] at hv
      have := Nat.lt_of_mul_lt_mul_right hv
      omega
    · rw [show p.toNat = 0 by omega, Nat.shiftLeft_zero]
      unfold Ieee.Toward.cut
      dsimp only
      have : m / 1 <<< min (-p).toNat (m.log2 + 2) ≤ m := Nat.div_le_self _ _
      simp only [Bool.toNat_false, Nat.add_zero]
      omega
  obtain ⟨m', hm', ht⟩ := hcut
  unfold floatToIntVal
  rw [ht]
  have hb : IntKind.i64.min ≤ Ieee.signed (sgn .f64 c) m' 0 ∧ Ieee.signed (sgn .f64 c) m' 0 ≤ IntKind.i64.max := by
    rw [show IntKind.i64.min = -9223372036854775808 by decide, show IntKind.i64.max = 9223372036854775807 by decide]
    unfold Ieee.signed
    cases sgn .f64 c <;> simp <;> omega
  exact ⟨_, if_pos hb⟩

/-! ## What is left of some turns is at most one -/
theorem cut_zero {s : Bool} {m : Nat} {p : Int} (hp : -1074 ≤ p) : Ieee.Toward.zero.cut s (m <<< p.toNat) (-p).toNat = m * 2 ^ (p + 1074).toNat / 2 ^ pb := by
  by_cases h : 0 ≤ p
  · rw [show (-p).toNat = 0 by omega, cut_none, Nat.shiftLeft_eq, show (p + 1074).toNat = p.toNat + pb by unfold pb; omega, Nat.pow_add, ← Nat.mul_assoc, Nat.mul_div_cancel _ (Nat.two_pow_pos _)]
  · rw [show p.toNat = 0 by omega, Nat.shiftLeft_zero]
    have e : 2 ^ pb = 2 ^ (-p).toNat * 2 ^ (p + 1074).toNat := by rw [← Nat.pow_add]; congr 1; unfold pb; omega
    rw [e, Nat.mul_div_mul_right _ _ (Nat.two_pow_pos _)]
    unfold Ieee.Toward.cut
    dsimp only
    rw [Nat.one_shiftLeft]
    simp only [Bool.toNat_false, Nat.add_zero]
    by_cases hd : (-p).toNat ≤ m.log2 + 2
    · rw [Nat.min_eq_left hd]
    · rw [Nat.min_eq_right (by omega)]
      by_cases hm : m = 0
      · subst hm; simp
      · have hlog := (Nat.log2_lt (n := m) (k := m.log2 + 1) hm).1 (Nat.lt_succ_self _)
        have h1 : 2 ^ (m.log2 + 1) ≤ 2 ^ (m.log2 + 2) := Nat.pow_le_pow_right (by omega) (by omega)
        have h2 : 2 ^ (m.log2 + 1) ≤ 2 ^ (-p).toNat := Nat.pow_le_pow_right (by omega) (by omega)
        rw [Nat.div_eq_of_lt (by omega), Nat.div_eq_of_lt (by omega)]
theorem sub_whole {c : Nat} {iv : Int} (hf : fin .f64 c = true) (hm : many c = false) (hi : floatToIntVal .f64 c .i64 = some iv) : Bd .f64 (fop .sub .f64 c (floatOfInt .f64 iv)) 0 := by
  obtain ⟨m, p, h1, h2, h3, h4, h5⟩ := read_fin hf
  have hv := val_mono FloatKind.f64.format (many_rung hf hm)
  have hkv : val FloatKind.f64.format 4841369599423283200 = 4503599627370496 * 2 ^ pb := by decide +kernel
  rw [← h3, hkv, least64] at hv
  rw [least64] at h2 h3
  rw [show p - -1074 = p + 1074 by omega] at hv h3
  -- the whole number
  have hiv : iv = Ieee.signed (sgn .f64 c) (m * 2 ^ (p + 1074).toNat / 2 ^ pb) 0 := by
    unfold floatToIntVal FloatKind.decode at hi
    rw [h1] at hi
    have : (Ieee.Datum.number (sgn .f64 c) m p).toInt .zero = some (Ieee.signed (sgn .f64 c) (m * 2 ^ (p + 1074).toNat / 2 ^ pb) 0) := by
      unfold Ieee.Datum.toInt Ieee.Datum.integral
      dsimp only
      rw [cut_zero h2]
    rw [this] at hi
    dsimp only at hi
    split at hi
    · exact (Option.some.inj hi).symm
    · cases hi
  generalize hX : m * 2 ^ (p + 1074).toNat = X at *
  have hpos := Nat.two_pow_pos pb
  have hm' : X / 2 ^ pb < 4503599627370496 := by rw [Nat.div_lt_iff_lt_mul hpos]; exact hv
  generalize hq : X / 2 ^ pb = m' at *
  have hX1 : m' * 2 ^ pb ≤ X := by rw [← hq]; exact Nat.div_mul_le_self _ _
  have hX2 : X < m' * 2 ^ pb + 2 ^ pb := by
    have := Nat.div_add_mod X (2 ^ pb)
    have h6 := Nat.mod_lt X hpos
    rw [hq, Nat.mul_comm] at this
    omega
  have habs : iv.natAbs = m' := by rw [hiv]; unfold Ieee.signed; cases sgn .f64 c <;> simp
  have hlog : m'.log2 ≤ 52 := by
    by_cases hz : m' = 0
    · rw [hz]; decide
    · have := (Nat.log2_lt (n := m') (k := 53) hz).2 (by omega)
      omega
  have eN : floatOfInt .f64 iv = FloatKind.f64.format.nearest (decide (iv < 0)) m' 0 := by
    unfold floatOfInt FloatKind.nearest FloatKind.encode
    rw [habs]; rfl
  obtain ⟨n1, n2, n3⟩ := nearest_val (k := .f64) (decide (iv < 0)) m' 0 (by rw [frac64]; exact hlog) (by rw [least64]; omega) (by rw [least64, frac64, bi64, in64]; omega)
  rw [← eN] at n1 n2 n3
  obtain ⟨mN, pN, g1, g2, g3, _, _⟩ := read_fin n1
  rw [n3, least64, show (0 - -1074 : Int).toNat = pb from rfl] at g3
  rw [least64] at g2
  rw [show pN - -1074 = pN + 1074 by omega] at g3
  have hdif := fop_dif_some h1 g1
  unfold Ieee.Datum.sum at hdif
  dsimp only [Option.map_some] at hdif
  rw [← Option.some.inj hdif]
  refine nearest_bd _ _ _ (by show (1 : Int) ≤ 0 + 1023; omega) (by show (0 : Int) + 1023 ≤ 2046; omega) ?_
  generalize hbase : min p pN = base
  have hA : m * 2 ^ (p - base).toNat * 2 ^ (base + 1074).toNat = X := by
    have e : (p - base).toNat + (base + 1074).toNat = (p + 1074).toNat := by omega
    rw [Nat.mul_assoc, ← Nat.pow_add, e, hX]
  have hB : mN * 2 ^ (pN - base).toNat * 2 ^ (base + 1074).toNat = m' * 2 ^ pb := by
    have e : (pN - base).toNat + (base + 1074).toNat = (pN + 1074).toNat := by omega
    rw [Nat.mul_assoc, ← Nat.pow_add, e, g3]
  clear hX g3 hdif h1 g1
  have htot : (Ieee.signed (sgn .f64 c) m (p - base).toNat + Ieee.signed (!sgn .f64 (floatOfInt .f64 iv)) mN (pN - base).toNat).natAbs = m * 2 ^ (p - base).toNat - mN * 2 ^ (pN - base).toNat := by
    have hle : mN * 2 ^ (pN - base).toNat ≤ m * 2 ^ (p - base).toNat := by
      refine Nat.le_of_mul_le_mul_right (c := 2 ^ (base + 1074).toNat) ?_ (Nat.two_pow_pos _)
      rw [hA, hB]; exact hX1
    rw [n2]
    unfold Ieee.signed
    rw [Nat.shiftLeft_eq, Nat.shiftLeft_eq]
    have hB0 : m' = 0 → mN * 2 ^ (pN - base).toNat = 0 := by
      intro hz
      rw [hz, Nat.zero_mul] at hB
      rcases Nat.mul_eq_zero.1 hB with h | h
      · exact h
      · have := Nat.two_pow_pos (base + 1074).toNat; omega
    clear hA hB
    generalize m * 2 ^ (p - base).toNat = A at *
    generalize mN * 2 ^ (pN - base).toNat = B at *
    by_cases hz : m' = 0
    · rw [hB0 hz]
      cases sgn .f64 c <;> cases decide (iv < 0) <;> simp
    · have hs : decide (iv < 0) = sgn .f64 c := by
        rw [hiv]; unfold Ieee.signed
        cases sgn .f64 c <;> simp <;> omega
      rw [hs]
      cases sgn .f64 c <;> simp only [Bool.false_eq_true, if_false, if_true, Bool.not_false, Bool.not_true] <;> omega
  rw [htot]
  have hdiff : (m * 2 ^ (p - base).toNat - mN * 2 ^ (pN - base).toNat) * 2 ^ (base + 1074).toNat < 2 ^ pb := by
    rw [Nat.mul_sub_right_distrib, hA, hB]; omega
  by_cases hb0 : base ≤ 0
  · right
    refine ⟨hb0, ?_⟩
    have e1 : pb = (0 - base).toNat + (base + 1074).toNat := by unfold pb; omega
    rw [e1, Nat.pow_add] at hdiff
    exact Nat.le_of_lt (Nat.lt_of_mul_lt_mul_right hdiff)
  · left
    have h7 : 2 ^ pb ≤ 2 ^ (base + 1074).toNat := Nat.pow_le_pow_right (by omega) (by unfold pb; omega)
    have h8 : (m * 2 ^ (p - base).toNat - mN * 2 ^ (pN - base).toNat) * 2 ^ (base + 1074).toNat < 1 * 2 ^ (base + 1074).toNat := by omega
    have := Nat.lt_of_mul_lt_mul_right h8
    omega

/-! ## The sine is small enough to be narrowed -/
theorem one_bd : Bd .f64 4607182418800017408 0 := ⟨by decide +kernel, by decide, by decide⟩
theorem left_bd {c : Nat} {iv : Int} (hf : fin .f64 c = true) (hm : many c = false) (hi : floatToIntVal .f64 c .i64 = some iv) : Bd .f64 (left c iv) 1 := by
  have h := sub_whole hf hm hi
  unfold left
  split
  · exact fop_add_bd h one_bd (by decide)
  · exact h.mono (by decide) (by decide)
theorem half_bd {f : Nat} (h : Bd .f64 f 1) : Bd .f64 (half f) 2 := by
  have hk : Bd .f64 4602678819172646912 1 := ⟨by decide +kernel, by decide, by decide⟩
  unfold half
  split
  · exact fop_sub_bd h hk (by decide)
  · exact h.mono (by decide) (by decide)
theorem fold_bd {f : Nat} (h : Bd .f64 f 2) : Bd .f64 (fold f) 3 := by
  have hk : Bd .f64 4602678819172646912 2 := ⟨by decide +kernel, by decide, by decide⟩
  unfold fold
  split
  · exact fop_sub_bd hk h (by decide)
  · exact h.mono (by decide) (by decide)
theorem sinZ_bd {f : Nat} (h : Bd .f64 f 1) : Bd .f64 (sinZ f) 6 := by
  have hk : Bd .f64 4618760256179416344 3 := ⟨by decide +kernel, by decide, by decide⟩
  exact fop_mul_bd (fold_bd (half_bd h)) hk (by decide) (by decide)
theorem den_lb {k : Nat} (h1 : 1 ≤ k) (h8 : k ≤ 8) : Lb .f64 (den k) 2 := by
  have a : ∀ k, k < 9 → 1 ≤ k → fin .f64 (den k) = true := by decide +kernel
  have b : ∀ k, k < 9 → 1 ≤ k → ((2 : Int) + bias .f64).toNat * FloatKind.f64.format.binade ≤ rung .f64 (den k) := by decide +kernel
  exact ⟨a k (by omega) h1, by decide, b k (by omega) h1⟩
theorem sinP_bd {u : Nat} (hu : Bd .f64 u 12) (m : Nat) (hm : m ≤ 8) : Bd .f64 (sinP u m) (11 * m) := by
  induction m with
  | zero => exact one_bd
  | succ m ih =>
    have ih := ih (by omega)
    have h1 := fop_mul_bd hu ih (by show (1 : Int) ≤ _ + 1023; omega) (by show _ + (1023 : Int) ≤ 2046; omega)
    have h2 := fop_quo_bd h1 (den_lb (k := 8 - m) (by omega) (by omega)) (by show (1 : Int) ≤ _ + 1023; omega) (by show _ + (1023 : Int) ≤ 2046; omega)
    have h3 := fop_sub_bd (one_bd.mono (F := 12 + 11 * (m : Int) - 2) (by omega) (by show _ + (1023 : Int) ≤ 2046; omega)) h2 (by show _ + (1023 : Int) ≤ 2046; omega)
    rw [show ((11 : Int) * ((m + 1 : Nat) : Int)) = 12 + 11 * (m : Int) - 2 + 1 by omega]
    exact h3
theorem Bd.neg {k : FloatKind} {x : Nat} {E : Int} (h : Bd k x E) : Bd k (fneg k x) E := by
  have hn : isN k (Op.negFloat k x) = false := by rw [isN_neg]; exact fin_notN h.fin
  unfold fneg
  rw [nrm_not hn]
  exact ⟨by rw [rung_neg]; exact h.le, h.low, h.fit⟩
theorem sinV_bd {f : Nat} (h : Bd .f64 f 1) : Bd .f64 (sinV f) 94 := by
  have hz := sinZ_bd h
  exact fop_mul_bd hz (sinP_bd (fop_mul_bd hz hz (by decide) (by decide)) 8 (by omega)) (by decide) (by decide)
theorem sinW_bd {f : Nat} (h : Bd .f64 f 1) : Bd .f64 (sinW f) 94 := by
  unfold sinW
  split
  · exact (sinV_bd h).neg
  · exact sinV_bd h

/-! ## The sine of a float32 -/
theorem fcmp_fin {k : FloatKind} {x y : Nat} (hx : fin k x = true) (hy : fin k y = true) :
    fcmp .lss k x y = decide (sv k x < sv k y) ∧ fcmp .leq k x y = decide (sv k x ≤ sv k y) ∧ fcmp .gtr k x y = decide (sv k y < sv k x) ∧ fcmp .geq k x y = decide (sv k y ≤ sv k x) ∧ fcmp .eql k x y = decide (sv k x = sv k y) ∧ fcmp .neq k x y = decide (sv k x ≠ sv k y) := by
  unfold fcmp
  dsimp only
  rw [order_fin hx hy]
  rcases Int.lt_trichotomy (sv k x) (sv k y) with h | h | h
  · rw [Int.compare_eq_lt.2 h, decide_eq_true h, decide_eq_true (by omega : sv k x ≤ sv k y), decide_eq_false (by omega : ¬ sv k y < sv k x), decide_eq_false (by omega : ¬ sv k y ≤ sv k x), decide_eq_false (by omega : ¬ sv k x = sv k y), decide_eq_true (by omega : sv k x ≠ sv k y)]
    exact ⟨rfl, rfl, rfl, rfl, rfl, rfl⟩
  · rw [h, Int.compare_eq_eq.2 rfl]
    simp
  · rw [Int.compare_eq_gt.2 h, decide_eq_false (by omega : ¬ sv k x < sv k y), decide_eq_false (by omega : ¬ sv k x ≤ sv k y), decide_eq_true h, decide_eq_true (by omega : sv k y ≤ sv k x), decide_eq_false (by omega : ¬ sv k x = sv k y), decide_eq_true (by omega : sv k x ≠ sv k y)]
    exact ⟨rfl, rfl, rfl, rfl, rfl, rfl⟩
theorem sv_k52 : sv .f64 14064741636278059008 = -sv .f64 4841369599423283200 := by decide +kernel
/-- The model's own test of many turns. -/
theorem many_fin {c : Nat} (hf : fin .f64 c = true) : many c = (fcmp .geq .f64 c 4841369599423283200 || fcmp .leq .f64 c 14064741636278059008) := by
  have hk : fin .f64 4841369599423283200 = true := by decide +kernel
  have hk' : fin .f64 14064741636278059008 = true := by decide +kernel
  have hp : 0 < sv .f64 4841369599423283200 := by decide +kernel
  unfold many
  rw [(fcmp_fin (x := fabs c) (by rw [fin_fabs]; exact hf) hk).2.2.2.1, (fcmp_fin hf hk).2.2.2.1, (fcmp_fin hf hk').2.1, sv_k52, sv_pos (sgn_fabs c), rung_fabs]
  generalize sv .f64 4841369599423283200 = K at *
  unfold sv
  cases sgn .f64 c <;> simp only [Bool.false_eq_true, if_false, if_true]
  all_goals
    have hV : (0 : Int) ≤ (val FloatKind.f64.format (rung .f64 c) : Nat) := Int.natCast_nonneg _
    generalize ((val FloatKind.f64.format (rung .f64 c) : Nat) : Int) = V at *
    rw [Bool.eq_iff_iff]
    simp only [decide_eq_true_eq, Bool.or_eq_true]
    omega
/-- The sine of a float32 number of turns. -/
def sineC (c : Nat) : Nat :=
  if fin .f32 c = true then
    if many (fcv .f32 .f64 c) = true then 0 else fcv .f64 .f32 (sinW (left (fcv .f32 .f64 c) (fint (fcv .f32 .f64 c))))
  else qn .f32
theorem fint_of {c : Nat} {iv : Int} (h : floatToIntVal .f64 c .i64 = some iv) : fint c = iv := by unfold fint; rw [h]; rfl
theorem fcmp_neq_fin {c : Nat} (k : FloatKind) : fcmp .neq k (fop .sub k c c) 0 = !fin k c := by
  unfold fcmp
  rw [← sub_self_zero k c]
  rfl
end Go.Proofs.Ytmioclcipdifpaa
