/-
  Writing a number does not hang on how it is split into a magnitude and a place; halves and doubles of normal float64s; a float32 widened and narrowed is itself. No walk. No premise.
-/
import Derived.Test.YtmioclcipdifpaaBnd2
namespace Go.Proofs.Ytmioclcipdifpaa
open Go

theorem log2_scale {m : Nat} (hm : m ≠ 0) (d : Nat) : (m * 2 ^ d).log2 = m.log2 + d := by
  have h0 := Nat.two_pow_pos d
  have hne : m * 2 ^ d ≠ 0 := Nat.mul_ne_zero hm (by omega)
  have h1 := Nat.log2_self_le hm
  have h2 := (Nat.log2_lt (n := m) (k := m.log2 + 1) hm).1 (Nat.lt_succ_self _)
  have h3 : 2 ^ (m.log2 + d) ≤ m * 2 ^ d := by rw [Nat.pow_add]; exact Nat.mul_le_mul_right _ h1
  have h4 : m * 2 ^ d < 2 ^ (m.log2 + d + 1) := by
    rw [show m.log2 + d + 1 = m.log2 + 1 + d by omega, Nat.pow_add]
    exact Nat.mul_lt_mul_of_pos_right h2 h0
  have := (Nat.le_log2 hne).2 h3
  have := (Nat.log2_lt hne).2 h4
  omega
theorem cut_scale (neg : Bool) {m : Nat} (hm : m ≠ 0) (d t : Nat) : Ieee.Toward.even.cut neg (m * 2 ^ d) (t + d) = Ieee.Toward.even.cut neg m t := by
  unfold Ieee.Toward.cut
  dsimp only
  rw [log2_scale hm, Nat.one_shiftLeft, Nat.one_shiftLeft, show min (t + d) (m.log2 + d + 2) = min t (m.log2 + 2) + d by omega, Nat.pow_add]
  have hp := Nat.two_pow_pos d
  generalize 2 ^ min t (m.log2 + 2) = g
  generalize 2 ^ d = s at *
  rw [Nat.mul_div_mul_right _ _ hp, Nat.mul_mod_mul_right]
  have e1 : (decide (g * s < 2 * (m % g * s))) = decide (g < 2 * (m % g)) := by
    rw [← Nat.mul_assoc, Bool.eq_iff_iff, decide_eq_true_eq, decide_eq_true_eq]
    exact Nat.mul_lt_mul_right hp
  have e2 : (g * s == 2 * (m % g * s)) = (g == 2 * (m % g)) := by
    rw [← Nat.mul_assoc, Bool.eq_iff_iff, beq_iff_eq, beq_iff_eq]
    exact ⟨fun h => Nat.eq_of_mul_eq_mul_right hp h, fun h => by rw [← h]⟩
  rw [e1, e2]
theorem cut_exact (neg : Bool) {m : Nat} (hm : m ≠ 0) {d t : Nat} (h : t ≤ d) : Ieee.Toward.even.cut neg (m * 2 ^ d) t = m * 2 ^ (d - t) := by
  unfold Ieee.Toward.cut
  dsimp only
  rw [log2_scale hm, Nat.one_shiftLeft, Nat.min_eq_left (by omega)]
  have e : m * 2 ^ d = m * 2 ^ (d - t) * 2 ^ t := by rw [Nat.mul_assoc, ← Nat.pow_add]; congr 2; omega
  have hp := Nat.two_pow_pos t
  rw [e, Nat.mul_div_cancel _ hp, Nat.mul_mod_left]
  simp
theorem nearest_scale (f : Ieee.Format) (neg : Bool) (m : Nat) (p : Int) (d : Nat) : f.nearest neg (m * 2 ^ d) (p - d) = f.nearest neg m p := by
  unfold Ieee.Format.nearest
  by_cases hm : m = 0
  · subst hm; simp
  · have hne : m * 2 ^ d ≠ 0 := Nat.mul_ne_zero hm (by have := Nat.two_pow_pos d; omega)
    rw [if_neg hm, if_neg hne]
    dsimp only
    rw [log2_scale hm, show (p - (d : Int) + ((m.log2 + d : Nat) : Int) - f.fractionBits) = p + m.log2 - f.fractionBits by omega]
    generalize max (p + (m.log2 : Int) - f.fractionBits) f.leastPlace = last
    congr 2
    congr 1
    by_cases h1 : last ≤ p - d
    · rw [show (last - (p - (d : Int))).toNat = 0 by omega, show (last - p).toNat = 0 by omega, cut_none, cut_none, Nat.shiftLeft_eq, Nat.shiftLeft_eq, Nat.mul_assoc, ← Nat.pow_add]
      congr 2; omega
    · rw [show (p - (d : Int) - last).toNat = 0 by omega, Nat.shiftLeft_zero]
      by_cases h2 : last ≤ p
      · rw [show (last - p).toNat = 0 by omega, cut_none, cut_exact neg hm (by omega), Nat.shiftLeft_eq]
        congr 2; omega
      · rw [show (p - last).toNat = 0 by omega, Nat.shiftLeft_zero, show (last - (p - (d : Int))).toNat = (last - p).toNat + d by omega, cut_scale neg hm]
theorem nearest_scale' (f : Ieee.Format) (neg : Bool) (m : Nat) (p q : Int) (d : Nat) (h : q = p - d) : f.nearest neg (m * 2 ^ d) q = f.nearest neg m p := by
  rw [h]; exact nearest_scale f neg m p d

/-! ## Halves and doubles -/
theorem two_read : FloatKind.f64.format.read 4611686018427387904 = .number false 4503599627370496 (-51) := by decide +kernel
/-- A normal positive word as a number. -/
theorem read_normal {x : Nat} (h1 : 4503599627370496 ≤ x) (h2 : x < 9218868437227405312) :
    FloatKind.f64.format.read x = .number false (4503599627370496 + x % 4503599627370496) (-1074 + (x / 4503599627370496 - 1 : Nat)) := by
  unfold Ieee.Format.read
  dsimp only
  rw [sw64, bi64, in64, least64, Nat.mod_eq_of_lt (by omega : x < 9223372036854775808), if_neg (by omega), if_pos h2, Nat.div_eq_of_lt (by omega : x < 9223372036854775808)]
  rfl
/-- The word of a full significand at a place. -/
theorem write_normal {m : Nat} {e : Nat} (h1 : 4503599627370496 ≤ m) (h2 : m < 9007199254740992) (h3 : e + 2 ≤ 2047) :
    FloatKind.f64.format.nearest false m (-1074 + (e : Int)) = e * 4503599627370496 + m := by
  have hne : m ≠ 0 := by omega
  have hlog : m.log2 = 52 := by
    have := (Nat.le_log2 (k := 52) hne).2 (by omega)
    have := (Nat.log2_lt (k := 53) hne).2 (by omega)
    omega
  unfold Ieee.Format.nearest
  rw [if_neg hne]
  dsimp only
  rw [hlog, least64, frac64, bi64, in64, show max (-1074 + (e : Int) + ((52 : Nat) : Int) - ((52 : Nat) : Int)) (-1074) = -1074 + (e : Int) by omega]
  rw [show (-1074 + (e : Int) - (-1074 + (e : Int))).toNat = 0 by omega, cut_none, Nat.shiftLeft_zero, show (-1074 + (e : Int) - -1074).toNat = e by omega]
  have hle : e * 4503599627370496 + m ≤ 9218868437227405312 := by omega
  rw [Nat.min_eq_left hle]
  unfold Ieee.Format.word
  rw [if_neg (by decide)]
theorem half_word {x : Nat} (h1 : 9007199254740992 ≤ x) (h2 : x < 9218868437227405312) : fop .quo .f64 x 4611686018427387904 = x - 4503599627370496 := by
  refine (fop_of_some (r := FloatKind.f64.format.nearest false (4503599627370496 + x % 4503599627370496) (-1074 + ((x / 4503599627370496 - 2 : Nat) : Int))) ?_).trans ?_
  · unfold floatBits Ieee.Format.div
    dsimp only
    rw [read_normal (by omega) h2, two_read]
    unfold Ieee.Datum.quotient
    dsimp only
    rw [if_neg (by decide)]
    have hm1 : 4503599627370496 ≤ 4503599627370496 + x % 4503599627370496 := Nat.le_add_right _ _
    have hm2 : 4503599627370496 + x % 4503599627370496 < 9007199254740992 := by omega
    generalize 4503599627370496 + x % 4503599627370496 = m at *
    have hne : m ≠ 0 := by omega
    have hlog : m.log2 = 52 := by
      have := (Nat.le_log2 (k := 52) hne).2 (by omega)
      have := (Nat.log2_lt (k := 53) hne).2 (by omega)
      omega
    rw [hlog, frac64, show (4503599627370496 : Nat).log2 = 52 by decide +kernel, Nat.shiftLeft_eq]
    have e : m * 2 ^ (52 + 2 + 52 - 52) = m * 4 * 4503599627370496 := by rw [Nat.mul_assoc]
    rw [e, Nat.mul_div_cancel _ (by decide), Nat.mul_mod_left]
    simp only [Option.map_some, bne_self_eq_false, Bool.toNat_false, Nat.add_zero]
    unfold Ieee.Format.write
    dsimp only
    rw [show 2 * (m * 4) = m * 2 ^ 3 by omega]
    congr 1
    exact nearest_scale' _ _ _ _ _ 3 (by omega)
  · have h3 : x / 4503599627370496 ≤ 2046 := by omega
    rw [write_normal (Nat.le_add_right _ _) (by omega) (by omega)]
    omega
theorem double_word {x : Nat} (h1 : 4503599627370496 ≤ x) (h2 : x < 9214364837600034816) : fop .mul .f64 x 4611686018427387904 = x + 4503599627370496 := by
  refine (fop_of_some (r := FloatKind.f64.format.nearest false (4503599627370496 + x % 4503599627370496) (-1074 + ((x / 4503599627370496 : Nat) : Int))) ?_).trans ?_
  · unfold floatBits Ieee.Format.mul
    dsimp only
    rw [read_normal h1 (by omega), two_read]
    unfold Ieee.Datum.product
    dsimp only
    rw [Option.map_some]
    congr 1
    unfold Ieee.Format.write
    dsimp only
    rw [show (4503599627370496 : Nat) = 2 ^ 52 from rfl]
    exact nearest_scale' _ _ _ _ _ 52 (by omega)
  · have h3 : x / 4503599627370496 ≤ 2045 := by omega
    rw [write_normal (Nat.le_add_right _ _) (by omega) (by omega)]
    omega
end Go.Proofs.Ytmioclcipdifpaa
