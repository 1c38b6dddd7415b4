/-
  The numbers that words tell: 'sv k x' is the number of a finite word in units of the format's least place; comparisons go by it; rungs and numbers rise together; a float32 is widened without a loss. No premise.
-/
import Derived.Test.YtfnmopjfpnlkfaaFlo
namespace Go.Proofs.Ytfnmopjfpnlkfaa
open Go

def rung (k : FloatKind) (x : Nat) : Nat := x % k.format.signWeight
def sgn (k : FloatKind) (x : Nat) : Bool := x / k.format.signWeight % 2 == 1
/-- Neither an infinity nor a not-a-number. -/
def fin (k : FloatKind) (x : Nat) : Bool := decide (rung k x < k.format.infRung)
def isInf (k : FloatKind) (x : Nat) : Bool := rung k x == k.format.infRung
/-- The number of a rung, in units of the least place. -/
def val (f : Ieee.Format) (r : Nat) : Nat := if r < f.binade then r else (f.binade + r % f.binade) * 2 ^ (r / f.binade - 1)
def sv (k : FloatKind) (x : Nat) : Int := if sgn k x then -(val k.format (rung k x) : Nat) else (val k.format (rung k x) : Nat)

theorem isN_iff (k : FloatKind) (x : Nat) : isN k x = decide (k.format.infRung < rung k x) := by
  unfold isN Ieee.Format.read rung
  have hb : k.format.binade ≤ k.format.infRung := by cases k <;> decide +kernel
  dsimp only
  symm
  split
  · refine (decide_eq_false_iff_not.2 ?_).trans rfl; omega
  · split
    · refine (decide_eq_false_iff_not.2 ?_).trans rfl; omega
    · split
      · refine (decide_eq_false_iff_not.2 ?_).trans rfl; omega
      · exact (decide_eq_true (by omega)).trans rfl
theorem fin_notN {k : FloatKind} {x : Nat} (h : fin k x = true) : isN k x = false := by
  unfold fin at h; rw [isN_iff]; simp at h ⊢; omega
theorem three {k : FloatKind} (x : Nat) : fin k x = true ∨ isInf k x = true ∨ isN k x = true := by
  rw [isN_iff]; unfold fin isInf; simp; omega

/-- A finite word is read as a number whose value is its rung's. -/
theorem read_fin {k : FloatKind} {x : Nat} (h : fin k x = true) : ∃ m p, k.format.read x = .number (sgn k x) m p ∧ k.format.leastPlace ≤ p ∧ m * 2 ^ (p - k.format.leastPlace).toNat = val k.format (rung k x) ∧ m < 2 * k.format.binade ∧ p ≤ k.format.leastPlace + (rung k x / k.format.binade : Nat) := by
  have hbp : 0 < k.format.binade := Nat.two_pow_pos _
  unfold fin at h
  simp only [decide_eq_true_eq] at h
  unfold Ieee.Format.read
  dsimp only
  by_cases hb : rung k x < k.format.binade
  · refine ⟨rung k x, k.format.leastPlace, ?_, Int.le_refl _, ?_, by omega, by generalize rung k x / k.format.binade = q; omega⟩
    · unfold rung at hb ⊢; rw [if_pos hb]; rfl
    · unfold val; rw [if_pos hb]; simp
  · refine ⟨k.format.binade + rung k x % k.format.binade, k.format.leastPlace + (rung k x / k.format.binade - 1 : Nat), ?_, by generalize rung k x / k.format.binade = q; omega, ?_, by have := Nat.mod_lt (rung k x) hbp; omega, by generalize rung k x / k.format.binade = q; omega⟩
    · unfold rung at hb h ⊢; rw [if_neg hb, if_pos h]; rfl
    · unfold val; rw [if_neg hb]
      congr 2; omega
theorem read_inf {k : FloatKind} {x : Nat} (h : isInf k x = true) : k.format.read x = .infinity (sgn k x) := by
  unfold isInf at h
  simp only [beq_iff_eq] at h
  have hb : k.format.binade ≤ k.format.infRung := by cases k <;> decide +kernel
  unfold Ieee.Format.read
  dsimp only
  unfold rung at h
  rw [if_neg (by omega), if_neg (by omega), if_pos h]
  rfl

theorem signed_scale (s : Bool) (m d : Nat) : Ieee.signed s m d = (if s then -1 else 1) * ((m * 2 ^ d : Nat) : Int) := by
  unfold Ieee.signed
  rw [Nat.shiftLeft_eq]
  cases s <;> simp
theorem compare_scale (a b : Int) (c : Nat) : compare (a * (2 ^ c : Nat)) (b * (2 ^ c : Nat)) = compare a b := by
  have hc : (0 : Int) < (2 ^ c : Nat) := by exact_mod_cast Nat.two_pow_pos c
  rcases Int.lt_trichotomy a b with h | h | h
  · rw [Int.compare_eq_lt.2 h, Int.compare_eq_lt.2 (Int.mul_lt_mul_of_pos_right h hc)]
  · subst h; simp
  · rw [Int.compare_eq_gt.2 h, Int.compare_eq_gt.2 (Int.mul_lt_mul_of_pos_right h hc)]
theorem order_number (s t : Bool) (m n : Nat) (i j L : Int) (hi : L ≤ i) (hj : L ≤ j) :
    (Ieee.Datum.number s m i).order (.number t n j) = some (compare ((if s then -1 else 1) * ((m * 2 ^ (i - L).toNat : Nat) : Int)) ((if t then -1 else 1) * ((n * 2 ^ (j - L).toNat : Nat) : Int))) := by
  unfold Ieee.Datum.order
  dsimp only
  rw [signed_scale, signed_scale, ← compare_scale _ _ (min i j - L).toNat]
  congr 2
  · rw [Int.mul_assoc, ← Int.natCast_mul, Nat.mul_assoc, ← Nat.pow_add]; congr 4; omega
  · rw [Int.mul_assoc, ← Int.natCast_mul, Nat.mul_assoc, ← Nat.pow_add]; congr 4; omega
theorem sv_eq (k : FloatKind) (x : Nat) : sv k x = (if sgn k x then -1 else 1) * ((val k.format (rung k x) : Nat) : Int) := by
  unfold sv; split <;> simp
/-- Two finite words stand to each other as their numbers do. -/
theorem order_fin {k : FloatKind} {x y : Nat} (hx : fin k x = true) (hy : fin k y = true) : k.format.order x y = some (compare (sv k x) (sv k y)) := by
  obtain ⟨m, p, h1, h2, h3, _, _⟩ := read_fin hx
  obtain ⟨n, q, g1, g2, g3, _, _⟩ := read_fin hy
  unfold Ieee.Format.order
  rw [h1, g1, order_number _ _ _ _ _ _ _ h2 g2, h3, g3, sv_eq, sv_eq]

theorem val_succ (f : Ieee.Format) (r : Nat) : val f r < val f (r + 1) := by
  have hb : 0 < f.binade := Nat.two_pow_pos _
  unfold val
  by_cases h1 : r + 1 < f.binade
  · rw [if_pos (by omega), if_pos h1]; omega
  · rw [if_neg h1]
    by_cases h0 : r < f.binade
    · have e : r + 1 = f.binade := by omega
      rw [if_pos h0, e, Nat.mod_self, Nat.div_self hb]; simp; omega
    · rw [if_neg h0]
      have hd := Nat.div_add_mod r f.binade
      have hm := Nat.mod_lt r hb
      have hq : 1 ≤ r / f.binade := (Nat.one_le_div_iff hb).2 (by omega)
      generalize hqq : r / f.binade = q at *
      generalize hmm : r % f.binade = m at *
      by_cases hl : m + 1 < f.binade
      · have e1 : (r + 1) / f.binade = q := by
          rw [← hd, Nat.add_assoc, Nat.mul_add_div hb, Nat.div_eq_of_lt hl]; omega
        have e2 : (r + 1) % f.binade = m + 1 := by
          rw [← hd, Nat.add_assoc, Nat.mul_add_mod, Nat.mod_eq_of_lt hl]
        rw [e1, e2]
        exact Nat.mul_lt_mul_of_pos_right (by omega) (Nat.two_pow_pos _)
      · have e0 : m + 1 = f.binade := by omega
        have e1 : (r + 1) / f.binade = q + 1 := by
          rw [← hd, Nat.add_assoc, e0, Nat.mul_add_div hb, Nat.div_self hb]
        have e2 : (r + 1) % f.binade = 0 := by
          rw [← hd, Nat.add_assoc, e0, Nat.mul_add_mod, Nat.mod_self]
        rw [e1, e2]
        have e3 : q + 1 - 1 = (q - 1) + 1 := by omega
        rw [e3, Nat.pow_succ, Nat.add_zero, Nat.mul_comm _ 2, ← Nat.mul_assoc]
        exact Nat.mul_lt_mul_of_pos_right (by omega) (Nat.two_pow_pos _)
theorem val_mono (f : Ieee.Format) {r s : Nat} (h : r < s) : val f r < val f s := by
  induction s with
  | zero => omega
  | succ s ih =>
    by_cases e : r = s
    · subst e; exact val_succ f r
    · exact Nat.lt_trans (ih (by omega)) (val_succ f s)
theorem val_lt_iff (f : Ieee.Format) (r s : Nat) : val f r < val f s ↔ r < s := by
  refine ⟨fun h => ?_, val_mono f⟩
  rcases Nat.lt_trichotomy r s with h' | h' | h'
  · exact h'
  · subst h'; omega
  · have := val_mono f h'; omega
theorem val_inj (f : Ieee.Format) {r s : Nat} (h : val f r = val f s) : r = s := by
  rcases Nat.lt_trichotomy r s with h' | h' | h'
  · have := val_mono f h'; omega
  · exact h'
  · have := val_mono f h'; omega
theorem val_zero (f : Ieee.Format) : val f 0 = 0 := by
  have hb : 0 < f.binade := Nat.two_pow_pos _
  unfold val; rw [if_pos hb]

/-! ## A number that the format has is written without a loss -/
theorem val_rung (f : Ieee.Format) (d kept : Nat) (h : d = 0 ∨ f.binade ≤ kept) (hk : kept < 2 * f.binade) : val f (d * f.binade + kept) = kept * 2 ^ d := by
  have hb : 0 < f.binade := Nat.two_pow_pos _
  unfold val
  by_cases hlt : d * f.binade + kept < f.binade
  · rw [if_pos hlt]
    have hd : d = 0 := by
      cases d with
      | zero => rfl
      | succ d => rw [Nat.succ_mul] at hlt; omega
    subst hd; simp
  · rw [if_neg hlt]
    by_cases hkb : f.binade ≤ kept
    · have e : d * f.binade + kept = f.binade * (d + 1) + (kept - f.binade) := by
        rw [Nat.mul_add, Nat.mul_comm f.binade d]; omega
      have hl : kept - f.binade < f.binade := by omega
      rw [e, Nat.mul_add_mod, Nat.mod_eq_of_lt hl, Nat.mul_add_div hb, Nat.div_eq_of_lt hl]
      have e1 : f.binade + (kept - f.binade) = kept := by omega
      rw [e1]; simp
    · rcases h with h | h
      · subst h; omega
      · omega
theorem cut_none (way : Ieee.Toward) (neg : Bool) (n : Nat) : way.cut neg n 0 = n := by
  unfold Ieee.Toward.cut
  cases way <;> cases neg <;> simp [Nat.mod_one]
theorem word_rung {k : FloatKind} (neg : Bool) {r : Nat} (h : r < k.format.signWeight) : rung k (k.format.word neg r) = r ∧ sgn k (k.format.word neg r) = neg := by
  obtain ⟨h1, h2⟩ := read_word k.format neg r h
  unfold rung sgn
  rw [h1, h2]
  cases neg <;> simp
/-- What 'nearest' writes of a number that the format has. -/
theorem nearest_val {k : FloatKind} (neg : Bool) (m : Nat) (p : Int) (hL : m.log2 ≤ k.format.fractionBits) (hp : k.format.leastPlace ≤ p)
    (hR : ((max (p + m.log2 - k.format.fractionBits) k.format.leastPlace) - k.format.leastPlace).toNat * k.format.binade + 2 * k.format.binade ≤ k.format.infRung) :
    fin k (k.format.nearest neg m p) = true ∧ sgn k (k.format.nearest neg m p) = neg ∧ val k.format (rung k (k.format.nearest neg m p)) = m * 2 ^ (p - k.format.leastPlace).toNat := by
  have hinf := k.format.infRung_lt
  have hb : 0 < k.format.binade := Nat.two_pow_pos _
  unfold Ieee.Format.nearest
  by_cases hm : m = 0
  · rw [if_pos hm]
    obtain ⟨h1, h2⟩ := word_rung (k := k) neg (r := 0) (by omega)
    refine ⟨?_, h2, ?_⟩
    · unfold fin; rw [h1]; simp; omega
    · rw [h1, val_zero, hm, Nat.zero_mul]
  · rw [if_neg hm]
    dsimp only
    generalize hlast : max (p + m.log2 - k.format.fractionBits) k.format.leastPlace = last at hR ⊢
    have hlp : last ≤ p := by omega
    have hll : k.format.leastPlace ≤ last := by omega
    have e0 : (last - p).toNat = 0 := by omega
    rw [e0, cut_none, Nat.shiftLeft_eq]
    have hlog := Nat.log2_lt (n := m) (k := m.log2 + 1) hm |>.1 (Nat.lt_succ_self _)
    have hlog2 := Nat.log2_self_le hm
    have hbin : k.format.binade = 2 ^ k.format.fractionBits := rfl
    have hkl : m * 2 ^ (p - last).toNat < 2 * k.format.binade := by
      have h1 : m * 2 ^ (p - last).toNat < 2 ^ (m.log2 + 1) * 2 ^ (p - last).toNat := Nat.mul_lt_mul_of_pos_right hlog (Nat.two_pow_pos _)
      have h2 : 2 ^ (m.log2 + 1) * 2 ^ (p - last).toNat ≤ 2 ^ (k.format.fractionBits + 1) := by
        rw [← Nat.pow_add]; exact Nat.pow_le_pow_right (by omega) (by omega)
      have h3 : 2 ^ (k.format.fractionBits + 1) = 2 * 2 ^ k.format.fractionBits := by rw [Nat.pow_succ, Nat.mul_comm]
      rw [hbin]; omega
    have hk0 : (last - k.format.leastPlace).toNat = 0 ∨ k.format.binade ≤ m * 2 ^ (p - last).toNat := by
      by_cases hz : last = k.format.leastPlace
      · left; omega
      · right
        have h3 : 2 ^ m.log2 * 2 ^ (p - last).toNat ≤ m * 2 ^ (p - last).toNat := Nat.mul_le_mul_right _ hlog2
        rw [← Nat.pow_add] at h3
        have e1 : m.log2 + (p - last).toNat = k.format.fractionBits := by omega
        rw [e1] at h3; omega
    have hv := val_rung k.format _ _ hk0 hkl
    have hr : (last - k.format.leastPlace).toNat * k.format.binade + m * 2 ^ (p - last).toNat < k.format.infRung := by omega
    rw [Nat.min_eq_left (Nat.le_of_lt hr)]
    obtain ⟨h1, h2⟩ := word_rung (k := k) neg (Nat.lt_trans hr hinf)
    refine ⟨?_, h2, ?_⟩
    · unfold fin; rw [h1]; simp; omega
    · rw [h1, hv, Nat.mul_assoc, ← Nat.pow_add]; congr 2; omega

/-! ## A float32 widened -/
theorem least32 : FloatKind.f32.format.leastPlace = -149 := by decide +kernel
theorem least64 : FloatKind.f64.format.leastPlace = -1074 := by decide +kernel
theorem frac64 : FloatKind.f64.format.fractionBits = 52 := rfl
/-- How many binades the least place of a float64 lies below that of a float32. -/
def wd : Nat := 925
theorem wide_fin {c : Nat} (h : fin .f32 c = true) : fin .f64 (fcv .f32 .f64 c) = true ∧ sgn .f64 (fcv .f32 .f64 c) = sgn .f32 c ∧ val FloatKind.f64.format (rung .f64 (fcv .f32 .f64 c)) = val FloatKind.f32.format (rung .f32 c) * 2 ^ wd := by
  obtain ⟨m, p, h1, h2, h3, h4, h5⟩ := read_fin h
  have e : fcv .f32 .f64 c = FloatKind.f64.format.nearest (sgn .f32 c) m p := by unfold fcv; rw [h1]; rfl
  unfold fin at h; simp only [decide_eq_true_eq] at h
  rw [least32] at h2 h3 h5
  rw [bi32] at h4 h5
  rw [in32] at h
  have hlog : m.log2 < 24 := by
    by_cases hm : m = 0
    · subst hm; decide
    · exact (Nat.log2_lt hm).2 (by omega)
  have hdiv : rung .f32 c / 8388608 < 255 := by omega
  obtain ⟨g1, g2, g3⟩ := nearest_val (k := .f64) (sgn .f32 c) m p (by rw [frac64]; omega) (by rw [least64]; omega) (by rw [least64, frac64, bi64, in64]; omega)
  rw [e]
  refine ⟨g1, g2, ?_⟩
  rw [g3, ← h3, least64, Nat.mul_assoc, ← Nat.pow_add]
  congr 2; unfold wd; omega
theorem fits_wide (c : Nat) : fits .f32 .f64 c = true := by
  rcases three (k := .f32) c with h | h | h
  · have hw := (wide_fin h).1
    obtain ⟨m, p, h1, _⟩ := read_fin h
    unfold fits; rw [h1]
    have e : fcv .f32 .f64 c = FloatKind.f64.format.write (.number (sgn .f32 c) m p) := by unfold fcv; rw [h1]
    dsimp only
    rw [← e]
    obtain ⟨m', p', g1, _⟩ := read_fin hw
    rw [g1]; rfl
  · unfold fits; rw [read_inf h]
  · exact fits_nan h
theorem wide_inf {c : Nat} (h : isInf .f32 c = true) : isInf .f64 (fcv .f32 .f64 c) = true ∧ sgn .f64 (fcv .f32 .f64 c) = sgn .f32 c := by
  have e : fcv .f32 .f64 c = FloatKind.f64.format.word (sgn .f32 c) FloatKind.f64.format.infRung := by unfold fcv; rw [read_inf h]; rfl
  obtain ⟨h1, h2⟩ := word_rung (k := .f64) (sgn .f32 c) FloatKind.f64.format.infRung_lt
  rw [e]
  exact ⟨by unfold isInf; rw [h1]; simp, h2⟩
theorem wide_nan {c : Nat} (h : isN .f32 c = true) : fcv .f32 .f64 c = qn .f64 := fcv_nan h
theorem isN_wide (c : Nat) : isN .f64 (fcv .f32 .f64 c) = isN .f32 c := by
  rcases three (k := .f32) c with h | h | h
  · rw [fin_notN h, fin_notN (wide_fin h).1]
  · have h1 := (wide_inf h).1
    unfold isInf at h h1; simp only [beq_iff_eq] at h h1
    rw [isN_iff, isN_iff, h, h1]; simp
  · rw [wide_nan h, isN_qn, h]
end Go.Proofs.Ytfnmopjfpnlkfaa
