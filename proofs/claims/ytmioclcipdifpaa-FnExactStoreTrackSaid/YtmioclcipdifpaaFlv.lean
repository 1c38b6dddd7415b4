/-
  The numbers that words tell: 'sv k x' is the number of a finite word in units of the format's least place; comparisons go by it; rungs and numbers rise together; a float32 is widened without a loss. No premise.
-/
import Derived.Test.YtmioclcipdifpaaFlo
namespace Go.Proofs.Ytmioclcipdifpaa
open Go

def rung (k : FloatKind) (x : Nat) : Nat := x % k.format.signWeight
def sgn (k : FloatKind) (x : Nat) : Bool := x / k.format.signWeight % 2 == 1
/-- Neither an infinity nor a not-a-number. -/
def fin (k : FloatKind) (x : Nat) : Bool := decide (rung k x < k.format.infRung)
def isInf (k : FloatKind) (x : Nat) : Bool := rung k x == k.format.infRung
/-- The number of a rung, in units of the least place. -/
def val (f : Ieee.Format) (r : Nat) : Nat := if r < f.binade then r else (f.binade + r % f.binade) * 2 ^ (r / f.binade - 1)
def sv (k : FloatKind) (x : Nat) : Int := if sgn k x then -(val k.format (rung k x) : Nat) else (val k.format (rung k x) : Nat)

theorem isN_iff (k : FloatKind) (x : Nat) : isN k x = decide (k.format.infRung < rung k x) := by
  unfold isN Ieee.Format.read rung
  have hb : k.format.binade ≤ k.format.infRung := by cases k <;> decide +kernel
  dsimp only
  symm
  split
  · refine (decide_eq_false_iff_not.2 ?_).trans rfl; omega
  · split
    · refine (decide_eq_false_iff_not.2 ?_).trans rfl; omega
    · split
      · refine (decide_eq_false_iff_not.2 ?_).trans rfl; omega
      · exact (decide_eq_true (by omega)).trans rfl
theorem fin_notN {k : FloatKind} {x : Nat} (h : fin k x = true) : isN k x = false := by
  unfold fin at h; rw [isN_iff]; simp at h ⊢; omega
theorem three {k : FloatKind} (x : Nat) : fin k x = true ∨ isInf k x = true ∨ isN k x = true := by
  rw [isN_iff]; unfold fin isInf; simp; omega

/-- A finite word is read as a number whose value is its rung's. -/
theorem read_fin {k : FloatKind} {x : Nat} (h : fin k x = true) : ∃ m p, k.format.read x = .number (sgn k x) m p ∧ k.format.leastPlace ≤ p ∧ m * 2 ^ (p - k.format.leastPlace).toNat = val k.format (rung k x) ∧ m < 2 * k.format.binade ∧ p ≤ k.format.leastPlace + (rung k x / k.format.binade : Nat) := by
  have hbp : 0 < k.format.binade := Nat.two_pow_pos _
  unfold fin at h
  simp only [decide_eq_true_eq] at h
  unfold Ieee.Format.read
  dsimp only
  by_cases hb : rung k x < k.format.binade
  · refine ⟨rung k x, k.format.leastPlace, ?_, Int.le_refl _, ?_, by omega, by generalize rung k x / k.format.binade = q; omega⟩
    · unfold rung at hb ⊢; rw [if_pos hb]; rfl
    · unfold val; rw [if_pos hb]; simp
  · refine ⟨k.format.binade + rung k x % k.format.binade, k.format.leastPlace + (rung k x / k.format.binade - 1 : Nat), ?_, by generalize rung k x / k.format.binade = q; omega, ?_, by have := Nat.mod_lt (rung k x) hbp; omega, by generalize rung k x / k.format.binade = q; omega⟩
    · unfold rung at hb h ⊢; rw [if_neg hb, if_pos h]; rfl
    · unfold val; rw [if_neg hb]
      congr 2; omega
theorem read_inf {k : FloatKind} {x : Nat} (h : isInf k x = true) : k.format.read x = .infinity (sgn k x) := by
  unfold isInf at h
  simp only [beq_iff_eq] at h
  have hb : k.format.binade ≤ k.format.infRung := by cases k <;> decide +kernel
  unfold Ieee.Format.read
  dsimp only
  unfold rung at h
  rw [if_neg (by omega), if_neg (by omega), if_pos h]
  rfl

theorem signed_scale (s : Bool) (m d : Nat) : Ieee.signed s m d = (if s then -1 else 1) * ((m * 2 ^ d : Nat) : Int) := by
  unfold Ieee.signed
  rw [Nat.shiftLeft_eq]
  cases s <;> simp
theorem compare_scale (a b : Int) (c : Nat) : compare (a * (2 ^ c : Nat)) (b * (2 ^ c : Nat)) = compare a b := by
  have hc : (0 : Int) < (2 ^ c : Nat) := by exact_mod_cast Nat.two_pow_pos c
  rcases Int.lt_trichotomy a b with h | h | h
  · rw [Int.compare_eq_lt.2 h, Int.compare_eq_lt.2 (Int.mul_lt_mul_of_pos_right h hc)]
  · subst h; simp
  · rw [Int.compare_eq_gt.2 h, Int.compare_eq_gt.2 (Int.mul_lt_mul_of_pos_right h hc)]
theorem order_number (s t : Bool) (m n : Nat) (i j L : Int) (hi : L ≤ i) (hj : L ≤ j) :
    (Ieee.Datum.number s m i).order (.number t n j) = some (compare ((if s then -1 else 1) * ((m * 2 ^ (i - L).toNat : Nat) : Int)) ((if t then -1 else 1) * ((n * 2 ^ (j - L).toNat : Nat) : Int))) := by
  unfold Ieee.Datum.order
  dsimp only
  rw [signed_scale, signed_scale, ← compare_scale _ _ (min i j - L).toNat]
  congr 2
  · rw [Int.mul_assoc, ← Int.natCast_mul, Nat.mul_assoc, ← Nat.pow_add]; congr 4; omega
  · rw [Int.mul_assoc, ← Int.natCast_mul, Nat.mul_assoc, ← Nat.pow_add]; congr 4; omega
theorem sv_eq (k : FloatKind) (x : Nat) : sv k x = (if sgn k x then -1 else 1) * ((val k.format (rung k x) : Nat) : Int) := by
  unfold sv; split <;> simp
/-- Two finite words stand to each other as their numbers do. -/
theorem order_fin {k : FloatKind} {x y : Nat} (hx : fin k x = true) (hy : fin k y = true) : k.format.order x y = some (compare (sv k x) (sv k y)) := by
  obtain ⟨m, p, h1, h2, h3, _, _⟩ := read_fin hx
  obtain ⟨n, q, g1, g2, g3, _, _⟩ := read_fin hy
  unfold Ieee.Format.order
  rw [h1, g1, order_number _ _ _ _ _ _ _ h2 g2, h3, g3, sv_eq, sv_eq]

theorem val_succ (f : Ieee.Format) (r : Nat) : val f r < val f (r + 1) := by
  have hb : 0 < f.binade := Nat.two_pow_pos _
  unfold val
  by_cases h1 : r + 1 < f.binade
  · rw [if_pos (by omega), if_pos h1]; omega
  · rw [if_neg h1]
    by_cases h0 : r < f.binade
    · have e : r + 1 = f.binade := by omega
      rw [if_pos h0, e, Nat.mod_self, Nat.div_self hb]; simp; omega
    · rw [if_neg h0]
      have hd := Nat.div_add_mod r f.binade
      have hm := Nat.mod_lt r hb
      have hq : 1 ≤ r / f.binade := (Nat.one_le_div_iff hb).2 (by omega)
      generalize hqq : r / f.binade = q at *
      generalize hmm : r % f.binade = m at *
      by_cases hl : m + 1 < f.binade
      · have e1 : (r + 1) / f.binade = q := by
          rw [← hd, Nat.add_assoc, Nat.mul_add_div hb, Nat.div_eq_of_lt hl]; omega
        have e2 : (r + 1) % f.binade = m + 1 := by
          rw [← hd, Nat.add_assoc, Nat.mul_add_mod, Nat.mod_eq_of_lt hl]
        rw [e1, e2]
        exact Nat.mul_lt_mul_of_pos_right (by omega) (Nat.two_pow_pos _)
      · have e0 : m + 1 = f.binade := by omega
        have e1 : (r + 1) / f.binade = q + 1 := by
          rw [← hd, Nat.add_assoc, e0, Nat.mul_add_div hb, Nat.div_self hb]
        have e2 : (r + 1) % f.binade = 0 := by
          rw [← hd, Nat.add_assoc, e0, Nat.mul_add_mod, Nat.mod_self]
        rw [e1, e2]
        have e3 : q + 1 - 1 = (q - 1) + 1 := by omega
        rw [e3, Nat.pow_succ, Nat.add_zero, Nat.mul_comm _ 2, ← Nat.mul_assoc]
        exact Nat.mul_lt_mul_of_pos_right (by omega) (Nat.two_pow_pos _)
theorem val_mono (f : Ieee.Format) {r s : Nat} (h : r < s) : val f r < val f s := by
  induction s with
  | zero => omega
  | succ s ih =>
    by_cases e : r = s
    · subst e; exact val_succ f r
    · exact Nat.lt_trans (ih (by omega)) (val_succ f s)
theorem val_lt_iff (f : Ieee.Format) (r s : Nat) : val f r < val f s ↔ r < s := by
  refine ⟨fun h => ?_, val_mono f⟩
  rcases Nat.lt_trichotomy r s with h' | h' | h'
  · exact h'
  · subst h'; omega
  · have := val_mono f h'; omega
theorem val_inj (f : Ieee.Format) {r s : Nat} (h : val f r = val f s) : r = s := by
  rcases Nat.lt_trichotomy r s with h' | h' | h'
  · have := val_mono f h'; omega
  · exact h'
  · have := val_mono f h'; omega
theorem val_zero (f : Ieee.Format) : val f 0 = 0 := by
  have hb : 0 < f.binade := Nat.two_pow_pos _
  unfold val; rw [if_pos hb]

/-! ## A number that the format has is written without a loss -/
theorem val_rung (f : Ieee.Format) (d kept : Nat) (h : d = 0 ∨ f.binade ≤ kept) (hk : kept < 2 * f.binade) : val f (d * f.binade + kept) = kept * 2 ^ d := by
  have hb : 0 < f.binade := Nat.two_pow_pos _
  unfold val
  by_cases hlt : d * f.binade + kept < f.binade
  · rw [if_pos hlt]
    have hd : d = 0 := by
      cases d with
      | zero => rfl
      | succ d => rw [Nat.succ_mul] at hlt; omega
    subst hd; simp
  · rw [if_neg hlt]
    by_cases hkb : f.binade ≤ kept
    · have e : d * f.binade + kept = f.binade * (d + 1) + (kept - f.binade) := by
        rw [Nat.mul_add, Nat.mul_comm f.binade d]; omega
      have hl : kept - f.binade < f.binade := by omega
      rw [e, Nat.mul_add_mod, Nat.mod_eq_of_lt hl, Nat.mul_add_div hb, Nat.div_eq_of_lt hl]
      have e1 : f.binade + (kept - f.binade) = kept := by omega
      rw [e1]; simp
    · rcases h with h | h
      · subst h; omega
      · omega
theorem cut_none (way : Ieee.Toward) (neg : Bool) (n : Nat) : way.cut neg n 0 = n := by
  unfold Ieee.Toward.cut
  cases way <;> cases neg <;> simp [Nat.mod_one]
theorem word_rung {k : FloatKind} (neg : Bool) {r : Nat} (h : r < k.format.signWeight) : rung k (k.format.word neg r) = r ∧ sgn k (k.format.word neg r) = neg := by
  obtain ⟨h1, h2⟩ := read_word k.format neg r h
  unfold rung sgn
  rw [h1, h2]
  cases neg <;> simp
/-- What 'nearest' writes of a number that the format has. -/
theorem nearest_val {k : FloatKind} (neg : Bool) (m : Nat) (p : Int) (hL : m.log2 ≤ k.format.fractionBits) (hp : k.format.leastPlace ≤ p)
    (hR : ((max (p + m.log2 - k.format.fractionBits) k.format.leastPlace) - k.format.leastPlace).toNat * k.format.binade + 2 * k.format.binade ≤ k.format.infRung) :
    fin k (k.format.nearest neg m p) = true ∧ sgn k (k.format.nearest neg m p) = neg ∧ val k.format (rung k (k.format.nearest neg m p)) = m * 2 ^ (p - k.format.leastPlace).toNat := by
  have hinf := k.format.infRung_lt
  have hb : 0 < k.format.binade := Nat.two_pow_pos _
  unfold Ieee.Format.nearest
  by_cases hm : m = 0
  · rw [if_pos hm]
    obtain ⟨h1, h2⟩ := word_rung (k := k) neg (r := 0) (by omega)
    refine ⟨?_, h2, ?_⟩
    · unfold fin; rw [h1]; simp; omega
    · rw [h1, val_zero, hm, Nat.zero_mul]
  · rw [if_neg hm]
    dsimp only
    generalize hlast : max (p + m.log2 - k.format.fractionBits) k.format.leastPlace = last at hR ⊢
    have hlp : last ≤ p := by omega
    have hll : k.format.leastPlace ≤ last := by omega
    have e0 : (last - p).toNat = 0 := by omega
    rw [e0, cut_none, Nat.shiftLeft_eq]
    have hlog := Nat.log2_lt (n := m) (k := m.log2 + 1) hm |>.1 (Nat.lt_succ_self _)
    have hlog2 := Nat.log2_self_le hm
    have hbin : k.format.binade = 2 ^ k.format.fractionBits := rfl
    have hkl : m * 2 ^ (p - last).toNat < 2 * k.format.binade := by
      have h1 : m * 2 ^ (p - last).toNat < 2 ^ (m.log2 + 1) * 2 ^ (p - last).toNat := Nat.mul_lt_mul_of_pos_right hlog (Nat.two_pow_pos _)
      have h2 : 2 ^ (m.log2 + 1) * 2 ^ (p - last).toNat ≤ 2 ^ (k.format.fractionBits + 1) := by
        rw [← Nat.pow_add]; exact Nat.pow_le_pow_right (by omega) (by omega)
      have h3 : 2 ^ (k.format.fractionBits + 1) = 2 * 2 ^ k.format.fractionBits := by rw [Nat.pow_succ, Nat.mul_comm]
      rw [hbin]; omega
    have hk0 : (last - k.format.leastPlace).toNat = 0 ∨ k.format.binade ≤ m * 2 ^ (p - last).toNat := by
      by_cases hz : last = k.format.leastPlace
      · left; omega
      · right
        have h3 : 2 ^ m.log2 * 2 ^ (p - last).toNat ≤ m * 2 ^ (p - last).toNat := Nat.mul_le_mul_right _ hlog2
        rw [← Nat.pow_add] at h3
        have e1 : m.log2 + (p - last).toNat = k.format.fractionBits := by omega
        rw [e1] at h3; omega
    have hv := val_rung k.format _ _ hk0 hkl
    have hr : (last - k.format.leastPlace).toNat * k.format.binade + m * 2 ^ (p - last).toNat < k.format.infRung := by omega
    rw [Nat.min_eq_left (Nat.le_of_lt hr)]
    obtain ⟨h1, h2⟩ := word_rung (k := k) neg (Nat.lt_trans hr hinf)
    refine ⟨?_, h2, ?_⟩
    · unfold fin; rw [h1]; simp; omega
    · rw [h1, hv, Nat.mul_assoc, ← Nat.pow_add]; congr 2; omega

/-! ## A float32 widened -/
theorem least32 : FloatKind.f32.format.leastPlace = -149 := by decide +kernel
theorem least64 : FloatKind.f64.format.leastPlace = -1074 := by decide +kernel
theorem frac64 : FloatKind.f64.format.fractionBits = 52 := rfl
/-- How many binades the least place of a float64 lies below that of a float32. -/
def wd : Nat := 925
theorem wide_fin {c : Nat} (h : fin .f32 c = true) : fin .f64 (fcv .f32 .f64 c) = true ∧ sgn .f64 (fcv .f32 .f64 c) = sgn .f32 c ∧ val FloatKind.f64.format (rung .f64 (fcv .f32 .f64 c)) = val FloatKind.f32.format (rung .f32 c) * 2 ^ wd := by
  obtain ⟨m, p, h1, h2, h3, h4, h5⟩ := read_fin h
  have e : fcv .f32 .f64 c = FloatKind.f64.format.nearest (sgn .f32 c) m p := by unfold fcv; rw [h1]; rfl
  unfold fin at h; simp only [decide_eq_true_eq] at h
  rw [least32] at h2 h3 h5
  rw [bi32] at h4 h5
  rw [in32] at h
  have hlog : m.log2 < 24 := by
    by_cases hm : m = 0
    · subst hm; decide
    · exact (Nat.log2_lt hm).2 (by omega)
  have hdiv : rung .f32 c / 8388608 < 255 := by omega
  obtain ⟨g1, g2, g3⟩ := nearest_val (k := .f64) (sgn .f32 c) m p (by rw [frac64]; omega) (by rw [least64]; omega) (by rw [least64, frac64, bi64, in64]; omega)
  rw [e]
  refine ⟨g1, g2, ?_⟩
  rw [g3, ← h3, least64, Nat.mul_assoc, ← Nat.pow_add]
  congr 2; unfold wd; omega
theorem fits_wide (c : Nat) : fits .f32 .f64 c = true := by
  rcases three (k := .f32) c with h | h | h
  · have hw := (wide_fin h).1
    obtain ⟨m, p, h1, _⟩ := read_fin h
    unfold fits; rw [h1]
    have e : fcv .f32 .f64 c = FloatKind.f64.format.write (.number (sgn .f32 c) m p) := by unfold fcv; rw [h1]
    dsimp only
    rw [← e]
    obtain ⟨m', p', g1, _⟩ := read_fin hw
    rw [g1]; rfl
  · unfold fits; rw [read_inf h]
  · exact fits_nan h
theorem wide_inf {c : Nat} (h : isInf .f32 c = true) : isInf .f64 (fcv .f32 .f64 c) = true ∧ sgn .f64 (fcv .f32 .f64 c) = sgn .f32 c := by
  have e : fcv .f32 .f64 c = FloatKind.f64.format.word (sgn .f32 c) FloatKind.f64.format.infRung := by unfold fcv; rw [read_inf h]; rfl
  obtain ⟨h1, h2⟩ := word_rung (k := .f64) (sgn .f32 c) FloatKind.f64.format.infRung_lt
  rw [e]
  exact ⟨by unfold isInf; rw [h1]; simp, h2⟩
theorem wide_nan {c : Nat} (h : isN .f32 c = true) : fcv .f32 .f64 c = qn .f64 := fcv_nan h
theorem isN_wide (c : Nat) : isN .f64 (fcv .f32 .f64 c) = isN .f32 c := by
  rcases three (k := .f32) c with h | h | h
  · rw [fin_notN h, fin_notN (wide_fin h).1]
  · have h1 := (wide_inf h).1
    unfold isInf at h h1; simp only [beq_iff_eq] at h h1
    rw [isN_iff, isN_iff, h, h1]; simp
  · rw [wide_nan h, isN_qn, h]

theorem word_ext {k : FloatKind} {x y : Nat} (hx : (Lit.float k x).wf = true) (hy : (Lit.float k y).wf = true) (hr : rung k x = rung k y) (hs : sgn k x = sgn k y) : x = y := by
  have key : ∀ z : Nat, (Lit.float k z).wf = true → z / k.format.signWeight < 2 := by
    intro z hz
    cases k
    · rw [sw32]; simp [Lit.wf] at hz; omega
    · rw [sw64]; simp [Lit.wf] at hz; omega
  have h1 := key x hx
  have h2 := key y hy
  unfold rung at hr
  unfold sgn at hs
  have e : x / k.format.signWeight = y / k.format.signWeight := by
    rw [Nat.mod_eq_of_lt h1, Nat.mod_eq_of_lt h2] at hs
    generalize x / k.format.signWeight = a at *
    generalize y / k.format.signWeight = b at *
    rcases (by omega : a = 0 ∨ a = 1) with rfl | rfl <;> rcases (by omega : b = 0 ∨ b = 1) with rfl | rfl <;> first | rfl | (exact absurd hs (by decide))
  rw [← Nat.div_add_mod x k.format.signWeight, ← Nat.div_add_mod y k.format.signWeight, hr, e]
theorem sv_wide {c : Nat} (h : fin .f32 c = true) : sv .f64 (fcv .f32 .f64 c) = sv .f32 c * (2 ^ wd : Nat) := by
  obtain ⟨_, h2, h3⟩ := wide_fin h
  rw [sv_eq, sv_eq, h2, h3, Int.natCast_mul, Int.mul_assoc]
theorem fin_wide (c : Nat) : fin .f64 (fcv .f32 .f64 c) = fin .f32 c := by
  rcases three (k := .f32) c with h | h | h
  · rw [h, (wide_fin h).1]
  · have h1 := (wide_inf h).1
    unfold isInf at h h1; simp only [beq_iff_eq] at h h1
    unfold fin; rw [h, h1]; simp
  · have h2 := isN_wide c
    rw [h] at h2
    rw [isN_iff, decide_eq_true_eq] at h h2
    unfold fin; rw [decide_eq_false (by omega), decide_eq_false (by omega)]
theorem isInf_wide (c : Nat) : isInf .f64 (fcv .f32 .f64 c) = isInf .f32 c := by
  rcases three (k := .f32) c with h | h | h
  · have h1 := (wide_fin h).1
    unfold fin at h h1; rw [decide_eq_true_eq] at h h1
    unfold isInf
    rw [beq_eq_false_iff_ne.2 (by omega), beq_eq_false_iff_ne.2 (by omega)]
  · rw [h, (wide_inf h).1]
  · have h2 := isN_wide c
    rw [h] at h2
    rw [isN_iff, decide_eq_true_eq] at h h2
    unfold isInf
    rw [beq_eq_false_iff_ne.2 (by omega), beq_eq_false_iff_ne.2 (by omega)]
/-- How an infinity and a finite word stand to each other goes by their signs alone. -/
theorem order_inf_inf {k : FloatKind} {x y : Nat} (hx : isInf k x = true) (hy : isInf k y = true) : k.format.order x y = some (compare (sgn k y).toNat (sgn k x).toNat) := by
  unfold Ieee.Format.order; rw [read_inf hx, read_inf hy]; rfl
theorem order_inf_fin {k : FloatKind} {x y : Nat} (hx : isInf k x = true) (hy : fin k y = true) : k.format.order x y = some (if sgn k x then .lt else .gt) := by
  obtain ⟨m, p, h, _⟩ := read_fin hy
  unfold Ieee.Format.order; rw [read_inf hx, h]; rfl
theorem order_fin_inf {k : FloatKind} {x y : Nat} (hx : fin k x = true) (hy : isInf k y = true) : k.format.order x y = some (if sgn k y then .gt else .lt) := by
  obtain ⟨m, p, h, _⟩ := read_fin hx
  unfold Ieee.Format.order; rw [read_inf hy, h]; rfl
theorem order_isN_l {k : FloatKind} {x y : Nat} (hx : isN k x = true) : k.format.order x y = none := order_nan_l hx
theorem order_isN_r {k : FloatKind} {x y : Nat} (hy : isN k y = true) : k.format.order x y = none := order_nan_r hy
/-- Widening keeps how two float32 stand to each other. -/
theorem order_wide (x y : Nat) : FloatKind.f64.format.order (fcv .f32 .f64 x) (fcv .f32 .f64 y) = FloatKind.f32.format.order x y := by
  rcases three (k := .f32) x with hx | hx | hx
  · rcases three (k := .f32) y with hy | hy | hy
    · rw [order_fin hx hy, order_fin (wide_fin hx).1 (wide_fin hy).1, sv_wide hx, sv_wide hy, compare_scale]
    · rw [order_fin_inf hx hy, order_fin_inf (wide_fin hx).1 (wide_inf hy).1, (wide_inf hy).2]
    · rw [order_isN_r hy, order_isN_r ((isN_wide y).trans hy)]
  · rcases three (k := .f32) y with hy | hy | hy
    · rw [order_inf_fin hx hy, order_inf_fin (wide_inf hx).1 (wide_fin hy).1, (wide_inf hx).2]
    · rw [order_inf_inf hx hy, order_inf_inf (wide_inf hx).1 (wide_inf hy).1, (wide_inf hx).2, (wide_inf hy).2]
    · rw [order_isN_r hy, order_isN_r ((isN_wide y).trans hy)]
  · rw [order_isN_l hx, order_isN_l ((isN_wide x).trans hx)]

/-! ## Absolute values -/
def fabs32 (c : Nat) : Nat := c % 2147483648
def fabs (c : Nat) : Nat := c % 9223372036854775808
theorem rung_fabs (c : Nat) : rung .f64 (fabs c) = rung .f64 c := by unfold rung fabs; rw [sw64]; omega
theorem sgn_fabs (c : Nat) : sgn .f64 (fabs c) = false := by
  unfold sgn fabs; rw [sw64, Nat.div_eq_of_lt (Nat.mod_lt _ (by decide))]; rfl
theorem rung_fabs32 (c : Nat) : rung .f32 (fabs32 c) = rung .f32 c := by unfold rung fabs32; rw [sw32]; omega
theorem sgn_fabs32 (c : Nat) : sgn .f32 (fabs32 c) = false := by
  unfold sgn fabs32; rw [sw32, Nat.div_eq_of_lt (Nat.mod_lt _ (by decide))]; rfl
theorem isN_fabs (c : Nat) : isN .f64 (fabs c) = isN .f64 c := by rw [isN_iff, isN_iff, rung_fabs]
theorem fin_fabs (c : Nat) : fin .f64 (fabs c) = fin .f64 c := by unfold fin; rw [rung_fabs]
theorem isInf_fabs (c : Nat) : isInf .f64 (fabs c) = isInf .f64 c := by unfold isInf; rw [rung_fabs]
theorem isN_fabs32 (c : Nat) : isN .f32 (fabs32 c) = isN .f32 c := by rw [isN_iff, isN_iff, rung_fabs32]
theorem fin_fabs32 (c : Nat) : fin .f32 (fabs32 c) = fin .f32 c := by unfold fin; rw [rung_fabs32]
theorem isInf_fabs32 (c : Nat) : isInf .f32 (fabs32 c) = isInf .f32 c := by unfold isInf; rw [rung_fabs32]
theorem wf_fabs (c : Nat) : (Lit.float .f64 (fabs c)).wf = true := wf_of_lt .f64 _ (by show _ < 2 ^ 64; unfold fabs; omega)
theorem wf_fcv {s d : FloatKind} (c : Nat) : (Lit.float d (fcv s d c)).wf = true := by
  unfold fcv
  cases s.format.read c with
  | number g m p => exact wf_write _ _
  | infinity g => exact wf_write _ _
  | nan g f => exact wf_qn d
theorem Fl.fabs {c x : Nat} (h : Fl .f64 c x) : Fl .f64 (fabs c) (fabs x) := by
  refine ⟨?_, wf_fabs x⟩
  cases hn : isN .f64 x
  · rw [nrm_not (by rw [isN_fabs]; exact hn), h.word (by rw [h.nn]; exact hn)]
  · rw [nrm_is (by rw [isN_fabs]; exact hn), ← h.eq, nrm_is hn]; decide +kernel
/-- The absolute value of a widened float32. -/
theorem fabs_wide (c : Nat) : fabs (fcv .f32 .f64 c) = fcv .f32 .f64 (fabs32 c) := by
  rcases three (k := .f32) c with h | h | h
  · have h' : fin .f32 (fabs32 c) = true := by rw [fin_fabs32]; exact h
    obtain ⟨_, a2, a3⟩ := wide_fin h
    obtain ⟨_, b2, b3⟩ := wide_fin h'
    refine word_ext (wf_fabs _) (wf_fcv _) ?_ ?_
    · rw [rung_fabs]; exact val_inj _ (by rw [a3, b3, rung_fabs32])
    · rw [sgn_fabs, b2, sgn_fabs32]
  · have h' : isInf .f32 (fabs32 c) = true := by rw [isInf_fabs32]; exact h
    obtain ⟨a1, a2⟩ := wide_inf h
    obtain ⟨b1, b2⟩ := wide_inf h'
    refine word_ext (wf_fabs _) (wf_fcv _) ?_ ?_
    · rw [rung_fabs]; unfold isInf at a1 b1; simp only [beq_iff_eq] at a1 b1; rw [a1, b1]
    · rw [sgn_fabs, b2, sgn_fabs32]
  · rw [wide_nan h, wide_nan (by rw [isN_fabs32]; exact h)]; decide +kernel

/-! ## Facts that one function or another asks for -/
theorem fop_sub_self {k : FloatKind} {c : Nat} (h : fin k c = true) : fop .sub k c c = 0 := by
  obtain ⟨m, p, h1, _⟩ := read_fin h
  refine fop_of_some ?_
  unfold floatBits Ieee.Format.sub
  dsimp only
  rw [h1]
  have e : (Ieee.Datum.number (sgn k c) m p).sum (Ieee.Datum.number (sgn k c) m p).opposite = some (.number false 0 p) := by
    unfold Ieee.Datum.opposite Ieee.Datum.sum Ieee.signed
    cases sgn k c <;> simp <;> omega
  rw [e]
  cases k <;> simp [Ieee.Format.write, Ieee.Format.nearest, Ieee.Format.word]
theorem fop_sub_inf {k : FloatKind} {c : Nat} (h : isInf k c = true) : fop .sub k c c = qn k := by
  refine fop_of_none ?_
  unfold floatBits Ieee.Format.sub
  dsimp only
  rw [read_inf h]
  cases sgn k c <;> rfl
theorem fop_nan_l {op : BinOp} {k : FloatKind} {x y : Nat} (h : isN k x = true) : fop op k x y = qn k := fop_of_none (floatBits_l h)
theorem fop_nan_r {op : BinOp} {k : FloatKind} {x y : Nat} (h : isN k y = true) : fop op k x y = qn k := fop_of_none (floatBits_r h)
/-- 'x - x == 0' tells a finite number. -/
theorem sub_self_zero (k : FloatKind) (c : Nat) : (k.format.order (fop .sub k c c) 0 == some .eq) = fin k c := by
  have hz : isN k 0 = false := by cases k <;> decide +kernel
  rcases three (k := k) c with h | h | h
  · rw [fop_sub_self h, order_self hz, h]; rfl
  · rw [fop_sub_inf h, order_isN_l (isN_qn k)]
    unfold fin; unfold isInf at h; simp only [beq_iff_eq] at h
    rw [decide_eq_false (by omega)]; rfl
  · rw [fop_nan_l h, order_isN_l (isN_qn k)]
    rw [isN_iff, decide_eq_true_eq] at h
    unfold fin; rw [decide_eq_false (by omega)]; rfl
/-- '|x| <= the greatest finite number' tells a finite number. -/
theorem le_most (c : Nat) : (FloatKind.f64.format.order (fabs c) 9218868437227405311 == some .lt || FloatKind.f64.format.order (fabs c) 9218868437227405311 == some .eq) = fin .f64 c := by
  have hM : fin .f64 9218868437227405311 = true := by decide +kernel
  have hr : rung .f64 9218868437227405311 = 9218868437227405311 := by decide +kernel
  have hs : sgn .f64 9218868437227405311 = false := by decide +kernel
  rcases three (k := .f64) c with h | h | h
  · rw [order_fin (by rw [fin_fabs]; exact h) hM, h]
    unfold sv
    rw [sgn_fabs, hs, hr, rung_fabs]
    unfold fin at h
    rw [in64, decide_eq_true_eq] at h
    by_cases he : rung .f64 c = 9218868437227405311
    · rw [he]; simp
    · have := val_mono FloatKind.f64.format (show rung .f64 c < 9218868437227405311 by omega)
      rw [Int.compare_eq_lt.2 (by simpa using this)]; rfl
  · rw [order_inf_fin (by rw [isInf_fabs]; exact h) hM, sgn_fabs]
    unfold fin; unfold isInf at h; simp only [beq_iff_eq] at h
    rw [decide_eq_false (by omega)]; rfl
  · rw [order_isN_l (by rw [isN_fabs]; exact h)]
    rw [isN_iff, decide_eq_true_eq] at h
    unfold fin; rw [decide_eq_false (by omega)]; rfl

/-! ## Bits -/
theorem i64_and_nat (a b : Nat) (ha : a < 9223372036854775808) (hb : b < 9223372036854775808) : bits .and .i64 (a : Int) (b : Int) = ((a &&& b : Nat) : Int) := by
  have hx : a &&& b < 2 ^ 63 := Nat.and_lt_two_pow _ (by omega)
  show IntKind.i64.wrap ((BitVec.ofInt 64 (a : Int) &&& BitVec.ofInt 64 (b : Int)).toNat : Int) = _
  rw [BitVec.toNat_and, ofInt_u64 a (by omega), ofInt_u64 b (by omega)]
  exact IntWalk.i64_in _ (by omega)
theorem and_exp (c : Nat) : c &&& 2139095040 = (c / 8388608 % 256) * 8388608 := by
  have e : (2139095040 : Nat) = 255 <<< 23 := by decide
  have e2 : (c / 8388608 % 256) * 8388608 = ((c >>> 23) &&& 255) <<< 23 := by
    rw [Nat.shiftLeft_eq, Nat.shiftRight_eq_div_pow, show (255 : Nat) = 2 ^ 8 - 1 from rfl, Nat.and_two_pow_sub_one_eq_mod]
  rw [e, e2]
  apply Nat.eq_of_testBit_eq
  intro i
  simp only [Nat.testBit_and, Nat.testBit_shiftLeft, Nat.testBit_shiftRight]
  by_cases h : i ≥ 23
  · rw [show 23 + (i - 23) = i by omega]
    cases c.testBit i <;> simp
  · simp [h]
/-- 'bits & the exponent's mask == 0' tells that the exponent field is nought. -/
theorem exp_zero {c : Nat} (h : c < 4294967296) : (bits .and .i64 (c : Int) 2139095040 == 0) = decide (rung .f32 c < 8388608) := by
  have := i64_and_nat c 2139095040 (by omega) (by decide)
  rw [show ((2139095040 : Nat) : Int) = 2139095040 from rfl] at this
  rw [this, and_exp]
  unfold rung; rw [sw32]
  by_cases hh : c % 2147483648 < 8388608
  · rw [decide_eq_true hh]
    have e : c / 8388608 % 256 = 0 := by omega
    rw [e]; rfl
  · rw [decide_eq_false hh]
    have e : c / 8388608 % 256 ≠ 0 := by omega
    simp; omega
theorem sign_bit {c : Nat} (h : c < 4294967296) : bits .and .i64 (c : Int) 2147483648 = ((c / 2147483648 * 2147483648 : Nat) : Int) := by
  have := i64_and_nat c 2147483648 (by omega) (by decide)
  rw [show ((2147483648 : Nat) : Int) = 2147483648 from rfl] at this
  rw [this, show (2147483648 : Nat) = 2 ^ 31 from rfl, nat_bit 31 c]
  congr 2
  omega

/-! ## Subnormal numbers -/
/-- Nearer to 0 than 2 to the power of -126, and not zero. -/
def subn (c : Nat) : Bool := FloatKind.f32.format.order c 0 != some .eq && decide (rung .f32 c < 8388608)
theorem sv_pos {k : FloatKind} {x : Nat} (h : sgn k x = false) : sv k x = (val k.format (rung k x) : Nat) := by unfold sv; rw [h]; rfl
/-- Of two finite words without a sign the lesser is the one of the lesser rung. -/
theorem lss_pos {k : FloatKind} {x y : Nat} (hx : fin k x = true) (hy : fin k y = true) (sx : sgn k x = false) (sy : sgn k y = false) : (k.format.order x y == some .lt) = decide (rung k x < rung k y) := by
  rw [order_fin hx hy, sv_pos sx, sv_pos sy]
  by_cases hh : rung k x < rung k y
  · rw [decide_eq_true hh, Int.compare_eq_lt.2 (Int.ofNat_lt.2 (val_mono k.format hh))]; rfl
  · rw [decide_eq_false hh, beq_eq_false_iff_ne]
    intro he
    have h1 := Int.compare_eq_lt.1 (Option.some.inj he)
    exact hh ((val_lt_iff _ _ _).1 (Int.ofNat_lt.1 h1))
theorem rung_least : rung .f32 8388608 = 8388608 := by decide +kernel
theorem small_wide (c : Nat) : (FloatKind.f64.format.order (fabs (fcv .f32 .f64 c)) 4039728865751334912 == some .lt) = decide (rung .f32 c < 8388608) := by
  have e : fcv .f32 .f64 8388608 = (4039728865751334912 : Nat) := by decide +kernel
  have hk : fin .f32 8388608 = true := by decide +kernel
  have hs : sgn .f32 8388608 = false := by decide +kernel
  rw [← e, fabs_wide, order_wide]
  rcases three (k := .f32) c with h | h | h
  · rw [lss_pos (by rw [fin_fabs32]; exact h) hk (sgn_fabs32 c) hs, rung_fabs32, rung_least]
  · rw [order_inf_fin (by rw [isInf_fabs32]; exact h) hk, sgn_fabs32]
    unfold isInf at h; simp only [beq_iff_eq] at h
    rw [in32] at h
    rw [decide_eq_false (by omega)]; rfl
  · rw [order_isN_l (by rw [isN_fabs32]; exact h)]
    rw [isN_iff, decide_eq_true_eq, in32] at h
    rw [decide_eq_false (by omega)]; rfl
theorem subn_of {c : Nat} {b : Bool} (h : (FloatKind.f32.format.order c 0 != some .eq) = b) : subn c = (b && decide (rung .f32 c < 8388608)) := by unfold subn; rw [h]
/-- A number without its fraction where its exponent field is nought: a zero with its sign. -/
def flush (c : Nat) : Nat := if rung .f32 c < 8388608 then c / 2147483648 * 2147483648 else c
theorem flush_zero {c : Nat} (_hc : c < 4294967296) (h : (FloatKind.f32.format.order c 0 != some .eq) = false) : flush c = c := by
  unfold flush
  split
  · rename_i hr
    have hf : fin .f32 c = true := by unfold fin; rw [in32, decide_eq_true (by omega)]
    have h0 : fin .f32 0 = true := by decide +kernel
    have hs0 : sv .f32 0 = 0 := by decide +kernel
    rw [order_fin hf h0, hs0] at h
    have hz : sv .f32 c = 0 := by
      have : compare (sv .f32 c) 0 = .eq := by simpa using h
      exact Int.compare_eq_eq.1 this
    have hv : val FloatKind.f32.format (rung .f32 c) = 0 := by
      unfold sv at hz; split at hz <;> omega
    have hr0 : rung .f32 c = 0 := val_inj FloatKind.f32.format (by rw [hv, val_zero])
    unfold rung at hr0; rw [sw32] at hr0
    omega
  · rfl
theorem flush_not {c : Nat} (hc : c < 4294967296) (h : subn c = false) : flush c = c := by
  by_cases hr : rung .f32 c < 8388608
  · refine flush_zero hc ?_
    unfold subn at h
    rw [decide_eq_true hr, Bool.and_true] at h
    exact h
  · unfold flush; rw [if_neg hr]
theorem subn_rung {c : Nat} (h : subn c = true) : rung .f32 c < 8388608 := by
  unfold subn at h
  rw [Bool.and_eq_true, decide_eq_true_eq] at h
  exact h.2
theorem flush_word {c : Nat} (hc : c < 4294967296) : Fl .f32 (c / 2147483648 * 2147483648) (c / 2147483648 * 2147483648) := by
  rcases (by omega : c / 2147483648 = 0 ∨ c / 2147483648 = 1) with h | h <;> rw [h] <;> exact Fl.not (by decide +kernel) (by decide +kernel)
theorem sgn_div32 {c : Nat} (hc : c < 4294967296) : c / 2147483648 = (sgn .f32 c).toNat := by
  unfold sgn; rw [sw32]
  rcases (by omega : c / 2147483648 = 0 ∨ c / 2147483648 = 1) with h | h <;> rw [h] <;> rfl
theorem sgn_div64 {c : Nat} (hc : c < 18446744073709551616) : c / 9223372036854775808 = (sgn .f64 c).toNat := by
  unfold sgn; rw [sw64]
  rcases (by omega : c / 9223372036854775808 = 0 ∨ c / 9223372036854775808 = 1) with h | h <;> rw [h] <;> rfl
theorem sign_word {b : Bool} : Fl .f64 (b.toNat * 9223372036854775808) (b.toNat * 9223372036854775808) := by
  cases b <;> exact Fl.not (by decide +kernel) (by decide +kernel)
theorem fcv_sign (b : Bool) : fits .f64 .f32 (b.toNat * 9223372036854775808) = true ∧ fcv .f64 .f32 (b.toNat * 9223372036854775808) = b.toNat * 2147483648 := by
  cases b <;> exact ⟨by decide +kernel, by decide +kernel⟩

/-! ## The opposite -/
/-- The opposite: the sign's bit turned. -/
def fneg (k : FloatKind) (x : Nat) : Nat := nrm k (Op.negFloat k x)
theorem sw_pow (k : FloatKind) : k.format.signWeight = 2 ^ (k.format.exponentBits + k.format.fractionBits) := rfl
theorem rung_neg (k : FloatKind) (x : Nat) : rung k (Op.negFloat k x) = rung k x := by
  unfold rung Op.negFloat
  rw [sw_pow, Nat.xor_mod_two_pow, Nat.mod_self, Nat.xor_zero]
theorem sgn_neg {k : FloatKind} {x : Nat} : sgn k (Op.negFloat k x) = !sgn k x := by
  unfold sgn Op.negFloat
  rw [sw_pow, Nat.xor_div_two_pow, Nat.div_self (Nat.two_pow_pos _)]
  generalize x / 2 ^ (k.format.exponentBits + k.format.fractionBits) = y
  have h : (y ^^^ 1) % 2 = (y + 1) % 2 := by
    have := Nat.xor_mod_two_pow (a := y) (b := 1) (n := 1)
    rw [show (2 : Nat) ^ 1 = 2 from rfl] at this
    rw [this]
    rcases (by omega : y % 2 = 0 ∨ y % 2 = 1) with h | h <;> rw [h] <;> simp <;> omega
  rw [h]
  rcases (by omega : y % 2 = 0 ∨ y % 2 = 1) with h | h
  · rw [h, show (y + 1) % 2 = 1 by omega]; rfl
  · rw [h, show (y + 1) % 2 = 0 by omega]; rfl
theorem wf_neg {k : FloatKind} {x : Nat} (h : (Lit.float k x).wf = true) : (Lit.float k (Op.negFloat k x)).wf = true := by
  cases k
  · have hx : x < 2 ^ 32 := by simpa [Lit.wf] using h
    exact wf_of_lt .f32 _ (Nat.xor_lt_two_pow hx (by decide))
  · have hx : x < 2 ^ 64 := by simpa [Lit.wf] using h
    exact wf_of_lt .f64 _ (Nat.xor_lt_two_pow hx (by decide))
theorem isN_neg (k : FloatKind) (x : Nat) : isN k (Op.negFloat k x) = isN k x := by rw [isN_iff, isN_iff, rung_neg]
theorem Fl.neg {k : FloatKind} {c r : Nat} (h : Fl k c r) : Fl k (fneg k c) (Op.negFloat k r) := by
  refine ⟨?_, wf_neg h.wf⟩
  unfold fneg
  cases hn : isN k r
  · rw [h.word (by rw [h.nn]; exact hn)]
  · rw [nrm_is (by rw [isN_neg]; exact hn), nrm_is (by rw [isN_neg, h.nn]; exact hn)]
end Go.Proofs.Ytmioclcipdifpaa
