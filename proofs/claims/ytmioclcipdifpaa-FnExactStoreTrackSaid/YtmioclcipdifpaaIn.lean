/-
  Rounding is monotone: what is not more than a word's number is written as not more than this word. So a result's bounds are words themselves: 'Nn k x b': x has no sign and is finite and at most b; 'Ab k x b': x is finite and at most b with either sign. No premise.
-/
import Derived.Test.YtmioclcipdifpaaBnd2
import Derived.Test.YtmioclcipdifpaaRnd
namespace Go.Proofs.Ytmioclcipdifpaa
open Go

theorem cut_even (neg : Bool) (n d : Nat) : Ieee.Toward.even.cut neg n d = n / 2 ^ d + (decide (2 ^ d < 2 * (n % 2 ^ d)) || 2 ^ d == 2 * (n % 2 ^ d) && n / 2 ^ d % 2 == 1).toNat := by
  unfold Ieee.Toward.cut
  dsimp only
  rw [Nat.one_shiftLeft]
  by_cases h : d ≤ n.log2 + 2
  · rw [Nat.min_eq_left h]
  · rw [Nat.min_eq_right (by omega)]
    have hn : n < 2 ^ (n.log2 + 1) := Nat.lt_log2_self
    have e : 2 ^ (n.log2 + 2) = 2 * 2 ^ (n.log2 + 1) := by rw [Nat.pow_succ, Nat.mul_comm]
    have hd : 2 ^ (n.log2 + 2) ≤ 2 ^ d := Nat.pow_le_pow_right (by omega) (by omega)
    have a1 : n / 2 ^ d = 0 := Nat.div_eq_of_lt (by omega)
    have a2 : n % 2 ^ d = n := Nat.mod_eq_of_lt (by omega)
    have a3 : n / 2 ^ (n.log2 + 2) = 0 := Nat.div_eq_of_lt (by omega)
    have a4 : n % 2 ^ (n.log2 + 2) = n := Nat.mod_eq_of_lt (by omega)
    rw [a1, a2, a3, a4, decide_eq_false (by omega), decide_eq_false (by omega)]
    simp
theorem cut_mono (s t : Bool) {m n : Nat} (d : Nat) (h : m ≤ n) : Ieee.Toward.even.cut s m d ≤ Ieee.Toward.even.cut t n d := by
  rw [cut_even, cut_even]
  have hq : m / 2 ^ d ≤ n / 2 ^ d := Nat.div_le_div_right h
  have hb : ∀ b : Bool, b.toNat ≤ 1 := by intro b; cases b <;> decide
  rcases Nat.lt_or_eq_of_le hq with hl | he
  · have := hb (decide (2 ^ d < 2 * (m % 2 ^ d)) || 2 ^ d == 2 * (m % 2 ^ d) && m / 2 ^ d % 2 == 1)
    omega
  · have hm := Nat.div_add_mod m (2 ^ d)
    have hn := Nat.div_add_mod n (2 ^ d)
    rw [he] at hm
    have hr : m % 2 ^ d ≤ n % 2 ^ d := by omega
    rw [he]
    refine Nat.add_le_add_left ?_ _
    generalize 2 ^ d = g at *
    generalize m % g = r at *
    generalize n % g = r' at *
    generalize (n / g % 2 == 1) = o
    by_cases h1 : g < 2 * r'
    · rw [decide_eq_true h1, Bool.true_or]; exact hb _
    · by_cases h2 : g = 2 * r
      · have h3 : g = 2 * r' := by omega
        rw [decide_eq_false h1, decide_eq_false (by omega), ← h3, ← h2]
        exact Nat.le_refl _
      · rw [decide_eq_false (by omega : ¬ g < 2 * r), beq_eq_false_iff_ne.2 h2]
        exact Nat.zero_le _
theorem log2_le {m n : Nat} (hm : m ≠ 0) (h : m ≤ n) : m.log2 ≤ n.log2 := (Nat.le_log2 (by omega)).2 (Nat.le_trans (Nat.log2_self_le hm) h)
theorem nearest_rung {k : FloatKind} (s : Bool) {m : Nat} (hm : m ≠ 0) (p : Int) : rung k (k.format.nearest s m p) = min (((max (p + m.log2 - k.format.fractionBits) k.format.leastPlace) - k.format.leastPlace).toNat * k.format.binade + Ieee.Toward.even.cut s (m <<< (p - max (p + m.log2 - k.format.fractionBits) k.format.leastPlace).toNat) (max (p + m.log2 - k.format.fractionBits) k.format.leastPlace - p).toNat) k.format.infRung := by
  have hinf := k.format.infRung_lt
  unfold Ieee.Format.nearest
  rw [if_neg hm]
  dsimp only
  exact (word_rung (k := k) s (Nat.lt_of_le_of_lt (Nat.min_le_right _ _) hinf)).1
theorem nearest_zero {k : FloatKind} (s : Bool) (p : Int) : rung k (k.format.nearest s 0 p) = 0 := by
  have hinf := k.format.infRung_lt
  unfold Ieee.Format.nearest
  rw [if_pos rfl]
  exact (word_rung (k := k) s (by omega)).1
theorem kept_le {k : FloatKind} (s : Bool) {m : Nat} (hm : m ≠ 0) (p last : Int) (h : p + m.log2 - k.format.fractionBits ≤ last) : Ieee.Toward.even.cut s (m <<< (p - last).toNat) (last - p).toNat ≤ 2 * k.format.binade := by
  have hbin : 2 ^ (k.format.fractionBits + 1) = 2 * k.format.binade := by rw [Nat.pow_succ, Nat.mul_comm]; rfl
  rw [← hbin]
  by_cases hp : last ≤ p
  · rw [show (last - p).toNat = 0 by omega, cut_none, Nat.shiftLeft_eq]
    have hlog : m < 2 ^ (m.log2 + 1) := Nat.lt_log2_self
    have h1 : m * 2 ^ (p - last).toNat < 2 ^ (m.log2 + 1) * 2 ^ (p - last).toNat := Nat.mul_lt_mul_of_pos_right hlog (Nat.two_pow_pos _)
    rw [← Nat.pow_add] at h1
    have h2 : 2 ^ (m.log2 + 1 + (p - last).toNat) ≤ 2 ^ (k.format.fractionBits + 1) := Nat.pow_le_pow_right (by omega) (by omega)
    omega
  · rw [show (p - last).toNat = 0 by omega, Nat.shiftLeft_zero]
    exact cut_le s m _ _ hm (by omega)
theorem kept_ge {k : FloatKind} (s : Bool) {m : Nat} (hm : m ≠ 0) (p last : Int) (h : last = p + m.log2 - k.format.fractionBits) : k.format.binade ≤ Ieee.Toward.even.cut s (m <<< (p - last).toNat) (last - p).toNat := by
  rw [show k.format.binade = 2 ^ k.format.fractionBits from rfl]
  by_cases hp : last ≤ p
  · rw [show (last - p).toNat = 0 by omega, cut_none, Nat.shiftLeft_eq]
    have h1 := Nat.mul_le_mul_right (2 ^ (p - last).toNat) (Nat.log2_self_le hm)
    rw [← Nat.pow_add] at h1
    rw [show m.log2 + (p - last).toNat = k.format.fractionBits by omega] at h1
    exact h1
  · rw [show (p - last).toNat = 0 by omega, Nat.shiftLeft_zero]
    exact cut_ge s m _ _ hm (by omega)
/-- A greater number is written as a word that is not less. -/
theorem nearest_mono {k : FloatKind} (s t : Bool) {m n : Nat} (p : Int) (h : m ≤ n) : rung k (k.format.nearest s m p) ≤ rung k (k.format.nearest t n p) := by
  by_cases hm : m = 0
  · rw [hm, nearest_zero]; exact Nat.zero_le _
  have hn : n ≠ 0 := by omega
  rw [nearest_rung s hm, nearest_rung t hn]
  have hl := log2_le hm h
  generalize hl1 : max (p + m.log2 - k.format.fractionBits) k.format.leastPlace = l1
  generalize hl2 : max (p + n.log2 - k.format.fractionBits) k.format.leastPlace = l2
  have hle : l1 ≤ l2 := by omega
  have main : (l1 - k.format.leastPlace).toNat * k.format.binade + Ieee.Toward.even.cut s (m <<< (p - l1).toNat) (l1 - p).toNat ≤ (l2 - k.format.leastPlace).toNat * k.format.binade + Ieee.Toward.even.cut t (n <<< (p - l2).toNat) (l2 - p).toNat := by
    by_cases he : l1 = l2
    · subst he
      refine Nat.add_le_add_left (cut_mono s t _ ?_) _
      rw [Nat.shiftLeft_eq, Nat.shiftLeft_eq]
      exact Nat.mul_le_mul_right _ h
    · have h1 := kept_le (k := k) s hm p l1 (by omega)
      have h2 := kept_ge (k := k) t hn p l2 (by omega)
      have h3 : (l1 - k.format.leastPlace).toNat + 1 ≤ (l2 - k.format.leastPlace).toNat := by omega
      have h4 := Nat.mul_le_mul_right k.format.binade h3
      rw [Nat.succ_mul] at h4
      omega
  omega
/-- A word is the nearest to its own number. -/
theorem nearest_self {k : FloatKind} {b : Nat} (hb : fin k b = true) (s : Bool) : ∃ n q, k.format.read b = .number (sgn k b) n q ∧ k.format.leastPlace ≤ q ∧ n * 2 ^ (q - k.format.leastPlace).toNat = val k.format (rung k b) ∧ rung k (k.format.nearest s n q) = rung k b := by
  unfold fin at hb; rw [decide_eq_true_eq] at hb
  have hB := binade_pos k
  have hbin : k.format.binade = 2 ^ k.format.fractionBits := rfl
  have e : k.format.read b = if rung k b < k.format.binade then .number (sgn k b) (rung k b) k.format.leastPlace
      else if rung k b < k.format.infRung then .number (sgn k b) (k.format.binade + rung k b % k.format.binade) (k.format.leastPlace + (rung k b / k.format.binade - 1 : Nat))
      else if rung k b = k.format.infRung then .infinity (sgn k b) else .nan (sgn k b) (rung k b - k.format.infRung) := rfl
  by_cases h : rung k b < k.format.binade
  · rw [if_pos h] at e
    refine ⟨_, _, e, Int.le_refl _, ?_, ?_⟩
    · unfold val; rw [if_pos h]; simp
    · by_cases h0 : rung k b = 0
      · rw [h0, nearest_zero]
      · have hlog : (rung k b).log2 < k.format.fractionBits := (Nat.log2_lt h0).2 (by rw [← hbin]; exact h)
        rw [nearest_rung s h0, show max (k.format.leastPlace + ((rung k b).log2 : Int) - k.format.fractionBits) k.format.leastPlace = k.format.leastPlace by omega]
        rw [show (k.format.leastPlace - k.format.leastPlace).toNat = 0 by omega, Nat.zero_mul, Nat.zero_add, Nat.shiftLeft_zero, cut_none]
        omega
  · rw [if_neg h, if_pos hb] at e
    refine ⟨_, _, e, by omega, ?_, ?_⟩
    · unfold val; rw [if_neg h, show (k.format.leastPlace + ((rung k b / k.format.binade - 1 : Nat) : Int) - k.format.leastPlace).toNat = rung k b / k.format.binade - 1 by omega]
    · have hmod := Nat.mod_lt (rung k b) hB
      have hm : k.format.binade + rung k b % k.format.binade ≠ 0 := by omega
      have hlog : (k.format.binade + rung k b % k.format.binade).log2 = k.format.fractionBits := by
        have h1 : k.format.fractionBits ≤ (k.format.binade + rung k b % k.format.binade).log2 := (Nat.le_log2 hm).2 (by rw [← hbin]; omega)
        have h2 : (k.format.binade + rung k b % k.format.binade).log2 < k.format.fractionBits + 1 := (Nat.log2_lt hm).2 (by rw [Nat.pow_succ, ← hbin]; omega)
        omega
      have hd := Nat.div_add_mod (rung k b) k.format.binade
      have hq : 1 ≤ rung k b / k.format.binade := (Nat.le_div_iff_mul_le hB).2 (by omega)
      rw [nearest_rung s hm, hlog]
      generalize rung k b / k.format.binade = Q at *
      generalize rung k b % k.format.binade = R at *
      rw [show max (k.format.leastPlace + ((Q - 1 : Nat) : Int) + (k.format.fractionBits : Int) - k.format.fractionBits) k.format.leastPlace = k.format.leastPlace + ((Q - 1 : Nat) : Int) by omega]
      rw [show (k.format.leastPlace + ((Q - 1 : Nat) : Int) - k.format.leastPlace).toNat = Q - 1 by omega, show (k.format.leastPlace + ((Q - 1 : Nat) : Int) - (k.format.leastPlace + ((Q - 1 : Nat) : Int))).toNat = 0 by omega, Nat.shiftLeft_zero, cut_none]
      have : (Q - 1) * k.format.binade + k.format.binade = k.format.binade * Q := by
        rw [← Nat.succ_mul, Nat.mul_comm]; congr 1; omega
      omega
theorem pow_split {a b c : Int} (h1 : c ≤ b) (h2 : b ≤ a) : 2 ^ (a - c).toNat = 2 ^ (a - b).toNat * 2 ^ (b - c).toNat := by
  rw [← Nat.pow_add]; congr 1; omega
/-- What is at most a word's number (told in units of 2^L) is written as at most this word. -/
theorem nearest_le_word {k : FloatKind} (s : Bool) {m b : Nat} {p : Int} (L : Int) (hb : fin k b = true) (h1 : L ≤ p) (h2 : L ≤ k.format.leastPlace) (h : m * 2 ^ (p - L).toNat ≤ val k.format (rung k b) * 2 ^ (k.format.leastPlace - L).toNat) : rung k (k.format.nearest s m p) ≤ rung k b := by
  obtain ⟨n, q, _, hq, hv, hr⟩ := nearest_self hb s
  rw [← hr, ← nearest_scale' k.format s m p L (p - L).toNat (by omega), ← nearest_scale' k.format s n q L (q - L).toNat (by omega)]
  refine nearest_mono s s L ?_
  rw [pow_split h2 hq, ← Nat.mul_assoc, hv]
  exact h
theorem word_le_nearest {k : FloatKind} (s : Bool) {m b : Nat} {p : Int} (L : Int) (hb : fin k b = true) (h1 : L ≤ p) (h2 : L ≤ k.format.leastPlace) (h : val k.format (rung k b) * 2 ^ (k.format.leastPlace - L).toNat ≤ m * 2 ^ (p - L).toNat) : rung k b ≤ rung k (k.format.nearest s m p) := by
  obtain ⟨n, q, _, hq, hv, hr⟩ := nearest_self hb s
  rw [← hr, ← nearest_scale' k.format s m p L (p - L).toNat (by omega), ← nearest_scale' k.format s n q L (q - L).toNat (by omega)]
  refine nearest_mono s s L ?_
  rw [pow_split h2 hq, ← Nat.mul_assoc, hv]
  exact h

/-- x is finite and has at most the size of b. -/
structure Ab (k : FloatKind) (x b : Nat) : Prop where
  le : rung k x ≤ rung k b
  fit : fin k b = true
/-- x is from +0 to b. -/
structure Nn (k : FloatKind) (x b : Nat) : Prop where
  ab : Ab k x b
  pos : sgn k x = false
theorem Ab.fin {k : FloatKind} {x b : Nat} (h : Ab k x b) : fin k x = true := by
  have h1 := h.le
  have h2 := h.fit
  unfold Proofs.Ytmioclcipdifpaa.fin at *
  rw [decide_eq_true_eq] at *
  omega
theorem Ab.mono {k : FloatKind} {x b c : Nat} (h : Ab k x b) (hc : rung k b ≤ rung k c) (hf : Proofs.Ytmioclcipdifpaa.fin k c = true) : Ab k x c := ⟨Nat.le_trans h.le hc, hf⟩
theorem Nn.mono {k : FloatKind} {x b c : Nat} (h : Nn k x b) (hc : rung k b ≤ rung k c) (hf : Proofs.Ytmioclcipdifpaa.fin k c = true) : Nn k x c := ⟨h.ab.mono hc hf, h.pos⟩
theorem val_le {f : Ieee.Format} {r s : Nat} (h : r ≤ s) : val f r ≤ val f s := by
  rcases Nat.lt_or_eq_of_le h with hl | rfl
  · exact Nat.le_of_lt (val_mono f hl)
  · exact Nat.le_refl _
theorem Ab.val {k : FloatKind} {x b : Nat} (h : Ab k x b) : Proofs.Ytmioclcipdifpaa.val k.format (rung k x) ≤ Proofs.Ytmioclcipdifpaa.val k.format (rung k b) := val_le h.le
theorem le_of_val {k : FloatKind} {x y : Nat} (h : Proofs.Ytmioclcipdifpaa.val k.format (rung k x) ≤ Proofs.Ytmioclcipdifpaa.val k.format (rung k y)) : rung k x ≤ rung k y := by
  by_cases hl : rung k y < rung k x
  · have := val_mono k.format hl; omega
  · omega

/-! ## A product -/
theorem fop_mul_near {k : FloatKind} {x y : Nat} (hx : fin k x = true) (hy : fin k y = true) : fop .mul k x y = k.format.nearest (sgn k x ^^ sgn k y) (val k.format (rung k x) * val k.format (rung k y)) (k.format.leastPlace + k.format.leastPlace) := by
  obtain ⟨m, p, h1, h2, h3, _, _⟩ := read_fin hx
  obtain ⟨n, q, g1, g2, g3, _, _⟩ := read_fin hy
  have e : fop .mul k x y = k.format.nearest (sgn k x ^^ sgn k y) (m * n) (p + q) := by
    refine fop_of_some ?_
    unfold floatBits Ieee.Format.mul
    dsimp only
    rw [h1, g1]; rfl
  rw [e, ← h3, ← g3, show m * 2 ^ (p - k.format.leastPlace).toNat * (n * 2 ^ (q - k.format.leastPlace).toNat) = m * n * 2 ^ ((p - k.format.leastPlace).toNat + (q - k.format.leastPlace).toNat) by rw [Nat.pow_add]; simp only [Nat.mul_left_comm, Nat.mul_assoc]]
  exact (nearest_scale' k.format _ (m * n) (p + q) _ _ (by omega)).symm
theorem least_neg (k : FloatKind) : k.format.leastPlace ≤ 0 := by cases k <;> decide
theorem mul_ab {k : FloatKind} {x y a b c : Nat} (hx : Ab k x a) (hy : Ab k y b) (hc : fin k c = true) (h : val k.format (rung k a) * val k.format (rung k b) ≤ val k.format (rung k c) * 2 ^ (-k.format.leastPlace).toNat) : Ab k (fop .mul k x y) c := by
  refine ⟨?_, hc⟩
  have hl := least_neg k
  rw [fop_mul_near hx.fin hy.fin]
  refine nearest_le_word _ (k.format.leastPlace + k.format.leastPlace) hc (Int.le_refl _) (by omega) ?_
  rw [show (k.format.leastPlace + k.format.leastPlace - (k.format.leastPlace + k.format.leastPlace)).toNat = 0 by omega, Nat.pow_zero, Nat.mul_one, show (k.format.leastPlace - (k.format.leastPlace + k.format.leastPlace)).toNat = (-k.format.leastPlace).toNat by omega]
  exact Nat.le_trans (Nat.mul_le_mul hx.val hy.val) h
theorem mul_sgn {k : FloatKind} {x y : Nat} (hx : fin k x = true) (hy : fin k y = true) : sgn k (fop .mul k x y) = (sgn k x ^^ sgn k y) := by
  rw [fop_mul_near hx hy, nearest_sgn]
theorem mul_nn {k : FloatKind} {x y a b c : Nat} (hx : Nn k x a) (hy : Nn k y b) (hc : fin k c = true) (h : val k.format (rung k a) * val k.format (rung k b) ≤ val k.format (rung k c) * 2 ^ (-k.format.leastPlace).toNat) : Nn k (fop .mul k x y) c :=
  ⟨mul_ab hx.ab hy.ab hc h, by rw [mul_sgn hx.ab.fin hy.ab.fin, hx.pos, hy.pos]; rfl⟩

/-! ## A sum and a difference -/
theorem sv_read {k : FloatKind} {x : Nat} {m : Nat} {p : Int} (h : m * 2 ^ (p - k.format.leastPlace).toNat = val k.format (rung k x)) (L : Int) (h1 : k.format.leastPlace ≤ L) (h2 : L ≤ p) (s : Bool) (hs : sgn k x = s) : Ieee.signed s m (p - L).toNat * 2 ^ (L - k.format.leastPlace).toNat = sv k x := by
  rw [signed_scale, sv_eq, hs, ← h, pow_split h1 h2]
  simp only [Int.natCast_mul, Int.natCast_pow, Int.cast_ofNat_Int, Int.mul_assoc]
theorem sum_near {k : FloatKind} {s t : Bool} {m n : Nat} {p q : Int} {r : Nat} {a b : Int} (hp : k.format.leastPlace ≤ p) (hq : k.format.leastPlace ≤ q)
    (ha : ∀ L, k.format.leastPlace ≤ L → L ≤ p → Ieee.signed s m (p - L).toNat * 2 ^ (L - k.format.leastPlace).toNat = a) (hb : ∀ L, k.format.leastPlace ≤ L → L ≤ q → Ieee.signed t n (q - L).toNat * 2 ^ (L - k.format.leastPlace).toNat = b)
    (h : ((Ieee.Datum.number s m p).sum (.number t n q)).map k.format.write = some r) : r = k.format.nearest (if a + b = 0 then s && t else decide (a + b < 0)) (a + b).natAbs k.format.leastPlace := by
  unfold Ieee.Datum.sum at h
  dsimp only [Option.map_some] at h
  have e := Option.some.inj h
  have h1 := ha (min p q) (by omega) (by omega)
  have h2 := hb (min p q) (by omega) (by omega)
  have hL : k.format.leastPlace ≤ min p q := by omega
  generalize min p q = L at *
  generalize Ieee.signed s m (p - L).toNat = A at *
  generalize Ieee.signed t n (q - L).toNat = B at *
  have hsum : a + b = (A + B) * 2 ^ (L - k.format.leastPlace).toNat := by rw [← h1, ← h2, Int.add_mul]
  have hpow : (0 : Int) < 2 ^ (L - k.format.leastPlace).toNat := Int.pow_pos (by decide)
  have hz : (a + b = 0) ↔ (A + B = 0) := by
    rw [hsum]
    constructor
    · intro h; rcases Int.mul_eq_zero.1 h with h | h
      · exact h
      · omega
    · intro h; rw [h, Int.zero_mul]
  have hn : (a + b < 0) ↔ (A + B < 0) := by
    rw [hsum]
    constructor
    · intro h
      by_cases hc : A + B < 0
      · exact hc
      · have := Int.mul_nonneg (by omega : 0 ≤ A + B) (Int.le_of_lt hpow); omega
    · intro h; exact Int.mul_neg_of_neg_of_pos h hpow
  rw [← e]
  show k.format.nearest _ _ _ = _
  have habs : (a + b).natAbs = (A + B).natAbs * 2 ^ (L - k.format.leastPlace).toNat := by
    rw [hsum, Int.natAbs_mul, Int.natAbs_pow]; rfl
  rw [habs, nearest_scale' k.format _ (A + B).natAbs L _ _ (by omega)]
  congr 1
  by_cases hzz : A + B = 0
  · rw [if_pos hzz, if_pos (hz.2 hzz)]
  · rw [if_neg hzz, if_neg (fun h => hzz (hz.1 h))]
    rw [Bool.eq_iff_iff, decide_eq_true_eq, decide_eq_true_eq]; exact hn.symm
theorem fop_add_near {k : FloatKind} {x y : Nat} (hx : fin k x = true) (hy : fin k y = true) : fop .add k x y = k.format.nearest (if sv k x + sv k y = 0 then sgn k x && sgn k y else decide (sv k x + sv k y < 0)) (sv k x + sv k y).natAbs k.format.leastPlace := by
  obtain ⟨m, p, h1, h2, h3, _, _⟩ := read_fin hx
  obtain ⟨n, q, g1, g2, g3, _, _⟩ := read_fin hy
  exact sum_near h2 g2 (fun L a b => sv_read h3 L a b _ rfl) (fun L a b => sv_read g3 L a b _ rfl) (fop_sum_some h1 g1)
theorem sv_not {k : FloatKind} (x : Nat) : (if (!sgn k x) = true then -1 else 1) * ((val k.format (rung k x) : Nat) : Int) = -sv k x := by
  unfold sv
  cases sgn k x <;> simp
theorem fop_sub_near {k : FloatKind} {x y : Nat} (hx : fin k x = true) (hy : fin k y = true) : fop .sub k x y = k.format.nearest (if sv k x - sv k y = 0 then sgn k x && !sgn k y else decide (sv k x - sv k y < 0)) (sv k x - sv k y).natAbs k.format.leastPlace := by
  obtain ⟨m, p, h1, h2, h3, _, _⟩ := read_fin hx
  obtain ⟨n, q, g1, g2, g3, _, _⟩ := read_fin hy
  have := sum_near h2 g2 (a := sv k x) (b := -sv k y) (fun L a b => sv_read h3 L a b _ rfl) (fun L a b => by
    rw [signed_scale, ← sv_not, ← g3, pow_split a b]
    simp only [Int.natCast_mul, Int.natCast_pow, Int.cast_ofNat_Int, Int.mul_assoc]) (fop_dif_some h1 g1)
  rw [← Int.sub_eq_add_neg] at this
  exact this
theorem sv_abs (k : FloatKind) (x : Nat) : (sv k x).natAbs = val k.format (rung k x) := by
  unfold sv; split <;> omega
theorem near_ab {k : FloatKind} (s : Bool) {z : Int} {c : Nat} (hc : fin k c = true) (h : z.natAbs ≤ val k.format (rung k c)) : rung k (k.format.nearest s z.natAbs k.format.leastPlace) ≤ rung k c := by
  refine nearest_le_word _ k.format.leastPlace hc (Int.le_refl _) (Int.le_refl _) ?_
  rw [show (k.format.leastPlace - k.format.leastPlace).toNat = 0 by omega, Nat.pow_zero, Nat.mul_one, Nat.mul_one]
  exact h
theorem add_ab {k : FloatKind} {x y a b c : Nat} (hx : Ab k x a) (hy : Ab k y b) (hc : fin k c = true) (h : val k.format (rung k a) + val k.format (rung k b) ≤ val k.format (rung k c)) : Ab k (fop .add k x y) c := by
  refine ⟨?_, hc⟩
  rw [fop_add_near hx.fin hy.fin]
  refine near_ab _ hc ?_
  have h1 := hx.val
  have h2 := hy.val
  rw [← sv_abs k x] at h1
  rw [← sv_abs k y] at h2
  omega
theorem sub_ab {k : FloatKind} {x y a b c : Nat} (hx : Ab k x a) (hy : Ab k y b) (hc : fin k c = true) (h : val k.format (rung k a) + val k.format (rung k b) ≤ val k.format (rung k c)) : Ab k (fop .sub k x y) c := by
  refine ⟨?_, hc⟩
  rw [fop_sub_near hx.fin hy.fin]
  refine near_ab _ hc ?_
  have h1 := hx.val
  have h2 := hy.val
  rw [← sv_abs k x] at h1
  rw [← sv_abs k y] at h2
  omega
theorem add_nn {k : FloatKind} {x y a b c : Nat} (hx : Nn k x a) (hy : Nn k y b) (hc : fin k c = true) (h : val k.format (rung k a) + val k.format (rung k b) ≤ val k.format (rung k c)) : Nn k (fop .add k x y) c := by
  refine ⟨add_ab hx.ab hy.ab hc h, ?_⟩
  rw [fop_add_near hx.ab.fin hy.ab.fin, nearest_sgn, hx.pos, hy.pos]
  have h1 := sv_pos hx.pos
  have h2 := sv_pos hy.pos
  split
  · rfl
  · rw [decide_eq_false_iff_not, h1, h2]; omega
/-- x less y, where x is at least y. -/
theorem sub_nn {k : FloatKind} {x y a : Nat} (hx : Nn k x a) (hy : fin k y = true) (hp : sgn k y = false) (h : rung k y ≤ rung k x) : Nn k (fop .sub k x y) a := by
  have h1 := sv_pos hx.pos
  have h2 := sv_pos hp
  have hv := val_le (f := k.format) h
  have hxv := hx.ab.val
  refine ⟨⟨?_, hx.ab.fit⟩, ?_⟩
  · rw [fop_sub_near hx.ab.fin hy]
    refine near_ab _ hx.ab.fit ?_
    rw [h1, h2]; omega
  · rw [fop_sub_near hx.ab.fin hy, nearest_sgn, hx.pos]
    split
    · rfl
    · rw [decide_eq_false_iff_not, h1, h2]; omega
/-- x less y, from x's bound and from below at y. -/
theorem sub_nn2 {k : FloatKind} {x y a d c : Nat} (hx : Nn k x a) (hy : fin k y = true) (hp : sgn k y = false) (h : rung k y ≤ rung k x) (hd : rung k d ≤ rung k y) (hc : fin k c = true) (hv : val k.format (rung k a) ≤ val k.format (rung k c) + val k.format (rung k d)) : Nn k (fop .sub k x y) c := by
  have h0 := sub_nn hx hy hp h
  refine ⟨⟨?_, hc⟩, h0.pos⟩
  have h1 := sv_pos hx.pos
  have h2 := sv_pos hp
  have hle := val_le (f := k.format) h
  have hxv := hx.ab.val
  have hdv := val_le (f := k.format) hd
  rw [fop_sub_near hx.ab.fin hy]
  refine near_ab _ hc ?_
  rw [h1, h2]; omega

/-! ## A quotient -/
theorem quo_ab {k : FloatKind} {x y a d c : Nat} (hx : Ab k x a) (hy : fin k y = true) (hd : rung k d ≤ rung k y) (hd0 : 0 < val k.format (rung k d)) (hc : fin k c = true) (h : val k.format (rung k a) * 2 ^ (-k.format.leastPlace).toNat ≤ val k.format (rung k c) * val k.format (rung k d)) : Ab k (fop .quo k x y) c ∧ sgn k (fop .quo k x y) = (sgn k x ^^ sgn k y) := by
  obtain ⟨m, p, a1, a2, a3, _, _⟩ := read_fin hx.fin
  obtain ⟨n, q, b1, b2, b3, _, _⟩ := read_fin hy
  obtain ⟨mc, pc, c1, c2, c3, c4, _⟩ := read_fin hc
  have hl := least_neg k
  have hdv := val_le (f := k.format) hd
  have hn0 : n ≠ 0 := by
    intro h; subst h
    rw [Nat.zero_mul] at b3
    omega
  have e : fop .quo k x y = k.format.nearest (sgn k x ^^ sgn k y)
      (2 * ((m <<< (k.format.fractionBits + 2 + n.log2 - m.log2)) / n) + ((m <<< (k.format.fractionBits + 2 + n.log2 - m.log2)) % n != 0).toNat) (p - q - (k.format.fractionBits + 2 + n.log2 - m.log2 : Nat) - 1) := by
    refine fop_of_some ?_
    unfold floatBits Ieee.Format.div
    dsimp only
    rw [a1, b1]
    unfold Ieee.Datum.quotient
    dsimp only
    rw [if_neg hn0]
    rfl
  rw [e]
  refine ⟨⟨?_, hc⟩, nearest_sgn _ _ _ _⟩
  generalize hmore : k.format.fractionBits + 2 + n.log2 - m.log2 = more
  by_cases hm : m = 0
  · subst hm
    simp only [Nat.zero_shiftLeft, Nat.zero_div, Nat.zero_mod]
    rw [show (2 * 0 + ((0 : Nat) != 0).toNat) = 0 from rfl, nearest_zero]
    exact Nat.zero_le _
  · -- x's number is at most c's times y's
    have hxy : m * 2 ^ (p - k.format.leastPlace).toNat * 2 ^ (-k.format.leastPlace).toNat ≤ mc * 2 ^ (pc - k.format.leastPlace).toNat * (n * 2 ^ (q - k.format.leastPlace).toNat) := by
      rw [a3, b3, c3]
      refine Nat.le_trans (Nat.mul_le_mul_right _ hx.val) (Nat.le_trans h (Nat.mul_le_mul_left _ hdv))
    -- so c's place is not below the quotient's
    have hml := Nat.log2_self_le hm
    have hnl : n < 2 ^ (n.log2 + 1) := Nat.lt_log2_self
    have hbin : 2 * k.format.binade = 2 ^ (k.format.fractionBits + 1) := by rw [Nat.pow_succ, Nat.mul_comm]; rfl
    rw [hbin] at c4
    have hcmp : m.log2 + (p - k.format.leastPlace).toNat + (-k.format.leastPlace).toNat < k.format.fractionBits + 1 + (pc - k.format.leastPlace).toNat + (n.log2 + 1 + (q - k.format.leastPlace).toNat) := by
      have h1 : 2 ^ (m.log2 + (p - k.format.leastPlace).toNat + (-k.format.leastPlace).toNat) < 2 ^ (k.format.fractionBits + 1 + (pc - k.format.leastPlace).toNat + (n.log2 + 1 + (q - k.format.leastPlace).toNat)) := by
        refine Nat.lt_of_le_of_lt (Nat.le_trans ?_ hxy) ?_
        · rw [Nat.pow_add, Nat.pow_add]
          exact Nat.mul_le_mul_right _ (Nat.mul_le_mul_right _ hml)
        · rw [Nat.pow_add 2 (k.format.fractionBits + 1 + (pc - k.format.leastPlace).toNat), Nat.pow_add 2 (k.format.fractionBits + 1), Nat.pow_add 2 (n.log2 + 1)]
          exact Nat.mul_lt_mul_of_lt_of_lt (Nat.mul_lt_mul_of_pos_right c4 (Nat.two_pow_pos _)) (Nat.mul_lt_mul_of_pos_right hnl (Nat.two_pow_pos _))
      exact (Nat.pow_lt_pow_iff_right (by omega : 1 < 2)).1 h1
    by_cases hmo : n.log2 + k.format.fractionBits + 2 ≤ m.log2
    · -- cannot be: m has at most a significand's digits
      have : m.log2 < k.format.fractionBits + 1 := by
        obtain ⟨m', p', a1', _, _, a4', _⟩ := read_fin hx.fin
        rw [a1] at a1'
        injection a1' with _ e2 _
        subst e2
        rw [hbin] at a4'
        exact (Nat.log2_lt hm).2 a4'
      omega
    have hpl : p - q - more ≤ pc := by omega
    -- the quotient in units of 2^(p - q - more)
    have ht : m * 2 ^ more ≤ n * (mc * 2 ^ (pc - (p - q - more)).toNat) := by
      have d1 : m * 2 ^ more * 2 ^ ((p - k.format.leastPlace).toNat + (-k.format.leastPlace).toNat) ≤ n * (mc * 2 ^ (pc - (p - q - more)).toNat) * 2 ^ ((p - k.format.leastPlace).toNat + (-k.format.leastPlace).toNat) := by
        have d2 := Nat.mul_le_mul_right (2 ^ more) hxy
        have e1 : m * 2 ^ more * 2 ^ ((p - k.format.leastPlace).toNat + (-k.format.leastPlace).toNat) = m * 2 ^ (p - k.format.leastPlace).toNat * 2 ^ (-k.format.leastPlace).toNat * 2 ^ more := by
          rw [Nat.pow_add]; simp only [Nat.mul_comm, Nat.mul_left_comm, Nat.mul_assoc]
        have e2 : n * (mc * 2 ^ (pc - (p - q - more)).toNat) * 2 ^ ((p - k.format.leastPlace).toNat + (-k.format.leastPlace).toNat) = mc * 2 ^ (pc - k.format.leastPlace).toNat * (n * 2 ^ (q - k.format.leastPlace).toNat) * 2 ^ more := by
          have : 2 ^ (pc - (p - q - more)).toNat * 2 ^ ((p - k.format.leastPlace).toNat + (-k.format.leastPlace).toNat) = 2 ^ (pc - k.format.leastPlace).toNat * 2 ^ (q - k.format.leastPlace).toNat * 2 ^ more := by
            rw [← Nat.pow_add, ← Nat.pow_add, ← Nat.pow_add]; congr 1; omega
          rw [Nat.mul_assoc, Nat.mul_assoc mc, this]; simp only [Nat.mul_comm, Nat.mul_left_comm, Nat.mul_assoc]
        rw [e1, e2]; exact d2
      exact Nat.le_of_mul_le_mul_right d1 (Nat.two_pow_pos _)
    refine nearest_le_word _ (min (p - q - more - 1) k.format.leastPlace) hc (by omega) (by omega) ?_
    rw [Nat.shiftLeft_eq, ← c3]
    have hQ : 2 * (m * 2 ^ more / n) + (m * 2 ^ more % n != 0).toNat ≤ 2 * (mc * 2 ^ (pc - (p - q - more)).toNat) := by
      generalize mc * 2 ^ (pc - (p - q - more)).toNat = T at *
      generalize m * 2 ^ more = M at *
      have hdm := Nat.div_add_mod M n
      have hle : M / n ≤ T := by
        have := Nat.div_le_div_right (c := n) ht
        rwa [Nat.mul_div_cancel_left _ (Nat.pos_of_ne_zero hn0)] at this
      by_cases hz : M % n = 0
      · rw [hz]; simp; omega
      · have hlt : M / n < T := by
          rcases Nat.lt_or_eq_of_le hle with h | h
          · exact h
          · rw [h] at hdm; omega
        have hb1 : (M % n != 0).toNat ≤ 1 := by cases (M % n != 0) <;> decide
        omega
    refine Nat.le_trans (Nat.mul_le_mul_right _ hQ) ?_
    have e3 : 2 * (mc * 2 ^ (pc - (p - q - more)).toNat) * 2 ^ (p - q - more - 1 - min (p - q - more - 1) k.format.leastPlace).toNat = mc * 2 ^ (pc - k.format.leastPlace).toNat * 2 ^ (k.format.leastPlace - min (p - q - more - 1) k.format.leastPlace).toNat := by
      rw [Nat.mul_comm 2, Nat.mul_assoc, Nat.mul_assoc, Nat.mul_assoc, ← Nat.pow_succ', ← Nat.pow_add, ← Nat.pow_add]; congr 2; omega
    rw [e3]; exact Nat.le_refl _
theorem quo_nn {k : FloatKind} {x y a d c : Nat} (hx : Nn k x a) (hy : fin k y = true) (hp : sgn k y = false) (hd : rung k d ≤ rung k y) (hd0 : 0 < val k.format (rung k d)) (hc : fin k c = true) (h : val k.format (rung k a) * 2 ^ (-k.format.leastPlace).toNat ≤ val k.format (rung k c) * val k.format (rung k d)) : Nn k (fop .quo k x y) c := by
  obtain ⟨h1, h2⟩ := quo_ab hx.ab hy hd hd0 hc h
  exact ⟨h1, by rw [h2, hx.pos, hp]; rfl⟩

/-! ## Narrowing -/
theorem fcv_near {x : Nat} (hx : fin .f64 x = true) : fcv .f64 .f32 x = FloatKind.f32.format.nearest (sgn .f64 x) (val FloatKind.f64.format (rung .f64 x)) (-1074) := by
  obtain ⟨m, p, h1, h2, h3, _, _⟩ := read_fin hx
  have e : fcv .f64 .f32 x = FloatKind.f32.format.nearest (sgn .f64 x) m p := by unfold fcv; rw [h1]; rfl
  rw [e, ← h3, least64]
  rw [least64] at h2
  exact (nearest_scale' FloatKind.f32.format _ m p _ _ (by omega)).symm
theorem narrow_ab {x c : Nat} (hx : fin .f64 x = true) (hc : fin .f32 c = true) (h : rung .f64 x ≤ rung .f64 (fcv .f32 .f64 c)) : Ab .f32 (fcv .f64 .f32 x) c ∧ sgn .f32 (fcv .f64 .f32 x) = sgn .f64 x := by
  rw [fcv_near hx]
  refine ⟨⟨?_, hc⟩, nearest_sgn _ _ _ _⟩
  have hv := val_le (f := FloatKind.f64.format) h
  rw [(wide_fin hc).2.2] at hv
  refine nearest_le_word _ (-1074) hc (by decide) (by decide) ?_
  rw [show ((-1074 : Int) - -1074).toNat = 0 by decide, Nat.pow_zero, Nat.mul_one, show (FloatKind.f32.format.leastPlace - (-1074)).toNat = wd by decide]
  exact hv
theorem fits_ab {x c : Nat} (hx : fin .f64 x = true) (hc : fin .f32 c = true) (h : rung .f64 x ≤ rung .f64 (fcv .f32 .f64 c)) : fits .f64 .f32 x = true := by
  have hf := (narrow_ab hx hc h).1.fin
  obtain ⟨m, p, h1, h2, h3, _, _⟩ := read_fin hx
  have e : fcv .f64 .f32 x = FloatKind.f32.format.nearest (sgn .f64 x) m p := by unfold fcv; rw [h1]; rfl
  rw [e] at hf
  obtain ⟨m', p', g1, _⟩ := read_fin hf
  unfold Proofs.Ytmioclcipdifpaa.fits
  rw [h1]
  dsimp only [Ieee.Format.write]
  rw [g1]; rfl
theorem ab_of_bd {k : FloatKind} {x b : Nat} {E : Int} (h : Bd k x E) (hb : fin k b = true) (hr : (E + bias k).toNat * k.format.binade ≤ rung k b) : Ab k x b := ⟨Nat.le_trans h.le hr, hb⟩
end Go.Proofs.Ytmioclcipdifpaa
