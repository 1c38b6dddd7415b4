/-
  How great a result may be: 'Bd k x E': x is finite, and its number is at most 2 to the power of E. Each operation's result is bounded by its operands' bounds (a power of two more is given away for the rounding); what is bounded by 126 is narrowed without an overflow. No premise.
-/
import Derived.Test.YtmioclcipdifpaaFlv
namespace Go.Proofs.Ytmioclcipdifpaa
open Go

def bias : FloatKind → Nat
  | .f32 => 127
  | .f64 => 1023
def top : FloatKind → Nat
  | .f32 => 254
  | .f64 => 2046
/-- x is finite, and its number is at most 2 to the power of E (which is one of the format's normal numbers). -/
structure Bd (k : FloatKind) (x : Nat) (E : Int) : Prop where
  le : rung k x ≤ (E + bias k).toNat * k.format.binade
  low : 1 ≤ E + bias k
  fit : E + bias k ≤ top k

theorem least_bias (k : FloatKind) : k.format.leastPlace + k.format.fractionBits + bias k = 1 := by cases k <;> decide +kernel
theorem inf_top (k : FloatKind) : k.format.infRung = (top k + 1) * k.format.binade := by cases k <;> decide +kernel
theorem binade_pos (k : FloatKind) : 0 < k.format.binade := Nat.two_pow_pos _
theorem Bd.fin {k : FloatKind} {x : Nat} {E : Int} (h : Bd k x E) : fin k x = true := by
  have h1 := h.le
  have h2 : (E + bias k).toNat * k.format.binade ≤ top k * k.format.binade := Nat.mul_le_mul_right k.format.binade (by have := h.fit; omega)
  have h3 := binade_pos k
  have h4 := inf_top k
  rw [Nat.succ_mul] at h4
  unfold Proofs.Ytmioclcipdifpaa.fin
  rw [decide_eq_true (by omega)]
theorem Bd.mono {k : FloatKind} {x : Nat} {E F : Int} (h : Bd k x E) (hE : E ≤ F) (hF : F + bias k ≤ top k) : Bd k x F :=
  ⟨Nat.le_trans h.le (Nat.mul_le_mul_right _ (by omega)), by have := h.low; omega, hF⟩

theorem cut_le (neg : Bool) (mag d fb : Nat) (hm : mag ≠ 0) (h : mag.log2 ≤ fb + d) : Ieee.Toward.even.cut neg mag d ≤ 2 ^ (fb + 1) := by
  have hlog := Nat.log2_lt (n := mag) (k := mag.log2 + 1) hm |>.1 (Nat.lt_succ_self _)
  unfold Ieee.Toward.cut
  dsimp only
  rw [Nat.one_shiftLeft]
  have hlow : mag / 2 ^ min d (mag.log2 + 2) < 2 ^ (fb + 1) := by
    rw [Nat.div_lt_iff_lt_mul (Nat.two_pow_pos _), ← Nat.pow_add]
    exact Nat.lt_of_lt_of_le hlog (Nat.pow_le_pow_right (by omega) (by omega))
  have hb : ∀ b : Bool, b.toNat ≤ 1 := by intro b; cases b <;> decide
  have := hb (decide (2 ^ min d (mag.log2 + 2) < 2 * (mag % 2 ^ min d (mag.log2 + 2))) || 2 ^ min d (mag.log2 + 2) == 2 * (mag % 2 ^ min d (mag.log2 + 2)) && mag / 2 ^ min d (mag.log2 + 2) % 2 == 1)
  omega
/-- What is less than 2 to the power of E + 1 is written as at most this. -/
theorem nearest_le {k : FloatKind} (neg : Bool) (mag : Nat) (place : Int) {E : Int} (h0 : 1 ≤ E + bias k) (hE : E + 1 + bias k ≤ top k) (h : mag = 0 ∨ (mag.log2 : Int) + place ≤ E) : Bd k (k.format.nearest neg mag place) (E + 1) := by
  have hb := binade_pos k
  have hinf := k.format.infRung_lt
  have htop := inf_top k
  refine ⟨?_, by omega, hE⟩
  unfold Ieee.Format.nearest
  by_cases hm : mag = 0
  · rw [if_pos hm, (word_rung (k := k) neg (r := 0) (by omega)).1]; omega
  · have h' := h.resolve_left hm
    rw [if_neg hm]
    dsimp only
    have hlb := least_bias k
    generalize hlast : max (place + mag.log2 - k.format.fractionBits) k.format.leastPlace = last
    have hl1 : place + mag.log2 - k.format.fractionBits ≤ last := by omega
    have hl2 : k.format.leastPlace ≤ last := by omega
    have hl3 : last = place + mag.log2 - k.format.fractionBits ∨ last = k.format.leastPlace := by omega
    have hbin : 2 ^ (k.format.fractionBits + 1) = 2 * k.format.binade := by rw [Nat.pow_succ, Nat.mul_comm]; rfl
    have hkept : Ieee.Toward.even.cut neg (mag <<< (place - last).toNat) (last - place).toNat ≤ 2 * k.format.binade := by
      rw [← hbin]
      by_cases hp : last ≤ place
      · rw [show (last - place).toNat = 0 by omega, cut_none, Nat.shiftLeft_eq]
        have hlog := Nat.log2_lt (n := mag) (k := mag.log2 + 1) hm |>.1 (Nat.lt_succ_self _)
        have h1 : mag * 2 ^ (place - last).toNat < 2 ^ (mag.log2 + 1) * 2 ^ (place - last).toNat := Nat.mul_lt_mul_of_pos_right hlog (Nat.two_pow_pos _)
        rw [← Nat.pow_add] at h1
        have h2 : 2 ^ (mag.log2 + 1 + (place - last).toNat) ≤ 2 ^ (k.format.fractionBits + 1) := Nat.pow_le_pow_right (by omega) (by omega)
        omega
      · rw [show (place - last).toNat = 0 by omega, Nat.shiftLeft_zero]
        exact cut_le neg mag _ _ hm (by omega)
    generalize Ieee.Toward.even.cut neg (mag <<< (place - last).toNat) (last - place).toNat = kept at *
    have hR : (last - k.format.leastPlace).toNat * k.format.binade + kept ≤ (E + 1 + bias k).toNat * k.format.binade := by
      have hq : (last - k.format.leastPlace).toNat + 2 ≤ (E + 1 + bias k).toNat := by omega
      have := Nat.mul_le_mul_right k.format.binade hq
      rw [Nat.add_mul] at this
      omega
    have hT : (E + 1 + bias k).toNat * k.format.binade ≤ top k * k.format.binade := Nat.mul_le_mul_right k.format.binade (by omega)
    rw [Nat.succ_mul] at htop
    have hlt : (last - k.format.leastPlace).toNat * k.format.binade + kept < k.format.signWeight := by omega
    rw [Nat.min_eq_left (by omega), (word_rung (k := k) neg hlt).1]
    exact hR
theorem cut_pow (neg : Bool) (a d : Nat) (h : d ≤ a) : Ieee.Toward.even.cut neg (2 ^ a) d = 2 ^ (a - d) := by
  unfold Ieee.Toward.cut
  dsimp only
  rw [Nat.log2_two_pow, Nat.min_eq_left (by omega), Nat.one_shiftLeft, Nat.pow_div h (by omega), Nat.mod_eq_zero_of_dvd (Nat.pow_dvd_pow 2 h)]
  have := Nat.two_pow_pos d
  simp
/-- What is at most 2 to the power of E is written as at most this. -/
theorem nearest_bd {k : FloatKind} (neg : Bool) (mag : Nat) (place : Int) {E : Int} (h0 : 1 ≤ E + bias k) (hE : E + bias k ≤ top k) (h : mag = 0 ∨ (place ≤ E ∧ mag ≤ 2 ^ (E - place).toNat)) : Bd k (k.format.nearest neg mag place) E := by
  by_cases hm : mag = 0
  · have := binade_pos k
    refine ⟨?_, h0, hE⟩
    unfold Ieee.Format.nearest
    rw [if_pos hm, (word_rung (k := k) neg (r := 0) (Nat.lt_of_le_of_lt (Nat.zero_le _) k.format.infRung_lt)).1]; omega
  · obtain ⟨hp, hle⟩ := h.resolve_left hm
    have hlb := least_bias k
    by_cases hlt : mag < 2 ^ (E - place).toNat
    · by_cases h1 : 1 ≤ (E - 1) + bias k
      · have := nearest_le (k := k) neg mag place (E := E - 1) h1 (by omega) (.inr (by have := (Nat.log2_lt hm).2 hlt; omega))
        rw [show E - 1 + 1 = E by omega] at this
        exact this
      · -- the least normal number
        have hb := binade_pos k
        have hinf := k.format.infRung_lt
        have htop := inf_top k
        have htp : 1 ≤ top k := by cases k <;> decide
        have hlog := (Nat.log2_lt hm).2 hlt
        refine ⟨?_, h0, hE⟩
        rw [show (E + bias k).toNat = 1 by omega, Nat.one_mul]
        unfold Ieee.Format.nearest
        rw [if_neg hm]
        dsimp only
        rw [show max (place + mag.log2 - k.format.fractionBits) k.format.leastPlace = k.format.leastPlace by omega]
        have hkept : Ieee.Toward.even.cut neg (mag <<< (place - k.format.leastPlace).toNat) (k.format.leastPlace - place).toNat ≤ k.format.binade := by
          rw [show k.format.binade = 2 ^ k.format.fractionBits from rfl]
          by_cases hpl : k.format.leastPlace ≤ place
          · rw [show (k.format.leastPlace - place).toNat = 0 by omega, cut_none, Nat.shiftLeft_eq]
            have h2 : mag * 2 ^ (place - k.format.leastPlace).toNat ≤ 2 ^ (E - place).toNat * 2 ^ (place - k.format.leastPlace).toNat := Nat.mul_le_mul_right _ hle
            rw [← Nat.pow_add] at h2
            exact Nat.le_trans h2 (Nat.pow_le_pow_right (by omega) (by omega))
          · rw [show (place - k.format.leastPlace).toNat = 0 by omega, Nat.shiftLeft_zero]
            have hfb : 1 ≤ k.format.fractionBits := by cases k <;> decide
            have := cut_le neg mag (k.format.leastPlace - place).toNat (k.format.fractionBits - 1) hm (by omega)
            rw [show k.format.fractionBits - 1 + 1 = k.format.fractionBits by omega] at this
            exact this
        generalize Ieee.Toward.even.cut neg (mag <<< (place - k.format.leastPlace).toNat) (k.format.leastPlace - place).toNat = kept at *
        rw [show (k.format.leastPlace - k.format.leastPlace).toNat = 0 by omega, Nat.zero_mul, Nat.zero_add]
        rw [Nat.succ_mul] at htop
        have : k.format.binade ≤ top k * k.format.binade := Nat.le_mul_of_pos_left _ (by omega)
        have hl2 : kept < k.format.signWeight := by omega
        rw [Nat.min_eq_left (by omega), (word_rung (k := k) neg hl2).1]
        exact hkept
    · have he : mag = 2 ^ (E - place).toNat := by omega
      have hb := binade_pos k
      have hinf := k.format.infRung_lt
      have htop := inf_top k
      refine ⟨?_, h0, hE⟩
      unfold Ieee.Format.nearest
      rw [if_neg hm]
      dsimp only
      rw [he, Nat.log2_two_pow, show max (place + ((E - place).toNat : Int) - k.format.fractionBits) k.format.leastPlace = E - k.format.fractionBits by omega]
      have hkept : Ieee.Toward.even.cut neg (2 ^ (E - place).toNat <<< (place - (E - k.format.fractionBits)).toNat) (E - k.format.fractionBits - place).toNat = k.format.binade := by
        rw [show k.format.binade = 2 ^ k.format.fractionBits from rfl]
        by_cases hpl : E - k.format.fractionBits ≤ place
        · rw [show (E - k.format.fractionBits - place).toNat = 0 by omega, cut_none, Nat.shiftLeft_eq, ← Nat.pow_add]; congr 1; omega
        · rw [show (place - (E - k.format.fractionBits)).toNat = 0 by omega, Nat.shiftLeft_zero, cut_pow neg _ _ (by omega)]; congr 1; omega
      rw [hkept]
      have hq : (E - k.format.fractionBits - k.format.leastPlace).toNat * k.format.binade + k.format.binade = (E + bias k).toNat * k.format.binade := by
        rw [← Nat.succ_mul]; congr 1; omega
      rw [hq]
      have hT : (E + bias k).toNat * k.format.binade ≤ top k * k.format.binade := Nat.mul_le_mul_right k.format.binade (by omega)
      rw [Nat.succ_mul] at htop
      have hl2 : (E + bias k).toNat * k.format.binade < k.format.signWeight := by omega
      rw [Nat.min_eq_left (by omega), (word_rung (k := k) neg hl2).1]
      omega

/-- A bounded word as a number. -/
theorem Bd.read {k : FloatKind} {x : Nat} {E : Int} (h : Bd k x E) : ∃ m p, k.format.read x = .number (sgn k x) m p ∧ k.format.leastPlace ≤ p ∧ (m = 0 ∨ (p ≤ E ∧ m ≤ 2 ^ (E - p).toNat)) := by
  obtain ⟨m, p, h1, h2, h3, _, _⟩ := read_fin h.fin
  refine ⟨m, p, h1, h2, ?_⟩
  by_cases hm : m = 0
  · exact .inl hm
  · right
    have hb := binade_pos k
    have hlb := least_bias k
    have hle := h.le
    have hlo := h.low
    have hv : val k.format (rung k x) ≤ val k.format ((E + bias k).toNat * k.format.binade) := by
      rcases Nat.lt_or_eq_of_le hle with hl | hl
      · exact Nat.le_of_lt (val_mono _ hl)
      · rw [hl]; exact Nat.le_refl _
    have hval : val k.format ((E + bias k).toNat * k.format.binade) = k.format.binade * 2 ^ ((E + bias k).toNat - 1) := by
      have := val_rung k.format ((E + bias k).toNat - 1) k.format.binade (.inr (Nat.le_refl _)) (by omega)
      rw [show (E + bias k).toNat * k.format.binade = ((E + bias k).toNat - 1) * k.format.binade + k.format.binade by
        rw [← Nat.succ_mul]; congr 1; omega]
      exact this
    rw [hval, ← h3, show k.format.binade = 2 ^ k.format.fractionBits from rfl, ← Nat.pow_add] at hv
    have hpE : p ≤ E := by
      have h6 : 2 ^ (p - k.format.leastPlace).toNat ≤ 2 ^ (k.format.fractionBits + ((E + bias k).toNat - 1)) :=
        Nat.le_trans (Nat.le_mul_of_pos_left _ (by omega)) hv
      have h7 := (Nat.pow_le_pow_iff_right (by omega : 1 < 2)).1 h6
      omega
    refine ⟨hpE, ?_⟩
    have h8 : k.format.fractionBits + ((E + bias k).toNat - 1) = (E - p).toNat + (p - k.format.leastPlace).toNat := by omega
    rw [h8, Nat.pow_add] at hv
    exact Nat.le_of_mul_le_mul_right hv (Nat.two_pow_pos _)

theorem fop_mul_bd {k : FloatKind} {x y : Nat} {a b : Int} (hx : Bd k x a) (hy : Bd k y b) (h0 : 1 ≤ a + b + bias k) (hf : a + b + bias k ≤ top k) : Bd k (fop .mul k x y) (a + b) := by
  obtain ⟨m, p, h1, _, h3⟩ := hx.read
  obtain ⟨n, q, g1, _, g3⟩ := hy.read
  have e : fop .mul k x y = k.format.nearest (sgn k x ^^ sgn k y) (m * n) (p + q) := by
    refine fop_of_some ?_
    unfold floatBits Ieee.Format.mul
    dsimp only
    rw [h1, g1]; rfl
  rw [e]
  refine nearest_bd _ _ _ h0 hf ?_
  by_cases hm : m = 0
  · left; rw [hm, Nat.zero_mul]
  · by_cases hn : n = 0
    · left; rw [hn, Nat.mul_zero]
    · right
      obtain ⟨c1, c2⟩ := h3.resolve_left hm
      obtain ⟨d1, d2⟩ := g3.resolve_left hn
      refine ⟨by omega, ?_⟩
      have := Nat.mul_le_mul c2 d2
      rw [← Nat.pow_add] at this
      rw [show (a + b - (p + q)).toNat = (a - p).toNat + (b - q).toNat by omega]
      exact this
theorem signed_le {s t : Bool} {m n i j c : Nat} (hm : m * 2 ^ i ≤ 2 ^ c) (hn : n * 2 ^ j ≤ 2 ^ c) : (Ieee.signed s m i + Ieee.signed t n j).natAbs ≤ 2 ^ (c + 1) := by
  have e : 2 ^ (c + 1) = 2 * 2 ^ c := by rw [Nat.pow_succ, Nat.mul_comm]
  unfold Ieee.signed
  rw [Nat.shiftLeft_eq, Nat.shiftLeft_eq, e]
  cases s <;> cases t <;> simp only [Bool.false_eq_true, if_false, if_true] <;> omega
theorem sum_bd {k : FloatKind} {s t : Bool} {m n : Nat} {p q E : Int} {r : Nat} (hm : m = 0 ∨ (p ≤ E ∧ m ≤ 2 ^ (E - p).toNat)) (hn : n = 0 ∨ (q ≤ E ∧ n ≤ 2 ^ (E - q).toNat)) (h0 : 1 ≤ E + 1 + bias k) (hf : E + 1 + bias k ≤ top k)
    (h : ((Ieee.Datum.number s m p).sum (.number t n q)).map k.format.write = some r) : Bd k r (E + 1) := by
  unfold Ieee.Datum.sum at h
  dsimp only [Option.map_some] at h
  have h' := Option.some.inj h
  rw [← h']
  refine nearest_bd _ _ _ h0 hf ?_
  generalize hbase : min p q = base
  have hb1 : base ≤ p := by omega
  have hb2 : base ≤ q := by omega
  have hb3 : base = p ∨ base = q := by omega
  by_cases hbe : base ≤ E
  · right
    refine ⟨by omega, ?_⟩
    have key : ∀ {m : Nat} {p : Int}, base ≤ p → (m = 0 ∨ (p ≤ E ∧ m ≤ 2 ^ (E - p).toNat)) → m * 2 ^ (p - base).toNat ≤ 2 ^ (E - base).toNat := by
      intro m p hp h
      rcases h with h | ⟨h1, h2⟩
      · rw [h, Nat.zero_mul]; exact Nat.zero_le _
      · have := Nat.mul_le_mul_right (2 ^ (p - base).toNat) h2
        rw [← Nat.pow_add] at this
        rw [show (E - base).toNat = (E - p).toNat + (p - base).toNat by omega]; exact this
    have := signed_le (s := s) (t := t) (key hb1 hm) (key hb2 hn)
    rw [show (E + 1 - base).toNat = (E - base).toNat + 1 by omega]; exact this
  · left
    have hm0 : m = 0 := hm.elim id fun h => by omega
    have hn0 : n = 0 := hn.elim id fun h => by omega
    subst hm0; subst hn0
    unfold Ieee.signed; simp
theorem fop_sum_some {k : FloatKind} {x y : Nat} {s t : Bool} {m n : Nat} {p q : Int} (hx : k.format.read x = .number s m p) (hy : k.format.read y = .number t n q) :
    ((Ieee.Datum.number s m p).sum (.number t n q)).map k.format.write = some (fop .add k x y) := by
  have : floatBits .add k x y = ((Ieee.Datum.number s m p).sum (.number t n q)).map k.format.write := by
    unfold floatBits Ieee.Format.add; dsimp only; rw [hx, hy]
  unfold fop; rw [this]; rfl
theorem fop_dif_some {k : FloatKind} {x y : Nat} {s t : Bool} {m n : Nat} {p q : Int} (hx : k.format.read x = .number s m p) (hy : k.format.read y = .number t n q) :
    ((Ieee.Datum.number s m p).sum (.number (!t) n q)).map k.format.write = some (fop .sub k x y) := by
  have : floatBits .sub k x y = ((Ieee.Datum.number s m p).sum (.number (!t) n q)).map k.format.write := by
    unfold floatBits Ieee.Format.sub; dsimp only; rw [hx, hy]; rfl
  unfold fop; rw [this]; rfl
theorem fop_add_bd {k : FloatKind} {x y : Nat} {E : Int} (hx : Bd k x E) (hy : Bd k y E) (hf : E + 1 + bias k ≤ top k) : Bd k (fop .add k x y) (E + 1) := by
  obtain ⟨m, p, h1, _, h3⟩ := hx.read
  obtain ⟨n, q, g1, _, g3⟩ := hy.read
  exact sum_bd h3 g3 (by have := hx.low; omega) hf (fop_sum_some h1 g1)
theorem fop_sub_bd {k : FloatKind} {x y : Nat} {E : Int} (hx : Bd k x E) (hy : Bd k y E) (hf : E + 1 + bias k ≤ top k) : Bd k (fop .sub k x y) (E + 1) := by
  obtain ⟨m, p, h1, _, h3⟩ := hx.read
  obtain ⟨n, q, g1, _, g3⟩ := hy.read
  exact sum_bd h3 g3 (by have := hx.low; omega) hf (fop_dif_some h1 g1)
/-- What is bounded by 127 is narrowed without an overflow. -/
theorem Bd.fits {x : Nat} {E : Int} (h : Bd .f64 x E) (h0 : -126 ≤ E) (hE : E ≤ 127) : fits .f64 .f32 x = true ∧ Bd .f32 (fcv .f64 .f32 x) E := by
  obtain ⟨m, p, h1, _, h3⟩ := h.read
  have hb : Bd .f32 (FloatKind.f32.format.nearest (sgn .f64 x) m p) E := nearest_bd _ _ _ (by show 1 ≤ E + 127; omega) (by show E + 127 ≤ 254; omega) h3
  have e : fcv .f64 .f32 x = FloatKind.f32.format.nearest (sgn .f64 x) m p := by unfold fcv; rw [h1]; rfl
  refine ⟨?_, by rw [e]; exact hb⟩
  obtain ⟨m', p', g1, _⟩ := hb.read
  unfold Proofs.Ytmioclcipdifpaa.fits
  rw [h1]
  dsimp only [Ieee.Format.write]
  rw [g1]; rfl

/-! ## Division by what is not small -/
/-- y is finite, and its number is at least 2 to the power of b. -/
structure Lb (k : FloatKind) (y : Nat) (b : Int) : Prop where
  fin : fin k y = true
  low : 1 ≤ b + bias k
  le : (b + bias k).toNat * k.format.binade ≤ rung k y
theorem Lb.read {k : FloatKind} {y : Nat} {b : Int} (h : Lb k y b) : ∃ n q, k.format.read y = .number (sgn k y) n q ∧ n ≠ 0 ∧ b ≤ n.log2 + q ∧ 2 ^ (b - k.format.leastPlace).toNat ≤ n * 2 ^ (q - k.format.leastPlace).toNat ∧ k.format.leastPlace ≤ q := by
  obtain ⟨n, q, b1, b2, b3, _, _⟩ := read_fin h.fin
  have hb := binade_pos k
  have hlb := least_bias k
  have hlo := h.low
  have hval : val k.format ((b + bias k).toNat * k.format.binade) = k.format.binade * 2 ^ ((b + bias k).toNat - 1) := by
    have := val_rung k.format ((b + bias k).toNat - 1) k.format.binade (.inr (Nat.le_refl _)) (by omega)
    rw [show (b + bias k).toNat * k.format.binade = ((b + bias k).toNat - 1) * k.format.binade + k.format.binade by rw [← Nat.succ_mul]; congr 1; omega]
    exact this
  have hv : val k.format ((b + bias k).toNat * k.format.binade) ≤ val k.format (rung k y) := by
    rcases Nat.lt_or_eq_of_le h.le with hl | hl
    · exact Nat.le_of_lt (val_mono _ hl)
    · rw [hl]; exact Nat.le_refl _
  rw [hval, ← b3, show k.format.binade = 2 ^ k.format.fractionBits from rfl, ← Nat.pow_add, show k.format.fractionBits + ((b + bias k).toNat - 1) = (b - k.format.leastPlace).toNat by omega] at hv
  have hn : n ≠ 0 := by
    intro h0; subst h0
    have := Nat.two_pow_pos (b - k.format.leastPlace).toNat
    omega
  have hlog := (Nat.log2_lt (n := n) (k := n.log2 + 1) hn).1 (Nat.lt_succ_self _)
  have h2 : 2 ^ (b - k.format.leastPlace).toNat < 2 ^ (n.log2 + 1 + (q - k.format.leastPlace).toNat) := by
    rw [Nat.pow_add 2 (n.log2 + 1)]
    exact Nat.lt_of_le_of_lt hv (Nat.mul_lt_mul_of_pos_right hlog (Nat.two_pow_pos _))
  have h3 := (Nat.pow_lt_pow_iff_right (by omega : 1 < 2)).1 h2
  exact ⟨n, q, b1, hn, by omega, hv, b2⟩
theorem fop_quo_bd {k : FloatKind} {x y : Nat} {a b : Int} (hx : Bd k x a) (hy : Lb k y b) (h0 : 1 ≤ a - b + bias k) (hf : a - b + bias k ≤ top k) : Bd k (fop .quo k x y) (a - b) := by
  obtain ⟨m, p, a1, a2, a3⟩ := hx.read
  obtain ⟨n, q, b1, hn, b2, b3, b4⟩ := hy.read
  have hlb := least_bias k
  have hlo := hy.low
  have e : fop .quo k x y = k.format.nearest (sgn k x ^^ sgn k y)
      (2 * ((m <<< (k.format.fractionBits + 2 + n.log2 - m.log2)) / n) + ((m <<< (k.format.fractionBits + 2 + n.log2 - m.log2)) % n != 0).toNat) (p - q - (k.format.fractionBits + 2 + n.log2 - m.log2 : Nat) - 1) := by
    refine fop_of_some ?_
    unfold floatBits Ieee.Format.div
    dsimp only
    rw [a1, b1]
    unfold Ieee.Datum.quotient
    dsimp only
    rw [if_neg hn]
    rfl
  rw [e]
  refine nearest_bd _ _ _ h0 hf ?_
  generalize hmore : k.format.fractionBits + 2 + n.log2 - m.log2 = more
  by_cases hm : m = 0
  · left; subst hm; simp
  · right
    obtain ⟨c1, c2⟩ := a3.resolve_left hm
    have hml : m.log2 ≤ (a - p).toNat := by
      have h1 := Nat.log2_self_le hm
      exact (Nat.pow_le_pow_iff_right (by omega : 1 < 2)).1 (Nat.le_trans h1 c2)
    refine ⟨by omega, ?_⟩
    rw [Nat.shiftLeft_eq]
    have ht : m * 2 ^ more ≤ n * 2 ^ (a - p + more - b + q).toNat := by
      have d1 : m * 2 ^ more * 2 ^ (b - k.format.leastPlace).toNat ≤ 2 ^ (a - p).toNat * 2 ^ more * (n * 2 ^ (q - k.format.leastPlace).toNat) :=
        Nat.mul_le_mul (Nat.mul_le_mul_right _ c2) b3
      have d2 : 2 ^ (a - p).toNat * 2 ^ more * (n * 2 ^ (q - k.format.leastPlace).toNat) = n * 2 ^ (a - p + more - b + q).toNat * 2 ^ (b - k.format.leastPlace).toNat := by
        rw [← Nat.pow_add, Nat.mul_left_comm, ← Nat.pow_add, Nat.mul_assoc, ← Nat.pow_add]; congr 2; omega
      rw [d2] at d1
      exact Nat.le_of_mul_le_mul_right d1 (Nat.two_pow_pos _)
    have hpow : 2 ^ (a - b - (p - q - (more : Int) - 1)).toNat = 2 * 2 ^ (a - p + more - b + q).toNat := by
      rw [← Nat.pow_succ']; congr 1; omega
    rw [hpow]
    generalize 2 ^ (a - p + more - b + q).toNat = T at *
    generalize m * 2 ^ more = M at *
    have hd := Nat.div_add_mod M n
    have hmod := Nat.mod_lt M (Nat.pos_of_ne_zero hn)
    have hle : M / n ≤ T := by
      have := Nat.div_le_div_right (c := n) ht
      rwa [Nat.mul_div_cancel_left _ (Nat.pos_of_ne_zero hn)] at this
    by_cases hz : M % n = 0
    · rw [hz]; simp; omega
    · have hlt : M / n < T := by
        rcases Nat.lt_or_eq_of_le hle with h | h
        · exact h
        · rw [h] at hd; omega
      have hb1 : (M % n != 0).toNat ≤ 1 := by cases (M % n != 0) <;> decide
      omega
end Go.Proofs.Ytmioclcipdifpaa
