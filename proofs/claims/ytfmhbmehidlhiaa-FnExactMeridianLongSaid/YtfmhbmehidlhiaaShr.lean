/-
  Sharper bounds: a quotient from below, a root from below, a sine of at most 1.125. No walk. No premise beyond those named.
-/
import Derived.Test.YtfmhbmehidlhiaaCos
namespace Go.Proofs.Ytfmhbmehidlhiaa
open Go Go.RowKit
set_option maxRecDepth 100000

theorem quo_lb {k : FloatKind} {x y a d c : Nat} (fx : fin k x = true) (fy : fin k y = true) (hy0 : 0 < val k.format (rung k y)) (ha : rung k a ≤ rung k x) (hd : rung k y ≤ rung k d) (hc : fin k c = true) (h : val k.format (rung k c) * val k.format (rung k d) ≤ val k.format (rung k a) * 2 ^ (-k.format.leastPlace).toNat) : rung k c ≤ rung k (fop .quo k x y) := by
  obtain ⟨m, p, a1, a2, a3, a4, _⟩ := read_fin fx
  obtain ⟨n, q, b1, b2, b3, _, _⟩ := read_fin fy
  obtain ⟨mc, pc, c1, c2, c3, c4, _⟩ := read_fin hc
  have hl := least_neg k
  have hav := val_le (f := k.format) ha
  have hdv := val_le (f := k.format) hd
  have hn0 : n ≠ 0 := by
    intro h; subst h
    rw [Nat.zero_mul] at b3
    omega
  have e : fop .quo k x y = k.format.nearest (sgn k x ^^ sgn k y)
      (2 * ((m <<< (k.format.fractionBits + 2 + n.log2 - m.log2)) / n) + ((m <<< (k.format.fractionBits + 2 + n.log2 - m.log2)) % n != 0).toNat) (p - q - (k.format.fractionBits + 2 + n.log2 - m.log2 : Nat) - 1) := by
    refine fop_of_some ?_
    unfold floatBits Ieee.Format.div
    dsimp only
    rw [a1, b1]
    unfold Ieee.Datum.quotient
    dsimp only
    rw [if_neg hn0]
    rfl
  rw [e]
  have hxy : mc * 2 ^ (pc - k.format.leastPlace).toNat * (n * 2 ^ (q - k.format.leastPlace).toNat) ≤ m * 2 ^ (p - k.format.leastPlace).toNat * 2 ^ (-k.format.leastPlace).toNat := by
    rw [a3, b3, c3]
    exact Nat.le_trans (Nat.mul_le_mul_left _ hdv) (Nat.le_trans h (Nat.mul_le_mul_right _ hav))
  by_cases hm : m = 0
  · subst hm
    have h0 : val k.format (rung k c) = 0 := by
      rw [Nat.zero_mul, Nat.zero_mul, c3, b3] at hxy
      rcases Nat.mul_eq_zero.1 (Nat.le_zero.1 hxy) with h | h
      · exact h
      · omega
    have : rung k c ≤ 0 := by
      apply Nat.le_of_not_lt
      intro hlt
      have := val_mono k.format hlt
      rw [val_zero, h0] at this
      omega
    omega
  have hml := Nat.log2_self_le hm
  have hnl : n < 2 ^ (n.log2 + 1) := Nat.lt_log2_self
  have hbin : 2 * k.format.binade = 2 ^ (k.format.fractionBits + 1) := by rw [Nat.pow_succ, Nat.mul_comm]; rfl
  rw [hbin] at a4 c4
  have hmlog : m.log2 < k.format.fractionBits + 1 := (Nat.log2_lt hm).2 a4
  generalize hmore : k.format.fractionBits + 2 + n.log2 - m.log2 = more
  have hmm : m.log2 + more = k.format.fractionBits + 2 + n.log2 := by omega
  rw [Nat.shiftLeft_eq]
  have hQ : 2 ^ (k.format.fractionBits + 1) ≤ m * 2 ^ more / n := by
    rw [Nat.le_div_iff_mul_le (Nat.pos_of_ne_zero hn0)]
    refine Nat.le_trans (Nat.mul_le_mul_left _ (Nat.le_of_lt hnl)) ?_
    rw [← Nat.pow_add, show k.format.fractionBits + 1 + (n.log2 + 1) = m.log2 + more by omega, Nat.pow_add]
    exact Nat.mul_le_mul_right _ hml
  refine word_le_nearest _ (min (min (p - q - more - 1) pc) k.format.leastPlace) hc (by omega) (by omega) ?_
  rw [← c3]
  generalize hL : min (min (p - q - more - 1) pc) k.format.leastPlace = L
  have e1 : mc * 2 ^ (pc - k.format.leastPlace).toNat * 2 ^ (k.format.leastPlace - L).toNat = mc * 2 ^ (pc - L).toNat := by
    rw [Nat.mul_assoc, ← Nat.pow_add]; congr 2; omega
  rw [e1]
  refine Nat.le_trans (m := 2 * (m * 2 ^ more / n) * 2 ^ (p - q - more - 1 - L).toNat) ?_ (Nat.mul_le_mul_right _ (by omega))
  have e2 : 2 * (m * 2 ^ more / n) * 2 ^ (p - q - more - 1 - L).toNat = (m * 2 ^ more / n) * 2 ^ (p - q - more - L).toNat := by
    rw [Nat.mul_comm 2, Nat.mul_assoc, ← Nat.pow_succ']; congr 2; omega
  rw [e2]
  by_cases hpl : p - q - more ≤ pc
  · have ht : n * (mc * 2 ^ (pc - (p - q - more)).toNat) ≤ m * 2 ^ more := by
      have d1 : n * (mc * 2 ^ (pc - (p - q - more)).toNat) * 2 ^ ((p - k.format.leastPlace).toNat + (-k.format.leastPlace).toNat) ≤ m * 2 ^ more * 2 ^ ((p - k.format.leastPlace).toNat + (-k.format.leastPlace).toNat) := by
        have d2 := Nat.mul_le_mul_right (2 ^ more) hxy
        have e1 : m * 2 ^ more * 2 ^ ((p - k.format.leastPlace).toNat + (-k.format.leastPlace).toNat) = m * 2 ^ (p - k.format.leastPlace).toNat * 2 ^ (-k.format.leastPlace).toNat * 2 ^ more := by
          rw [Nat.pow_add]; simp only [Nat.mul_comm, Nat.mul_left_comm, Nat.mul_assoc]
        have e2 : n * (mc * 2 ^ (pc - (p - q - more)).toNat) * 2 ^ ((p - k.format.leastPlace).toNat + (-k.format.leastPlace).toNat) = mc * 2 ^ (pc - k.format.leastPlace).toNat * (n * 2 ^ (q - k.format.leastPlace).toNat) * 2 ^ more := by
          have : 2 ^ (pc - (p - q - more)).toNat * 2 ^ ((p - k.format.leastPlace).toNat + (-k.format.leastPlace).toNat) = 2 ^ (pc - k.format.leastPlace).toNat * 2 ^ (q - k.format.leastPlace).toNat * 2 ^ more := by
            rw [← Nat.pow_add, ← Nat.pow_add, ← Nat.pow_add]; congr 1; omega
          rw [Nat.mul_assoc, Nat.mul_assoc mc, this]; simp only [Nat.mul_comm, Nat.mul_left_comm, Nat.mul_assoc]
        rw [e1, e2]; exact d2
      exact Nat.le_of_mul_le_mul_right d1 (Nat.two_pow_pos _)
    have hT : mc * 2 ^ (pc - (p - q - more)).toNat ≤ m * 2 ^ more / n := by
      rw [Nat.le_div_iff_mul_le (Nat.pos_of_ne_zero hn0), Nat.mul_comm]; exact ht
    have e3 : mc * 2 ^ (pc - L).toNat = mc * 2 ^ (pc - (p - q - more)).toNat * 2 ^ (p - q - more - L).toNat := by
      rw [Nat.mul_assoc, ← Nat.pow_add]; congr 2; omega
    rw [e3]
    exact Nat.mul_le_mul_right _ hT
  · refine Nat.mul_le_mul (Nat.le_trans (Nat.le_of_lt c4) hQ) (Nat.pow_le_pow_right (by omega) (by omega))
/-- A root of what is at least 4 to the power of -t is at least 2 to the power of -t. -/
theorem fsqrt_lb {c b : Nat} {t : Int} (hs : sgn .f64 c = false) (hl : Lb .f64 c (-(2 * t))) (hb : fin .f64 b = true) (ht : t ≤ 1000) (hv : val FloatKind.f64.format (rung .f64 b) = 2 ^ (1074 - t).toNat) : rung .f64 b ≤ rung .f64 (fsqrt c) := by
  obtain ⟨m, i, h1, hm, h3, h4, h5⟩ := hl.read
  have h5' : -1074 ≤ i := h5
  obtain ⟨more, whole, stick, hpar, hw, e⟩ : ∃ more whole stick : Nat, (i - more) % 2 = 0 ∧ m * 2 ^ more < (whole + 1) * (whole + 1) ∧ fsqrt c = FloatKind.f64.format.nearest false (2 * whole + stick) ((i - more) / 2 - 1) := by
    unfold fsqrt Ieee.Format.sqrt
    rw [h1, hs]
    unfold Ieee.Datum.root
    dsimp only
    rw [if_neg hm, if_neg (by decide)]
    refine ⟨_, _, _, ?_, ?_, rfl⟩
    · omega
    · rw [← Nat.shiftLeft_eq]
      refine rootFrom_gt _ _ 0 ?_
      rw [Nat.zero_add, ← Nat.pow_add]
      refine Nat.lt_of_lt_of_le Nat.lt_log2_self (Nat.pow_le_pow_right (by omega) (by omega))
  rw [e]
  have hw0 : whole ≠ 0 := by
    intro h; subst h
    have : 0 < m * 2 ^ more := Nat.mul_pos (Nat.pos_of_ne_zero hm) (Nat.two_pow_pos _)
    omega
  have hbig : 2 ^ (-((i - more) / 2 + t)).toNat ≤ whole := by
    by_cases he : 0 ≤ (i - more) / 2 + t
    · rw [show (-((i - more) / 2 + t)).toNat = 0 by omega]; omega
    · apply Nat.le_of_not_lt
      intro hlt
      have h6 : (whole + 1) * (whole + 1) ≤ 2 ^ (-((i - more) / 2 + t)).toNat * 2 ^ (-((i - more) / 2 + t)).toNat := Nat.mul_le_mul hlt hlt
      rw [← Nat.pow_add] at h6
      have h7 : 2 ^ (m.log2 + more) ≤ m * 2 ^ more := by rw [Nat.pow_add]; exact Nat.mul_le_mul_right _ (Nat.log2_self_le hm)
      have h8 : 2 ^ ((-((i - more) / 2 + t)).toNat + (-((i - more) / 2 + t)).toNat) ≤ 2 ^ (m.log2 + more) := Nat.pow_le_pow_right (by omega) (by omega)
      omega
  generalize hj : (i - more) / 2 = j at *
  refine word_le_nearest _ (min (j - 1) (-1074)) hb (by omega) (by show _ ≤ (-1074 : Int); omega) ?_
  rw [hv, show FloatKind.f64.format.leastPlace = (-1074 : Int) from least64]
  have h9 : 2 * 2 ^ (-(j + t)).toNat ≤ 2 * whole + stick := by omega
  refine Nat.le_trans ?_ (Nat.mul_le_mul_right _ h9)
  rw [← Nat.pow_add, ← Nat.pow_succ', ← Nat.pow_add]
  exact Nat.pow_le_pow_right (by omega) (by omega)
theorem Nn.sv_ge0 {k : FloatKind} {x b : Nat} (h : Nn k x b) : 0 ≤ sv k x := sv_nn h.pos
/-- the polynomial of a sine between two thresholds -/
theorem sinV_piece {f a b ua tt tq pp : Nat} (ga : rung .f64 a ≤ rung .f64 (sinZ f)) (gb : rung .f64 (sinZ f) ≤ rung .f64 b) (fb : fin .f64 b = true)
    (f1 : fin .f64 ua = true) (k1 : val FloatKind.f64.format (rung .f64 ua) * 2 ^ (-FloatKind.f64.format.leastPlace).toNat ≤ val FloatKind.f64.format (rung .f64 a) * val FloatKind.f64.format (rung .f64 a))
    (k0 : val FloatKind.f64.format (rung .f64 b) * val FloatKind.f64.format (rung .f64 b) ≤ val FloatKind.f64.format (rung .f64 4612811918334230528) * 2 ^ (-FloatKind.f64.format.leastPlace).toNat)
    (f2 : fin .f64 tt = true) (k2 : val FloatKind.f64.format (rung .f64 tt) * 2 ^ (-FloatKind.f64.format.leastPlace).toNat ≤ val FloatKind.f64.format (rung .f64 ua) * val FloatKind.f64.format (rung .f64 4606056518893174784))
    (f3 : fin .f64 tq = true) (k3 : val FloatKind.f64.format (rung .f64 tq) * val FloatKind.f64.format (rung .f64 (den 1)) ≤ val FloatKind.f64.format (rung .f64 tt) * 2 ^ (-FloatKind.f64.format.leastPlace).toNat)
    (f4 : fin .f64 pp = true) (k4 : val FloatKind.f64.format (rung .f64 w1) ≤ val FloatKind.f64.format (rung .f64 pp) + val FloatKind.f64.format (rung .f64 tq))
    (k5 : val FloatKind.f64.format (rung .f64 b) * val FloatKind.f64.format (rung .f64 pp) ≤ val FloatKind.f64.format (rung .f64 4607745368753438720) * 2 ^ (-FloatKind.f64.format.leastPlace).toNat) : Ab .f64 (sinV f) 4607745368753438720 := by
  have hz : Ab .f64 (sinZ f) b := ⟨gb, fb⟩
  have hu : Nn .f64 (fop .mul .f64 (sinZ f) (sinZ f)) 4612811918334230528 := ⟨mul_ab hz hz (by decide +kernel) k0, by rw [mul_sgn hz.fin hz.fin, Bool.xor_self]⟩
  have hu4 : Nn .f64 (fop .mul .f64 (sinZ f) (sinZ f)) 4616189618054758400 := hu.mono (by decide +kernel) (by decide +kernel)
  have hul : rung .f64 ua ≤ rung .f64 (fop .mul .f64 (sinZ f) (sinZ f)) := mul_lb hz.fin hz.fin ga ga f1 k1
  rw [sinV_eq]
  generalize fop .mul .f64 (sinZ f) (sinZ f) = u at *
  have p6 := sinP_nn hu4 6 (by omega)
  have p7 := sinP_nn hu4 7 (by omega)
  have m6 := mul_nn (c := 4612811918334230528) hu p6 (by decide +kernel) (by decide +kernel)
  have d2 : fin .f64 (den 2) = true ∧ sgn .f64 (den 2) = false := by decide +kernel
  have q6 := quo_nn (c := 4593671619917905920) (d := den 2) m6 d2.1 d2.2 (Nat.le_refl _) (by decide +kernel) (by decide +kernel) (by decide +kernel)
  have l7 : rung .f64 4606056518893174784 ≤ rung .f64 (sinP u 7) := by
    have e : sinP u 7 = fop .sub .f64 4607182418800017408 (fop .quo .f64 (fop .mul .f64 u (sinP u 6)) (den 2)) := rfl
    rw [e, fop_sub_near (by decide +kernel) q6.ab.fin]
    have h3 := q6.ab.val
    have h4 := sv_pos q6.pos
    have c1 : ((val FloatKind.f64.format (rung .f64 4606056518893174784) : Nat) : Int) ≤ sv .f64 4607182418800017408 - ((val FloatKind.f64.format (rung .f64 4593671619917905920) : Nat) : Int) := by decide +kernel
    refine near_lb _ (by decide +kernel) (by omega)
  have m7 := mul_nn (c := 4616189618054758400) hu4 p7 (by decide +kernel) (by decide +kernel)
  have ml7 : rung .f64 tt ≤ rung .f64 (fop .mul .f64 u (sinP u 7)) := mul_lb hu.ab.fin p7.ab.fin hul l7 f2 k2
  have d1 : fin .f64 (den 1) = true ∧ sgn .f64 (den 1) = false := by decide +kernel
  have q7 := quo_nn (c := w1) (d := den 1) m7 d1.1 d1.2 (Nat.le_refl _) (by decide +kernel) (by decide +kernel) (by decide +kernel)
  have ql7 : rung .f64 tq ≤ rung .f64 (fop .quo .f64 (fop .mul .f64 u (sinP u 7)) (den 1)) := quo_lb m7.ab.fin d1.1 (by decide +kernel) ml7 (Nat.le_refl _) f3 k3
  have p8 : Ab .f64 (sinP u 8) pp := by
    have e : sinP u 8 = fop .sub .f64 4607182418800017408 (fop .quo .f64 (fop .mul .f64 u (sinP u 7)) (den 1)) := rfl
    refine ⟨?_, f4⟩
    rw [e, fop_sub_near (by decide +kernel) q7.ab.fin]
    have h3 := q7.ab.val
    have h4 := sv_pos q7.pos
    have h5 := val_le (f := FloatKind.f64.format) ql7
    have c1 : sv .f64 4607182418800017408 = ((val FloatKind.f64.format (rung .f64 w1) : Nat) : Int) := by decide +kernel
    refine near_ab _ f4 (by omega)
  exact mul_ab hz p8 (by decide +kernel) k5
theorem sinZ_max {f : Nat} (h : Ab .f64 f w1) (h0 : 0 ≤ sv .f64 f) : rung .f64 (sinZ f) ≤ rung .f64 4609753056924675352 := by
  obtain ⟨h1, h2⟩ := half_np h h0
  exact (mul_ab (b := 4618760256179416344) (c := 4609753056924675352) (fold_ab h1 h2) ⟨Nat.le_refl _, by decide +kernel⟩ (by decide +kernel) (by decide +kernel)).le
theorem sinV_hi {f : Nat} (h : Ab .f64 f w1) (h0 : 0 ≤ sv .f64 f) : Ab .f64 (sinV f) 4607745368753438720 := by
  have hm := sinZ_max h h0
  by_cases g1 : rung .f64 (sinZ f) ≤ rung .f64 4607745368753438720
  · have hz : Ab .f64 (sinZ f) 4607745368753438720 := ⟨g1, by decide +kernel⟩
    have hz2 := sinZ_ab h h0
    have hu : Nn .f64 (fop .mul .f64 (sinZ f) (sinZ f)) 4616189618054758400 := ⟨mul_ab hz2 hz2 (by decide +kernel) (by decide +kernel), by rw [mul_sgn hz.fin hz.fin, Bool.xor_self]⟩
    rw [sinV_eq]
    exact mul_ab hz (sinP_nn hu 8 (by omega)).ab (by decide +kernel) (by decide +kernel)
  · by_cases g2 : rung .f64 (sinZ f) ≤ rung .f64 4608308318706860032
    · exact sinV_piece (a := 4607745368753438720) (b := 4608308318706860032) (ua := 4608378687445337828) (tt := 4607666203906264079) (tq := 4595817866542176363) (pp := 4605519957310554549) (by omega) g2 (by decide +kernel) (by decide +kernel) (by decide +kernel) (by decide +kernel) (by decide +kernel) (by decide +kernel) (by decide +kernel) (by decide +kernel) (by decide +kernel) (by decide +kernel) (by decide +kernel)
    · by_cases g3 : rung .f64 (sinZ f) ≤ rung .f64 4609073930643513016
      · exact sinV_piece (a := 4608308318706860032) (b := 4609073930643513016) (ua := 4609715693583376438) (tt := 4608836084275877982) (tq := 4597377707020956335) (pp := 4605129997186959955) (by omega) g3 (by decide +kernel) (by decide +kernel) (by decide +kernel) (by decide +kernel) (by decide +kernel) (by decide +kernel) (by decide +kernel) (by decide +kernel) (by decide +kernel) (by decide +kernel) (by decide +kernel)
      · exact sinV_piece (a := 4609073930643513016) (b := 4609753056924675352) (ua := 4611722947939791813) (tt := 4610624745159306195) (tq := 4598968903861336553) (pp := 4604533776891887664) (by omega) hm (by decide +kernel) (by decide +kernel) (by decide +kernel) (by decide +kernel) (by decide +kernel) (by decide +kernel) (by decide +kernel) (by decide +kernel) (by decide +kernel) (by decide +kernel) (by decide +kernel)
/-- A sine of a finite number of turns is at most 1.125. -/
theorem sine_hi {c : Nat} (hf : fin .f32 c = true) : Ab .f32 (sineC c) 1066401792 := by
  unfold sineC
  rw [if_pos hf]
  by_cases hm : many (fcv .f32 .f64 c) = true
  · rw [if_pos hm]; exact ⟨by decide +kernel, by decide +kernel⟩
  · rw [if_neg hm]
    have hf' : fin .f64 (fcv .f32 .f64 c) = true := by rw [fin_wide]; exact hf
    obtain ⟨iv, hi⟩ := fint_in hf' (by simpa using hm)
    rw [fint_of hi]
    obtain ⟨h1, h2⟩ := left_np hf' (by simpa using hm) hi
    have hv : Ab .f64 (sinW (left (fcv .f32 .f64 c) iv)) 4607745368753438720 := by
      unfold sinW
      split
      · exact (sinV_hi h1 h2).neg
      · exact sinV_hi h1 h2
    refine (narrow_ab hv.fin (by decide +kernel) ?_).1
    exact Nat.le_trans hv.le (by decide +kernel)
end Go.Proofs.Ytfmhbmehidlhiaa
