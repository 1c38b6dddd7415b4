/-
  More bounds: what a result is at least; quotients of a lesser by a greater number; square roots. No walk. No premise.
-/
import Derived.Test.YtmioclcipdifpaaBnd
namespace Go.Proofs.Ytmioclcipdifpaa
open Go

theorem cut_ge (neg : Bool) (mag d fb : Nat) (hm : mag ≠ 0) (h : d + fb ≤ mag.log2) : 2 ^ fb ≤ Ieee.Toward.even.cut neg mag d := by
  have hlog := Nat.log2_self_le hm
  unfold Ieee.Toward.cut
  dsimp only
  rw [Nat.one_shiftLeft, Nat.min_eq_left (by omega)]
  have : 2 ^ fb ≤ mag / 2 ^ d := by
    rw [Nat.le_div_iff_mul_le (Nat.two_pow_pos _), ← Nat.pow_add]
    exact Nat.le_trans (Nat.pow_le_pow_right (by omega) (by omega)) hlog
  omega
/-- What is at least 2 to the power of E is written as at least this (where it is not too great). -/
theorem nearest_lb {k : FloatKind} (neg : Bool) (mag : Nat) (place : Int) {E F : Int} (h0 : 1 ≤ E + bias k) (hm : mag ≠ 0) (h : E ≤ (mag.log2 : Int) + place) (hF : Bd k (k.format.nearest neg mag place) F) : Lb k (k.format.nearest neg mag place) E := by
  refine ⟨hF.fin, h0, ?_⟩
  have hb := binade_pos k
  have hlb := least_bias k
  have hinf := k.format.infRung_lt
  have htop := inf_top k
  have hfin := hF.fin
  unfold fin at hfin
  rw [decide_eq_true_eq] at hfin
  unfold Ieee.Format.nearest at hfin ⊢
  rw [if_neg hm] at hfin ⊢
  dsimp only at hfin ⊢
  rw [show max (place + mag.log2 - k.format.fractionBits) k.format.leastPlace = place + mag.log2 - k.format.fractionBits by omega] at hfin ⊢
  have hkept : k.format.binade ≤ Ieee.Toward.even.cut neg (mag <<< (place - (place + mag.log2 - k.format.fractionBits)).toNat) (place + mag.log2 - k.format.fractionBits - place).toNat := by
    rw [show k.format.binade = 2 ^ k.format.fractionBits from rfl]
    by_cases hp : (mag.log2 : Int) ≤ k.format.fractionBits
    · rw [show (place + (mag.log2 : Int) - k.format.fractionBits - place).toNat = 0 by omega, cut_none, Nat.shiftLeft_eq]
      have hlog := Nat.log2_self_le hm
      have h1 : 2 ^ mag.log2 * 2 ^ (place - (place + mag.log2 - k.format.fractionBits)).toNat ≤ mag * 2 ^ (place - (place + mag.log2 - k.format.fractionBits)).toNat := Nat.mul_le_mul_right _ hlog
      rw [← Nat.pow_add] at h1
      exact Nat.le_trans (Nat.pow_le_pow_right (by omega) (by omega)) h1
    · rw [show (place - (place + (mag.log2 : Int) - k.format.fractionBits)).toNat = 0 by omega, Nat.shiftLeft_zero]
      exact cut_ge neg mag _ _ hm (by omega)
  generalize Ieee.Toward.even.cut neg (mag <<< (place - (place + mag.log2 - k.format.fractionBits)).toNat) (place + mag.log2 - k.format.fractionBits - place).toNat = kept at *
  have hR : (E + bias k).toNat * k.format.binade ≤ (place + mag.log2 - k.format.fractionBits - k.format.leastPlace).toNat * k.format.binade + kept := by
    have hq : (E + bias k).toNat ≤ (place + mag.log2 - k.format.fractionBits - k.format.leastPlace).toNat + 1 := by omega
    have := Nat.mul_le_mul_right k.format.binade hq
    rw [Nat.succ_mul] at this
    omega
  have hmin : min ((place + mag.log2 - k.format.fractionBits - k.format.leastPlace).toNat * k.format.binade + kept) k.format.infRung < k.format.signWeight := by omega
  rw [(word_rung (k := k) neg hmin).1] at hfin ⊢
  omega
theorem nearest_sgn (k : FloatKind) (neg : Bool) (mag : Nat) (place : Int) : sgn k (k.format.nearest neg mag place) = neg := by
  have hinf := k.format.infRung_lt
  unfold Ieee.Format.nearest
  split
  · exact (word_rung (k := k) neg (by omega)).2
  · exact (word_rung (k := k) neg (by omega)).2
/-- One and what has no sign. -/
theorem fop_one_add {k : FloatKind} {o y : Nat} {E : Int} (ho : Bd k o 0) (hol : Lb k o 0) (hos : sgn k o = false) (hy : Bd k y E) (hys : sgn k y = false) (hE : 0 ≤ E) (hf : E + 1 + bias k ≤ top k) :
    Bd k (fop .add k o y) (E + 1) ∧ Lb k (fop .add k o y) 0 ∧ sgn k (fop .add k o y) = false := by
  have hbd := fop_add_bd (ho.mono hE (by omega)) hy hf
  obtain ⟨m, p, h1, hm, h3, h4, h5⟩ := hol.read
  obtain ⟨n, q, g1, _, g3⟩ := hy.read
  have hsum := fop_sum_some h1 g1
  unfold Ieee.Datum.sum at hsum
  dsimp only [Option.map_some] at hsum
  have e := Option.some.inj hsum
  rw [hos, hys] at e
  generalize hbase : min p q = base at e
  have htot : (Ieee.signed false m (p - base).toNat + Ieee.signed false n (q - base).toNat) = ((m * 2 ^ (p - base).toNat + n * 2 ^ (q - base).toNat : Nat) : Int) := by
    unfold Ieee.signed
    rw [Nat.shiftLeft_eq, Nat.shiftLeft_eq]
    simp only [Bool.false_eq_true, if_false]
    omega
  rw [htot] at e
  have hA : 0 < m * 2 ^ (p - base).toNat := Nat.mul_pos (Nat.pos_of_ne_zero hm) (Nat.two_pow_pos _)
  have hmA : 2 ^ (m.log2 + (p - base).toNat) ≤ m * 2 ^ (p - base).toNat := by
    rw [Nat.pow_add]; exact Nat.mul_le_mul_right _ (Nat.log2_self_le hm)
  generalize m * 2 ^ (p - base).toNat = A at *
  generalize n * 2 ^ (q - base).toNat = B at *
  have hne : A + B ≠ 0 := by omega
  rw [if_neg (by omega), Int.natAbs_natCast] at e
  have hw : k.format.write (.number (decide (((A + B : Nat) : Int) < 0)) (A + B) base) = k.format.nearest (decide (((A + B : Nat) : Int) < 0)) (A + B) base := rfl
  rw [hw] at e
  have hd : decide (((A + B : Nat) : Int) < 0) = false := decide_eq_false (by omega)
  rw [hd] at e
  refine ⟨hbd, ?_, ?_⟩
  · rw [← e] at hbd ⊢
    refine nearest_lb _ _ _ (by have := ho.low; omega) hne ?_ hbd
    have := (Nat.le_log2 hne).2 (Nat.le_trans hmA (Nat.le_add_right A B))
    omega
  · rw [← e, nearest_sgn]
/-- A product of a word with itself has no sign. -/
theorem fop_sq {k : FloatKind} {x : Nat} {E : Int} (hx : Bd k x E) : sgn k (fop .mul k x x) = false := by
  obtain ⟨m, p, h1, _, _⟩ := hx.read
  have e : fop .mul k x x = k.format.nearest (sgn k x ^^ sgn k x) (m * m) (p + p) := by
    refine fop_of_some ?_
    unfold floatBits Ieee.Format.mul
    dsimp only
    rw [h1]; rfl
  rw [e, nearest_sgn, Bool.xor_self]
/-- A quotient of a number by one that is not less. -/
theorem fop_quo_le {k : FloatKind} {x y : Nat} (hx : fin k x = true) (hy : fin k y = true) (hn : rung k y ≠ 0) (hle : rung k x ≤ rung k y) : Bd k (fop .quo k x y) 0 := by
  obtain ⟨m, p, a1, a2, a3, _, _⟩ := read_fin hx
  obtain ⟨n, q, b1, b2, b3, _, _⟩ := read_fin hy
  have hlb := least_bias k
  have hv : val k.format (rung k x) ≤ val k.format (rung k y) := by
    rcases Nat.lt_or_eq_of_le hle with hl | hl
    · exact Nat.le_of_lt (val_mono _ hl)
    · rw [hl]; exact Nat.le_refl _
  have hn0 : n ≠ 0 := by
    intro h; subst h
    rw [Nat.zero_mul] at b3
    exact hn (val_inj k.format (by rw [← b3, val_zero]))
  rw [← a3, ← b3] at hv
  have e : fop .quo k x y = k.format.nearest (sgn k x ^^ sgn k y)
      (2 * ((m <<< (k.format.fractionBits + 2 + n.log2 - m.log2)) / n) + ((m <<< (k.format.fractionBits + 2 + n.log2 - m.log2)) % n != 0).toNat) (p - q - (k.format.fractionBits + 2 + n.log2 - m.log2 : Nat) - 1) := by
    refine fop_of_some ?_
    unfold floatBits Ieee.Format.div
    dsimp only
    rw [a1, b1]
    unfold Ieee.Datum.quotient
    dsimp only
    rw [if_neg hn0]
    rfl
  rw [e]
  refine nearest_bd _ _ _ (by cases k <;> decide) (by cases k <;> decide) ?_
  generalize hmore : k.format.fractionBits + 2 + n.log2 - m.log2 = more
  by_cases hm : m = 0
  · left; subst hm; simp
  · right
    have hml := Nat.log2_self_le hm
    have hnl := (Nat.log2_lt (n := n) (k := n.log2 + 1) hn0).1 (Nat.lt_succ_self _)
    have hcmp : m.log2 + (p - k.format.leastPlace).toNat < n.log2 + 1 + (q - k.format.leastPlace).toNat := by
      have h1 : 2 ^ (m.log2 + (p - k.format.leastPlace).toNat) < 2 ^ (n.log2 + 1 + (q - k.format.leastPlace).toNat) := by
        rw [Nat.pow_add, Nat.pow_add 2 (n.log2 + 1)]
        exact Nat.lt_of_le_of_lt (Nat.le_trans (Nat.mul_le_mul_right _ hml) hv) (Nat.mul_lt_mul_of_pos_right hnl (Nat.two_pow_pos _))
      exact (Nat.pow_lt_pow_iff_right (by omega : 1 < 2)).1 h1
    have hfb : 1 ≤ k.format.fractionBits := by cases k <;> decide
    refine ⟨by omega, ?_⟩
    rw [Nat.shiftLeft_eq]
    have ht : m * 2 ^ more ≤ n * 2 ^ (q - p + more).toNat := by
      have d1 : m * 2 ^ more * 2 ^ (p - k.format.leastPlace).toNat ≤ n * 2 ^ (q - p + more).toNat * 2 ^ (p - k.format.leastPlace).toNat := by
        have d2 := Nat.mul_le_mul_right (2 ^ more) hv
        rw [Nat.mul_right_comm, Nat.mul_assoc n, ← Nat.pow_add, show (q - k.format.leastPlace).toNat + more = (q - p + more).toNat + (p - k.format.leastPlace).toNat by omega, Nat.pow_add, ← Nat.mul_assoc n] at d2
        exact d2
      exact Nat.le_of_mul_le_mul_right d1 (Nat.two_pow_pos _)
    have hpow : 2 ^ ((0 : Int) - (p - q - (more : Int) - 1)).toNat = 2 * 2 ^ (q - p + more).toNat := by
      rw [← Nat.pow_succ']; congr 1; omega
    rw [hpow]
    generalize 2 ^ (q - p + more).toNat = T at *
    generalize m * 2 ^ more = M at *
    have hd := Nat.div_add_mod M n
    have hmod := Nat.mod_lt M (Nat.pos_of_ne_zero hn0)
    have hle : M / n ≤ T := by
      have := Nat.div_le_div_right (c := n) ht
      rwa [Nat.mul_div_cancel_left _ (Nat.pos_of_ne_zero hn0)] at this
    by_cases hz : M % n = 0
    · rw [hz]; simp; omega
    · have hlt : M / n < T := by
        rcases Nat.lt_or_eq_of_le hle with h | h
        · exact h
        · rw [h] at hd; omega
      have hb1 : (M % n != 0).toNat ≤ 1 := by cases (M % n != 0) <;> decide
      omega

/-! ## Square roots -/
def fsqrt (c : Nat) : Nat := (FloatKind.f64.format.sqrt c).getD (qn .f64)
theorem rootFrom_le (n : Nat) : ∀ (todo root : Nat), root * root ≤ n → Ieee.Datum.rootFrom n todo root * Ieee.Datum.rootFrom n todo root ≤ n := by
  intro todo
  induction todo with
  | zero => intro root h; exact h
  | succ t ih =>
    intro root h
    unfold Ieee.Datum.rootFrom
    dsimp only
    apply ih
    split
    · assumption
    · exact h
theorem fsqrt_bd {c : Nat} {E : Int} (hc : Bd .f64 c E) (hs : sgn .f64 c = false) (h0 : -100 ≤ E) : Bd .f64 (fsqrt c) ((E + 1) / 2 + 1) ∧ sgn .f64 (fsqrt c) = false := by
  obtain ⟨m, i, h1, _, h3⟩ := hc.read
  have hfit : E + 1023 ≤ 2046 := hc.fit
  by_cases hm : m = 0
  · have e : fsqrt c = FloatKind.f64.format.nearest false 0 i := by
      unfold fsqrt Ieee.Format.sqrt
      rw [h1, hs, hm]; rfl
    rw [e]
    exact ⟨nearest_bd _ _ _ (by show 1 ≤ _ + (1023 : Int); omega) (by show _ + (1023 : Int) ≤ 2046; omega) (.inl rfl), nearest_sgn ..⟩
  · obtain ⟨c1, c2⟩ := h3.resolve_left hm
    obtain ⟨more, whole, stick, hpar, hw, hst, e⟩ : ∃ more whole stick : Nat, (i - more) % 2 = 0 ∧ whole * whole ≤ m * 2 ^ more ∧ stick ≤ 1 ∧ fsqrt c = FloatKind.f64.format.nearest false (2 * whole + stick) ((i - more) / 2 - 1) := by
      have hbn : ∀ b : Bool, b.toNat ≤ 1 := by intro b; cases b <;> decide
      unfold fsqrt Ieee.Format.sqrt
      rw [h1, hs]
      unfold Ieee.Datum.root
      dsimp only
      rw [if_neg hm, if_neg (by decide)]
      refine ⟨_, _, _, ?_, ?_, hbn _, rfl⟩
      · omega
      · rw [← Nat.shiftLeft_eq]; exact rootFrom_le _ _ 0 (Nat.zero_le _)
    rw [e]
    refine ⟨nearest_bd _ _ _ (by show 1 ≤ _ + (1023 : Int); omega) (by show _ + (1023 : Int) ≤ 2046; omega) ?_, nearest_sgn ..⟩
    right
    refine ⟨by omega, ?_⟩
    have hn : m * 2 ^ more ≤ 2 ^ (E - i + more).toNat := by
      have := Nat.mul_le_mul_right (2 ^ more) c2
      rw [← Nat.pow_add] at this
      rw [show (E - i + more).toNat = (E - i).toNat + more by omega]; exact this
    have hwh : whole ≤ 2 ^ ((E - i + more + 1) / 2).toNat := by
      apply Nat.le_of_not_lt
      intro hlt
      have h5 : 2 ^ ((E - i + more + 1) / 2).toNat * 2 ^ ((E - i + more + 1) / 2).toNat < whole * whole := Nat.mul_lt_mul'' hlt hlt
      rw [← Nat.pow_add] at h5
      have h6 : 2 ^ (E - i + more).toNat ≤ 2 ^ (((E - i + more + 1) / 2).toNat + ((E - i + more + 1) / 2).toNat) := Nat.pow_le_pow_right (by omega) (by omega)
      omega
    have h7 : 2 ^ (((E - i + more + 1) / 2).toNat + 2) ≤ 2 ^ ((E + 1) / 2 + 1 - ((i - more) / 2 - 1)).toNat := Nat.pow_le_pow_right (by omega) (by omega)
    have h8 : 2 ^ (((E - i + more + 1) / 2).toNat + 2) = 4 * 2 ^ ((E - i + more + 1) / 2).toNat := by rw [Nat.pow_add]; omega
    have h9 := Nat.two_pow_pos ((E - i + more + 1) / 2).toNat
    omega
theorem root_nan {n : Nat} {d : Ieee.Datum} (h : d.isNaN = true) : d.root n = none := by cases d <;> first | (cases h; done) | rfl
theorem sqrt_nrm (x : Nat) : FloatKind.f64.format.sqrt (nrm .f64 x) = FloatKind.f64.format.sqrt x := by
  by_cases h : isN .f64 x = true
  · have h1 : (FloatKind.f64.format.read x).isNaN = true := h
    have h2 : (FloatKind.f64.format.read (nrm .f64 x)).isNaN = true := by have := isN_nrm .f64 x; rw [h] at this; exact this
    unfold Ieee.Format.sqrt
    rw [root_nan h1, root_nan h2]
  · rw [nrm_not (by simpa using h)]
theorem root_some {n : Nat} {d r : Ieee.Datum} (h : d.root n = some r) : r.isNaN = false := by
  unfold Ieee.Datum.root at h
  split at h
  · cases h
  · split at h <;> cases h; rfl
  · split at h
    · cases h; rfl
    · split at h
      · cases h
      · cases h; rfl
theorem sqrt_some {x r : Nat} (h : FloatKind.f64.format.sqrt x = some r) : isN .f64 r = false ∧ (Lit.float .f64 r).wf = true := by
  refine ⟨?_, wf_of_lt .f64 r (FloatKind.f64.format.sqrt_lt h)⟩
  unfold Ieee.Format.sqrt at h
  cases ho : (FloatKind.f64.format.read x).root (FloatKind.f64.format.fractionBits + 2) with
  | none => rw [ho] at h; cases h
  | some d => rw [ho] at h; cases h; exact write_notNaN _ _ (root_some ho)
theorem sqrt_entry {P : Program} {c x : Nat} (w : World) (hx : Fl .f64 c x) : ∃ r n, (Extern.MathSqrt.sqrt #[.float .f64 x]).run P w = .ok (.float .f64 r) (w.drewN n) ∧ Fl .f64 (fsqrt c) r := by
  have hc : FloatKind.f64.format.sqrt c = FloatKind.f64.format.sqrt x := by rw [← hx.eq, sqrt_nrm]
  have e : (Extern.MathSqrt.sqrt #[.float .f64 x]) = (match FloatKind.f64.format.sqrt x with
    | some r => pure (.float .f64 r)
    | none => do pure (.float .f64 (← choose (.nanBits .f64 x x))) : Sem Value) := rfl
  rw [e]
  unfold fsqrt
  rw [hc]
  cases h : FloatKind.f64.format.sqrt x with
  | some r =>
    have := sqrt_some h
    exact ⟨r, 0, rfl, Fl.not this.1 this.2⟩
  | none =>
    exact ⟨(Question.nanBits .f64 x x).cut (w.tape w.drawn (.nanBits .f64 x x)), 1, by simp [Question.forced, World.drewN], Fl.ofN (answer64 _)⟩
end Go.Proofs.Ytmioclcipdifpaa
