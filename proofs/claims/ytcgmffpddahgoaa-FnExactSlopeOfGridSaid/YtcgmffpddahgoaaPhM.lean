/-
  A quarter less, exactly: for words from 1/4 to 2. No condition.
-/
import Derived.Test.YtcgmffpddahgoaaLogN
namespace Go.Proofs.Ytcgmffpddahgoaa
open Go Go.RowKit

theorem quarter_read : FloatKind.f64.format.read 4598175219545276416 = .number false 4503599627370496 (-54) := by decide +kernel
theorem quarter_at {f d : Nat} (hd : d ≤ 3) (h1 : (1021 + d) * 4503599627370496 ≤ f) (h2 : f < (1022 + d) * 4503599627370496) :
    fop .sub .f64 f 4598175219545276416 = FloatKind.f64.format.nearest false (4503599627370496 + f % 4503599627370496 - 2 ^ (52 - d)) (-54 + (d : Int)) := by
  have hr := read_normal (x := f) (by omega) (by omega)
  have hq : f / 4503599627370496 = 1021 + d := by omega
  rw [hq] at hr
  have h := fop_dif_some hr quarter_read
  unfold Ieee.Datum.sum at h
  dsimp only [Option.map_some] at h
  have h' := Option.some.inj h
  rw [← h']
  rw [show (1021 + d - 1 : Nat) = 1020 + d by omega]
  have hm : f % 4503599627370496 < 4503599627370496 := Nat.mod_lt _ (by decide)
  generalize f % 4503599627370496 = m at hm ⊢
  clear h h' hr hq h1 h2
  have hmin : min (-1074 + ((1020 + d : Nat) : Int)) (-54) = -54 := by omega
  have e1 : (-1074 + ((1020 + d : Nat) : Int) - -54).toNat = d := by omega
  have hs : Ieee.signed false (4503599627370496 + m) d + Ieee.signed (!false) 4503599627370496 0 = (((4503599627370496 + m - 2 ^ (52 - d)) * 2 ^ d : Nat) : Int) := by
    unfold Ieee.signed
    simp only [Bool.not_false, if_true, Bool.false_eq_true, if_false, Nat.shiftLeft_eq]
    rcases (by omega : d = 0 ∨ d = 1 ∨ d = 2 ∨ d = 3) with rfl | rfl | rfl | rfl <;> simp only [Nat.reduceSub, Nat.reducePow] <;> omega
  rw [hmin, e1, show ((-54 : Int) - -54).toNat = 0 from rfl, hs]
  generalize hN : (4503599627370496 + m - 2 ^ (52 - d)) * 2 ^ d = N
  have hsg : (if (N : Int) = 0 then (false && !false) else decide ((N : Int) < 0)) = false := by
    split
    · rfl
    · exact decide_eq_false (by omega)
  rw [hsg, Int.natAbs_natCast, ← hN]
  exact nearest_scale' _ _ _ _ _ _ (by omega)
theorem near_val {M : Nat} (hM : M.log2 ≤ 52) {p : Int} (h1 : -1074 ≤ p) (h2 : p ≤ 0) : fin .f64 (FloatKind.f64.format.nearest false M p) = true ∧ sgn .f64 (FloatKind.f64.format.nearest false M p) = false ∧ val FloatKind.f64.format (rung .f64 (FloatKind.f64.format.nearest false M p)) = M * 2 ^ (p - FloatKind.f64.format.leastPlace).toNat := by
  refine nearest_val (k := .f64) false M p (by rw [frac64]; exact hM) (by rw [least64]; exact h1) ?_
  rw [least64, frac64, bi64, in64]
  generalize M.log2 = L at hM
  omega
def ten20 : Nat := 1020
theorem quarter_sv : sv .f64 4598175219545276416 = ((4503599627370496 * 2 ^ ten20 : Nat) : Int) := by decide +kernel
theorem quarter_val {f : Nat} (h1 : 4598175219545276416 ≤ f) (h2 : f ≤ 4611686018427387904) :
    fin .f64 (fop .sub .f64 f 4598175219545276416) = true ∧ sgn .f64 (fop .sub .f64 f 4598175219545276416) = false ∧
    sv .f64 (fop .sub .f64 f 4598175219545276416) = sv .f64 f - sv .f64 4598175219545276416 := by
  obtain ⟨d, hd, a1, a2⟩ : ∃ d, d ≤ 3 ∧ (1021 + d) * 4503599627370496 ≤ f ∧ f < (1022 + d) * 4503599627370496 := ⟨f / 4503599627370496 - 1021, by omega, by omega, by omega⟩
  rw [quarter_at hd a1 a2]
  have hq : f / 4503599627370496 = 1021 + d := by omega
  have hm : f % 4503599627370496 < 4503599627370496 := Nat.mod_lt _ (by decide)
  have hp : 2 ^ (52 - d) ≤ 4503599627370496 := by
    rw [show (4503599627370496 : Nat) = 2 ^ 52 by decide]; exact Nat.pow_le_pow_right (by decide) (by omega)
  have hpd : 2 ^ (52 - d) * 2 ^ d = 4503599627370496 := by
    rw [← Nat.pow_add, show 52 - d + d = 52 by omega]
  have hvf : sv .f64 f = (((4503599627370496 + f % 4503599627370496) * 2 ^ (ten20 + d) : Nat) : Int) := by
    have hs : sgn .f64 f = false := by unfold sgn; rw [sw64, Nat.div_eq_of_lt (by omega)]; rfl
    have hr : rung .f64 f = f := by unfold rung; rw [sw64, Nat.mod_eq_of_lt (by omega)]
    rw [sv_pos hs, hr]
    unfold val
    rw [bi64, if_neg (by omega), hq]
    rw [show 1021 + d - 1 = ten20 + d by unfold ten20; omega]
  rw [quarter_sv, hvf]
  generalize f % 4503599627370496 = m at hm ⊢
  generalize hP : 2 ^ (52 - d) = b at hp hpd ⊢
  have hlog : (4503599627370496 + m - b).log2 ≤ 52 := by
    by_cases h0 : 4503599627370496 + m - b = 0
    · rw [h0]; decide
    · have : (4503599627370496 + m - b).log2 < 53 := (Nat.log2_lt h0).2 (by omega)
      omega
  obtain ⟨b1, b2, b3⟩ := near_val hlog (p := -54 + (d : Int)) (by omega) (by omega)
  refine ⟨b1, b2, ?_⟩
  rw [sv_pos b2, b3, least64, show (-54 + (d : Int) - -1074).toNat = ten20 + d by unfold ten20; omega]
  rw [Nat.sub_mul, Nat.pow_add, ← Nat.mul_assoc, ← Nat.mul_assoc, Nat.mul_right_comm b, hpd]
  have h0 : 4503599627370496 * 2 ^ ten20 ≤ (4503599627370496 + m) * 2 ^ ten20 * 2 ^ d := by
    refine Nat.le_trans ?_ (Nat.le_mul_of_pos_right _ (Nat.two_pow_pos d))
    exact Nat.mul_le_mul_right _ (by omega)
  omega
/-- What the rounds of the quarters keep. -/
structure InQ (f : Nat) : Prop where
  bd : Bd .f64 f 1
  lt : f < 18446744073709551616
theorem InQ.word {f : Nat} (h : InQ f) (hg : fcmp .geq .f64 f 4598175219545276416 = true) : 4598175219545276416 ≤ f ∧ f ≤ 4611686018427387904 := by
  have hq : fin .f64 4598175219545276416 = true := by decide +kernel
  obtain ⟨a1, a2, a3, a4, a5, a6⟩ := fcmp_fin h.bd.fin hq
  have hle : rung .f64 f ≤ 4611686018427387904 := h.bd.le
  have hq0 : 0 < sv .f64 4598175219545276416 := by decide +kernel
  have hge : sv .f64 4598175219545276416 ≤ sv .f64 f := by
    first
      | (rw [a6] at hg; exact of_decide_eq_true hg)
      | (rw [a4] at hg; exact of_decide_eq_true hg)
      | (rw [a1] at hg; exact of_decide_eq_true hg)
      | (rw [a2] at hg; exact of_decide_eq_true hg)
      | (rw [a3] at hg; exact of_decide_eq_true hg)
      | (rw [a5] at hg; exact of_decide_eq_true hg)
  have hs : sgn .f64 f = false := by
    cases hs : sgn .f64 f
    · rfl
    · unfold sv at hge hq0; rw [if_pos hs] at hge; omega
  have hr : rung .f64 f = f := by
    have hd := sgn_div64 h.lt
    rw [hs] at hd
    unfold rung; rw [sw64]
    have : f / 9223372036854775808 = 0 := hd
    omega
  refine ⟨?_, by omega⟩
  have hqs : sgn .f64 4598175219545276416 = false := by decide +kernel
  have hqr : rung .f64 4598175219545276416 = 4598175219545276416 := by decide +kernel
  rw [sv_pos hs, sv_pos hqs, hr, hqr] at hge
  rcases Nat.lt_or_ge f 4598175219545276416 with hl | hl
  · have := val_mono FloatKind.f64.format hl; omega
  · exact hl
theorem InQ.step {f : Nat} (h : InQ f) (hg : fcmp .geq .f64 f 4598175219545276416 = true) : InQ (fop .sub .f64 f 4598175219545276416) ∧ fop .sub .f64 f 4598175219545276416 < f := by
  obtain ⟨h1, h2⟩ := h.word hg
  obtain ⟨b1, b2, b3⟩ := quarter_val h1 h2
  have hlt : fop .sub .f64 f 4598175219545276416 < 18446744073709551616 := by
    obtain ⟨d, hd, a1, a2⟩ : ∃ d, d ≤ 3 ∧ (1021 + d) * 4503599627370496 ≤ f ∧ f < (1022 + d) * 4503599627370496 := ⟨f / 4503599627370496 - 1021, by omega, by omega, by omega⟩
    rw [quarter_at hd a1 a2]
    have : (Lit.float .f64 (FloatKind.f64.format.nearest false (4503599627370496 + f % 4503599627370496 - 2 ^ (52 - d)) (-54 + (d : Int)))).wf = true := wf_write .f64 (.number false (4503599627370496 + f % 4503599627370496 - 2 ^ (52 - d)) (-54 + (d : Int)))
    simpa [Lit.wf] using this
  generalize fop .sub .f64 f 4598175219545276416 = g at b1 b2 b3 hlt ⊢
  have hq0 : 0 < sv .f64 4598175219545276416 := by decide +kernel
  have hs : sgn .f64 f = false := by unfold sgn; rw [sw64, Nat.div_eq_of_lt (by omega)]; rfl
  have hr : rung .f64 f = f := by unfold rung; rw [sw64, Nat.mod_eq_of_lt (by omega)]
  have hrg : rung .f64 g = g := by
    have hd := sgn_div64 hlt
    rw [b2] at hd
    unfold rung; rw [sw64]
    have : g / 9223372036854775808 = 0 := hd
    omega
  rw [sv_pos b2, sv_pos hs, hr, hrg] at b3
  have hgf : g < f := by
    rcases Nat.lt_or_ge g f with hl | hl
    · exact hl
    · rcases Nat.lt_or_eq_of_le hl with hl | hl
      · have := val_mono FloatKind.f64.format hl; omega
      · subst hl; omega
  exact ⟨⟨⟨by have := h.bd.le; rw [hr] at this; rw [hrg]; omega, h.bd.low, h.bd.fit⟩, hlt⟩, hgf⟩
/-- f less k quarters. -/
def qf (f : Nat) : Nat → Nat
  | 0 => f
  | k + 1 => fop .sub .f64 (qf f k) 4598175219545276416
/-- The quarters of f are k. -/
structure QStop (f k : Nat) : Prop where
  on : ∀ j, j < k → fcmp .geq .f64 (qf f j) 4598175219545276416 = true
  off : fcmp .geq .f64 (qf f k) 4598175219545276416 = false
theorem QStop.same {f k l : Nat} (h : QStop f k) (g : QStop f l) : k = l := by
  rcases Nat.lt_trichotomy k l with hl | hl | hl
  · have := g.on k hl; rw [h.off] at this; exact absurd this (by decide)
  · exact hl
  · have := h.on l hl; rw [g.off] at this; exact absurd this (by decide)
theorem InQ.at {f : Nat} (h : InQ f) : ∀ {k : Nat}, (∀ j, j < k → fcmp .geq .f64 (qf f j) 4598175219545276416 = true) → InQ (qf f k)
  | 0, _ => h
  | k + 1, hj => ((InQ.at h (k := k) (fun j hl => hj j (by omega))).step (hj k (by omega))).1
theorem InQ.notN {f : Nat} (h : InQ f) : isN .f64 f = false := fin_notN h.bd.fin
theorem few_many {c : Nat} (hb : Bd .f64 c 10) : many c = false := by
  have hk : fin .f64 4841369599423283200 = true := by decide +kernel
  have hks : sgn .f64 4841369599423283200 = false := by decide +kernel
  have hkr : rung .f64 4841369599423283200 = 4841369599423283200 := by decide +kernel
  have hf : fin .f64 (fabs c) = true := by unfold fin; rw [rung_fabs]; exact hb.fin
  have hs : sgn .f64 (fabs c) = false := sgn_fabs c
  unfold many
  rw [(fcmp_fin hf hk).2.2.2.1]
  apply decide_eq_false
  have hle : rung .f64 c ≤ 4652218415073722368 := hb.le
  have := val_mono FloatKind.f64.format (show rung .f64 (fabs c) < 4841369599423283200 by rw [rung_fabs]; omega)
  rw [sv_pos hs, sv_pos hks, hkr]
  omega
theorem sin_ok {c : Nat} (hb : Bd .f64 c 10) : ∃ iv, floatToIntVal .f64 c .i64 = some iv ∧ fcmp .neq .f64 (fop .sub .f64 c c) 0 = false ∧ fcmp .geq .f64 c 4841369599423283200 = false ∧ fcmp .leq .f64 c 14064741636278059008 = false ∧ Bd .f64 (sinW (left c iv)) 94 := by
  have hm := few_many hb
  obtain ⟨iv, hi⟩ := fint_in hb.fin hm
  have hm' := many_fin hb.fin
  rw [hm] at hm'
  have hm2 := Bool.or_eq_false_iff.1 hm'.symm
  exact ⟨iv, hi, by rw [fcmp_neq_fin, hb.fin]; rfl, hm2.1, hm2.2, sinW_bd (left_bd hb.fin hm hi)⟩
def sinQ (g : Nat) : Nat := sinW (left g (fint g))
def cosQ (g : Nat) : Nat := sinQ (fop .sub .f64 4598175219545276416 g)
def phRe (k g : Nat) : Nat := fcv .f64 .f32 (if k = 1 then fop .sub .f64 0 (sinQ g) else if k = 2 then fop .sub .f64 0 (cosQ g) else if k = 3 then sinQ g else cosQ g)
def phIm (k g : Nat) : Nat := fcv .f64 .f32 (if k = 1 then cosQ g else if k = 2 then fop .sub .f64 0 (sinQ g) else if k = 3 then fop .sub .f64 0 (cosQ g) else sinQ g)
theorem InQ.ten {g : Nat} (h : InQ g) : Bd .f64 g 10 ∧ Bd .f64 (fop .sub .f64 4598175219545276416 g) 10 := by
  have hq : Bd .f64 4598175219545276416 1 := ⟨by decide +kernel, by decide, by decide⟩
  exact ⟨h.bd.mono (by decide) (by decide), (fop_sub_bd hq h.bd (by decide)).mono (by decide) (by decide)⟩
theorem nil_sub_bd {c : Nat} (h : Bd .f64 c 94) : Bd .f64 (fop .sub .f64 0 c) 95 := fop_sub_bd (E := 94) ⟨by decide +kernel, by decide, by decide⟩ h (by decide)
/-- What a phasor's last steps want, by names. -/
theorem ph_names {g : Nat} (h : InQ g) : ∃ (i1 i2 : Int) (C S D : Nat), Keep (fop .sub .f64 4598175219545276416 g = D) ∧ isN .f64 D = false ∧ floatToIntVal .f64 D .i64 = some i1 ∧ floatToIntVal .f64 g .i64 = some i2 ∧
    (fcmp .neq .f64 (fop .sub .f64 D D) 0 = false ∧ fcmp .geq .f64 D 4841369599423283200 = false ∧ fcmp .leq .f64 D 14064741636278059008 = false) ∧
    (fcmp .neq .f64 (fop .sub .f64 g g) 0 = false ∧ fcmp .geq .f64 g 4841369599423283200 = false ∧ fcmp .leq .f64 g 14064741636278059008 = false) ∧
    Keep (sinW (left D i1) = C) ∧ Keep (sinW (left g i2) = S) ∧ Keep (cosQ g = C) ∧ Keep (sinQ g = S) ∧
    (fits .f64 .f32 C = true ∧ fits .f64 .f32 S = true ∧ fits .f64 .f32 (fop .sub .f64 0 C) = true ∧ fits .f64 .f32 (fop .sub .f64 0 S) = true) := by
  obtain ⟨t1, t2⟩ := h.ten
  obtain ⟨i2, n2, f2, a2, b2, S2⟩ := sin_ok t1
  obtain ⟨i1, n1, f1, a1, b1, S1⟩ := sin_ok t2
  refine ⟨i1, i2, _, _, _, ⟨rfl⟩, fin_notN t2.fin, n1, n2, ⟨f1, a1, b1⟩, ⟨f2, a2, b2⟩, ⟨rfl⟩, ⟨rfl⟩, ⟨?_⟩, ⟨?_⟩, (S1.fits (by decide) (by decide)).1, (S2.fits (by decide) (by decide)).1, ((nil_sub_bd S1).fits (by decide) (by decide)).1, ((nil_sub_bd S2).fits (by decide) (by decide)).1⟩
  · unfold cosQ sinQ; rw [fint_of n1]
  · unfold sinQ; rw [fint_of n2]
end Go.Proofs.Ytcgmffpddahgoaa
