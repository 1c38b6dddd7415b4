/-
  Where a way leads: the north and the east that are told of a finite way longer than 0 are those of a valid place. No walk. No premise.
-/
import Derived.Test.YtenekhckmglobaaGreatVec
namespace Go.Proofs.YtenekhckmglobaaGreat
open Go Go.RowKit
set_option maxRecDepth 100000

/-! ## What is finite -/
theorem write_inf_fin {k : FloatKind} (s : Bool) : fin k (k.format.write (.infinity s)) = false := by
  cases k <;> cases s <;> decide +kernel
theorem add_fin {k : FloatKind} {x y : Nat} (h : fin k (fop .add k x y) = true) : fin k x = true ∧ fin k y = true := by
  have hq : ∀ (k : FloatKind), fin k (qn k) = false := by intro k; cases k <;> decide +kernel
  have key : ∀ a b, isInf k a = true → (fop .add k a b = qn k ∨ ∃ s, fop .add k a b = k.format.write (.infinity s)) ∧ (fop .add k b a = qn k ∨ ∃ s, fop .add k b a = k.format.write (.infinity s)) := by
    intro a b ha
    have hr := read_inf ha
    constructor
    · cases hb : k.format.read b with
      | nan s t => exact .inl (fop_nan_r (by unfold isN; rw [hb]; rfl))
      | infinity s =>
        by_cases e : sgn k a = s
        · right; refine ⟨sgn k a, fop_of_some ?_⟩
          unfold floatBits Ieee.Format.add Ieee.Datum.sum; dsimp only; rw [hr, hb]; dsimp only; rw [if_pos e]; rfl
        · left; refine fop_of_none ?_
          unfold floatBits Ieee.Format.add Ieee.Datum.sum; dsimp only; rw [hr, hb]; dsimp only; rw [if_neg e]; rfl
      | number s m p =>
        right; refine ⟨sgn k a, fop_of_some ?_⟩
        unfold floatBits Ieee.Format.add Ieee.Datum.sum; dsimp only; rw [hr, hb]; rfl
    · cases hb : k.format.read b with
      | nan s t => exact .inl (fop_nan_l (by unfold isN; rw [hb]; rfl))
      | infinity s =>
        by_cases e : s = sgn k a
        · right; refine ⟨s, fop_of_some ?_⟩
          unfold floatBits Ieee.Format.add Ieee.Datum.sum; dsimp only; rw [hr, hb]; dsimp only; rw [if_pos e]; rfl
        · left; refine fop_of_none ?_
          unfold floatBits Ieee.Format.add Ieee.Datum.sum; dsimp only; rw [hr, hb]; dsimp only; rw [if_neg e]; rfl
      | number s m p =>
        right; refine ⟨sgn k a, fop_of_some ?_⟩
        unfold floatBits Ieee.Format.add Ieee.Datum.sum; dsimp only; rw [hr, hb]; rfl
  refine ⟨?_, ?_⟩
  · rcases three (k := k) x with g | g | g
    · exact g
    · rcases (key x y g).1 with e | ⟨s, e⟩
      · rw [e, hq] at h; exact absurd h (by decide)
      · rw [e, write_inf_fin] at h; exact absurd h (by decide)
    · rw [fop_nan_l g, hq] at h; exact absurd h (by decide)
  · rcases three (k := k) y with g | g | g
    · exact g
    · rcases (key y x g).2 with e | ⟨s, e⟩
      · rw [e, hq] at h; exact absurd h (by decide)
      · rw [e, write_inf_fin] at h; exact absurd h (by decide)
    · rw [fop_nan_r g, hq] at h; exact absurd h (by decide)
theorem root_fin {c : Nat} (hc : c < 4294967296) (h : fin .f32 (rootC c) = true) : fin .f32 c = true := by
  rcases three (k := .f32) c with g | g | g
  · exact g
  · have hr : rung .f32 c = 2139095040 := by unfold isInf at g; rw [beq_iff_eq, in32] at g; exact g
    have hw : c = 2139095040 ∨ c = 4286578688 := by
      unfold rung at hr; rw [sw32] at hr
      omega
    rcases hw with rfl | rfl
    · exact absurd h (by decide +kernel)
    · exact absurd h (by decide +kernel)
  · have e : rootC c = qn .f32 := by
      have h1 := fcv_nan (s := .f32) (d := .f64) g
      have h2 : fsqrt (qn .f64) = qn .f64 := by decide +kernel
      have h3 : fcv .f64 .f32 (qn .f64) = qn .f32 := by decide +kernel
      unfold rootC; rw [h1, h2, h3]
    rw [e] at h
    exact absurd h (by decide +kernel)
theorem fop_lt32 (op : BinOp) (x y : Nat) : fop op .f32 x y < 4294967296 := by have := wf_fop op .f32 x y; simpa [Lit.wf] using this
/-- A root of what is finite and has no sign is finite and not below 0. -/
theorem root_nn {c : Nat} (hf : fin .f32 c = true) (hs : sgn .f32 c = false) : fin .f32 (rootC c) = true ∧ fcmp .lss .f32 (rootC c) 0 = false ∧ Fl .f32 (rootC c) (rootC c) := by
  obtain ⟨w1', w2', w3'⟩ := wide_fin hf
  have ha : Ab .f32 c 2139095039 := by
    refine ⟨?_, by decide +kernel⟩
    unfold fin at hf; rw [decide_eq_true_eq, in32] at hf
    have : rung .f32 2139095039 = 2139095039 := by decide +kernel
    omega
  have hb : Bd .f64 (fcv .f32 .f64 c) 128 := bd_of_ab (wide_ab ha) (by decide +kernel) (by decide) (by decide)
  obtain ⟨r1, r2⟩ := fsqrt_bd hb (by rw [w2', hs]) (by decide)
  obtain ⟨f1, f2⟩ := r1.fits (by decide) (by decide)
  have hn := narrow_ab (c := 2139095039) r1.fin (by decide +kernel) (Nat.le_trans r1.le (by decide +kernel))
  have f3 : fin .f32 (rootC c) = true := f2.fin
  refine ⟨f3, ?_, Fl.not (fin_notN f3) (wf_fcv _)⟩
  rw [lss_zero f3, decide_eq_false_iff_not]
  have h0 := sv_nn (k := .f32) (x := rootC c) (by unfold rootC; rw [hn.2, r2])
  omega
def flatSq (x y : Nat) : Nat := fop .add .f32 (fop .mul .f32 x x) (fop .mul .f32 y y)
theorem sq_sgn {x : Nat} (h : fin .f32 x = true) : sgn .f32 (fop .mul .f32 x x) = false := by rw [mul_sgn h h, Bool.xor_self]
/-- Of a way whose long is finite the flat part is. -/
theorem flat_ok {x y z : Nat} (h : longOk x y z = true) : fin .f32 (fop .mul .f32 x x) = true ∧ fin .f32 (fop .mul .f32 y y) = true ∧ fin .f32 (flatSq x y) = true ∧ sgn .f32 (flatSq x y) = false := by
  unfold longOk finW longC dotC at h
  simp only [Bool.and_eq_true] at h
  obtain ⟨⟨hx, hy, hz⟩, hl⟩ := h
  have h1 := root_fin (fop_lt32 _ _ _) hl
  have h2 := (add_fin h1).1
  obtain ⟨h3, h4⟩ := add_fin h2
  refine ⟨h3, h4, h2, ?_⟩
  unfold flatSq
  rw [fop_add_near h3 h4, nearest_sgn, sq_sgn hx, sq_sgn hy]
  have p1 := sv_pos (sq_sgn hx)
  have p2 := sv_pos (sq_sgn hy)
  split
  · rfl
  · rw [decide_eq_false_iff_not, p1, p2]; omega
/-! ## The east is brought back -/
theorem north_of {n : Nat} (h : Ab .f32 n 1048576000) : isNorthC n = true := by
  have hv := h.val
  rw [← sv_abs] at hv
  have a1 : sv .f32 3196059648 = -((val FloatKind.f32.format (rung .f32 1048576000) : Nat) : Int) := by decide +kernel
  have a2 : sv .f32 1048576000 = ((val FloatKind.f32.format (rung .f32 1048576000) : Nat) : Int) := by decide +kernel
  unfold isNorthC
  rw [(fcmp_fin h.fin (by decide +kernel)).2.2.2.1, (fcmp_fin h.fin (by decide +kernel)).2.1, a1, a2]
  generalize val FloatKind.f32.format (rung .f32 1048576000) = Q at *
  rw [decide_eq_true (by omega), decide_eq_true (by omega)]; rfl
theorem east_of {e : Nat} (h : Ab .f32 e 1056964608) (hl : sv .f32 e < sv .f32 1056964608) : isEastC e = true := by
  have hv := h.val
  rw [← sv_abs] at hv
  have a1 : sv .f32 3204448256 = -((val FloatKind.f32.format (rung .f32 1056964608) : Nat) : Int) := by decide +kernel
  unfold isEastC
  rw [(fcmp_fin h.fin (by decide +kernel)).2.2.2.1, (fcmp_fin h.fin (by decide +kernel)).1, a1, decide_eq_true hl]
  generalize val FloatKind.f32.format (rung .f32 1056964608) = Q at *
  rw [decide_eq_true (by omega)]; rfl
/-- The floor of what is from 0 to less than 1 is 0. -/
theorem floor_zero {x : Nat} (hf : fin .f64 x = true) (hs : sgn .f64 x = false) (hl : rung .f64 x < rung .f64 w1) : ffloor x = 0 := by
  obtain ⟨m, p, h1, h2, h3, h4, _⟩ := read_fin hf
  have hv := val_mono FloatKind.f64.format hl
  have hv1 : val FloatKind.f64.format (rung .f64 w1) = 2 ^ tenB := by decide +kernel
  rw [hv1, ← h3, least64] at hv
  rw [least64] at h2
  have e : ffloor x = FloatKind.f64.format.nearest (sgn .f64 x) (Ieee.Toward.down.cut (sgn .f64 x) (m <<< p.toNat) (-p).toNat) 0 := by
    unfold ffloor; rw [h1]; rfl
  rw [e, hs]
  have ht : tenB = 1074 := rfl
  have hc : Ieee.Toward.down.cut false (m <<< p.toNat) (-p).toNat = 0 := by
    by_cases hp : 0 ≤ p
    · have hm : m = 0 := by
        by_cases hm : m = 0
        · exact hm
        · have : 2 ^ tenB ≤ m * 2 ^ (p - -1074).toNat := by
            refine Nat.le_trans (Nat.pow_le_pow_right (by omega) (by omega : tenB ≤ (p - -1074).toNat)) (Nat.le_mul_of_pos_left _ (Nat.pos_of_ne_zero hm))
          omega
      subst hm
      rw [Nat.zero_shiftLeft]
      unfold Ieee.Toward.cut; simp
    · have hm : m < 2 ^ (-p).toNat := by
        have e1 : 2 ^ tenB = 2 ^ (-p).toNat * 2 ^ (p - -1074).toNat := by rw [← Nat.pow_add]; congr 1; omega
        rw [e1] at hv
        exact Nat.lt_of_mul_lt_mul_right hv
      rw [show p.toNat = 0 by omega, Nat.shiftLeft_zero]
      unfold Ieee.Toward.cut
      dsimp only
      rw [Nat.one_shiftLeft, Nat.div_eq_of_lt ?_]
      · simp
      · by_cases hd : (-p).toNat ≤ m.log2 + 2
        · rw [Nat.min_eq_left hd]; exact hm
        · rw [Nat.min_eq_right (by omega)]
          exact Nat.lt_of_lt_of_le Nat.lt_log2_self (Nat.pow_le_pow_right (by omega) (by omega))
  rw [hc]
  decide +kernel
theorem wrap_east {c : Nat} (hw : (Lit.float .f32 c).wf = true) (h : Ab .f32 c 1056964608) : isEastC (wrapC c) = true := by
  have hlt : c < 4294967296 := by simpa [Lit.wf] using hw
  have hhv : sv .f32 1056964608 = ((val FloatKind.f32.format (rung .f32 1056964608) : Nat) : Int) := by decide +kernel
  have hfh : fin .f32 1056964608 = true := by decide +kernel
  have hv := h.val
  rw [← sv_abs] at hv
  -- the sum is from +0 to 1
  have hsum : Nn .f32 (sumC c) 1065353216 := by
    refine ⟨add_ab h (ab_self hfh) (by decide +kernel) (by decide +kernel), ?_⟩
    unfold sumC
    rw [fop_add_near h.fin hfh, nearest_sgn, show sgn .f32 1056964608 = false by decide +kernel, Bool.and_false]
    split
    · rfl
    · rw [decide_eq_false_iff_not, hhv]; omega
  by_cases hone : rung .f32 (sumC c) < rung .f32 1065353216
  · -- the floor is 0
    obtain ⟨g1, g2, g3⟩ := wide_fin hsum.ab.fin
    have hz : ffloor (fcv .f32 .f64 (sumC c)) = 0 := by
      refine floor_zero g1 (by rw [g2, hsum.pos]) ?_
      obtain ⟨_, _, o3⟩ := wide_fin (c := 1065353216) (by decide +kernel)
      have e1 : fcv .f32 .f64 1065353216 = w1 := by decide +kernel
      rw [← e1]
      have hlt2 := Nat.mul_lt_mul_of_pos_right (val_mono FloatKind.f32.format hone) (Nat.two_pow_pos wd)
      rw [← g3, ← o3] at hlt2
      exact (val_lt_iff _ _ _).1 hlt2
    have hfl : floorC c = 0 := by unfold floorC; rw [hz]; decide +kernel
    have hd : wrapD c = fop .sub .f32 c 0 := by unfold wrapD; rw [hfl]
    have hr : rung .f32 (fop .sub .f32 c 0) ≤ rung .f32 c := by
      rw [fop_sub_near h.fin (fin_zero _)]
      refine near_ab _ h.fin ?_
      rw [sv_zero, Int.sub_zero, sv_abs]; exact Nat.le_refl _
    have hab : Ab .f32 (fop .sub .f32 c 0) 1056964608 := ⟨Nat.le_trans hr h.le, hfh⟩
    -- c is not a half
    have hlt3 : sv .f32 (fop .sub .f32 c 0) < sv .f32 1056964608 := by
      by_cases hc : rung .f32 c < rung .f32 1056964608
      · have := val_mono FloatKind.f32.format (Nat.lt_of_le_of_lt hr hc)
        rw [← sv_abs] at this
        rw [hhv]; omega
      · have hce : rung .f32 c = 1056964608 := by have := h.le; have e : rung .f32 1056964608 = 1056964608 := by decide +kernel
                                                  omega
        unfold rung at hce; rw [sw32] at hce
        have hcc : c = 1056964608 ∨ c = 3204448256 := by omega
        rcases hcc with rfl | rfl
        · exact absurd hone (by decide +kernel)
        · decide +kernel
    have hg : fcmp .geq .f32 (wrapD c) 1056964608 = false := by
      rw [hd, (fcmp_fin hab.fin hfh).2.2.2.1, decide_eq_false_iff_not]; omega
    rw [wrap_no hg, hd]
    exact east_of hab hlt3
  · -- the sum is 1: the east is a half, or the number next to it
    have hnear : 1056964606 < rung .f32 c ∧ sgn .f32 c = false := by
      by_cases hc : sgn .f32 c = true ∨ rung .f32 c ≤ 1056964606
      · exfalso
        apply hone
        have hle : rung .f32 (sumC c) ≤ rung .f32 1065353215 := by
          unfold sumC
          rw [fop_add_near h.fin hfh]
          refine near_ab _ (by decide +kernel) ?_
          have e1 : ((val FloatKind.f32.format (rung .f32 1065353215) : Nat) : Int) = (val FloatKind.f32.format (rung .f32 1056964606) : Nat) + (val FloatKind.f32.format (rung .f32 1056964608) : Nat) := by decide +kernel
          have e2 : rung .f32 1056964606 = 1056964606 := by decide +kernel
          rcases hc with hc | hc
          · have : sv .f32 c = -((val FloatKind.f32.format (rung .f32 c) : Nat) : Int) := by unfold sv; rw [hc]; rfl
            rw [hhv]; omega
          · have := val_le (f := FloatKind.f32.format) (r := rung .f32 c) (s := rung .f32 1056964606) (by omega)
            rw [← sv_abs] at this
            rw [hhv]; omega
        exact Nat.lt_of_le_of_lt hle (by decide +kernel)
      · refine ⟨by omega, ?_⟩
        cases hs : sgn .f32 c
        · rfl
        · exact absurd (.inl hs) hc
    have hle := h.le
    have e2 : rung .f32 1056964608 = 1056964608 := by decide +kernel
    have hcc : c = 1056964607 ∨ c = 1056964608 := by
      have hs := hnear.2
      have hr1 := hnear.1
      rw [e2] at hle
      unfold sgn at hs; rw [sw32] at hs
      unfold rung at hle hr1; rw [sw32] at hle hr1
      have hs' : c / 2147483648 % 2 ≠ 1 := by intro e; rw [e] at hs; exact absurd hs (by decide)
      omega
    rcases hcc with rfl | rfl <;> decide +kernel
def placeOk (x y z : Nat) : Bool := longOk x y z && fcmp .gtr .f32 (longC x y z) 0
def placeN (x y z : Nat) : Nat := angleC z (rootC (flatSq x y))
def placeE (x y : Nat) : Nat := wrapC (angleC y x)
/-- The place of a way is valid. -/
theorem place_valid {x y z : Nat} (h : longOk x y z = true) : validC (placeN x y z) (placeE x y) = true ∧ Ab .f32 (angleC y x) 1056964608 := by
  obtain ⟨_, _, h3, h4⟩ := flat_ok h
  obtain ⟨r1, r2, _⟩ := root_nn h3 h4
  unfold longOk finW at h
  simp only [Bool.and_eq_true] at h
  obtain ⟨⟨hx, hy, hz⟩, _⟩ := h
  have a1 := (angle_ab hz r1).2.1 r2
  have a2 := (angle_ab hy hx).1
  refine ⟨?_, a2⟩
  have wa : (Lit.float .f32 (angleC y x)).wf = true := by
    unfold angleC
    split
    · split
      · decide +kernel
      · exact wf_fcv _
    · decide +kernel
  unfold validC placeN placeE
  rw [north_of a1, wrap_east wa a2]; rfl
end Go.Proofs.YtenekhckmglobaaGreat
