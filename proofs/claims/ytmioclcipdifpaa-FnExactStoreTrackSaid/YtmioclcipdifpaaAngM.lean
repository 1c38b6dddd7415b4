/-
  The angle of a point in 64 bits, as one Lean function of its coordinates; that it is small enough to be narrowed. No walk. No premise.
-/
import Derived.Test.YtmioclcipdifpaaBnd2
import Derived.Test.YtmioclcipdifpaaSinM
namespace Go.Proofs.Ytmioclcipdifpaa
open Go Go.RowKit

def sqOne (t : Nat) : Nat := fop .add .f64 4607182418800017408 (fop .mul .f64 t t)
def tHalf (t : Nat) : Nat := fop .quo .f64 t (fop .add .f64 4607182418800017408 (fsqrt (sqOne t)))
/-- t behind m halvings. -/
def tIt (t : Nat) : Nat → Nat
  | 0 => t
  | m + 1 => tHalf (tIt t m)
/-- The polynomial behind m rounds. -/
def angP (u : Nat) : Nat → Nat
  | 0 => 0
  | m + 1 => fop .sub .f64 (fop .quo .f64 4607182418800017408 (floatOfInt .f64 (15 - 2 * (m : Int)))) (fop .mul .f64 u (angP u m))
def angV (t : Nat) : Nat := fop .quo .f64 (fop .mul .f64 4620693217682128896 (fop .mul .f64 t (angP (fop .mul .f64 t t) 8))) 4618760256179416344
def over (y x : Nat) : Bool := fcmp .gtr .f64 (fabs y) (fabs x)
def angT (y x : Nat) : Nat := if over y x = true then fop .quo .f64 (fabs x) (fabs y) else fop .quo .f64 (fabs y) (fabs x)
def ang1 (y x : Nat) : Nat := if over y x = true then fop .sub .f64 4598175219545276416 (angV (tIt (angT y x) 3)) else angV (tIt (angT y x) 3)
def ang2 (y x : Nat) : Nat := if fcmp .lss .f64 x 0 = true then fop .sub .f64 4602678819172646912 (ang1 y x) else ang1 y x
/-- The angle of a point that is finite and not both zeros. -/
def ang3 (y x : Nat) : Nat := if fcmp .lss .f64 y 0 = true then fneg .f64 (ang2 y x) else ang2 y x
/-- The angle of a point of float32s. -/
def angleC (y x : Nat) : Nat :=
  if fin .f32 y = true ∧ fin .f32 x = true then
    if fcmp .eql .f32 y 0 = true ∧ fcmp .eql .f32 x 0 = true then 0
    else fcv .f64 .f32 (ang3 (fcv .f32 .f64 y) (fcv .f32 .f64 x))
  else qn .f32

theorem one_lb : Lb .f64 4607182418800017408 0 := ⟨by decide +kernel, by decide, by decide +kernel⟩
theorem one_sgn : sgn .f64 4607182418800017408 = false := by decide +kernel
theorem sqOne_bd {t : Nat} (h : Bd .f64 t 0) : Bd .f64 (sqOne t) 1 ∧ sgn .f64 (sqOne t) = false := by
  have h1 := fop_mul_bd h h (by decide) (by decide)
  obtain ⟨a, _, b⟩ := fop_one_add one_bd one_lb one_sgn h1 (fop_sq h) (by decide) (by decide)
  exact ⟨a, b⟩
theorem tHalf_bd {t : Nat} (h : Bd .f64 t 0) : Bd .f64 (tHalf t) 0 := by
  obtain ⟨a, b⟩ := sqOne_bd h
  obtain ⟨c, d⟩ := fsqrt_bd a b (by decide)
  obtain ⟨_, e, _⟩ := fop_one_add one_bd one_lb one_sgn c d (by decide) (by decide)
  exact fop_quo_bd h e (by decide) (by decide)
theorem tIt_bd {t : Nat} (h : Bd .f64 t 0) (m : Nat) : Bd .f64 (tIt t m) 0 := by
  induction m with
  | zero => exact h
  | succ m ih => exact tHalf_bd ih
theorem odd_lb {m : Nat} (hm : m < 8) : Lb .f64 (floatOfInt .f64 (15 - 2 * (m : Int))) 0 := by
  have a : ∀ m, m < 8 → fin .f64 (floatOfInt .f64 (15 - 2 * ((m : Nat) : Int))) = true := by decide +kernel
  have b : ∀ m, m < 8 → ((0 : Int) + bias .f64).toNat * FloatKind.f64.format.binade ≤ rung .f64 (floatOfInt .f64 (15 - 2 * ((m : Nat) : Int))) := by decide +kernel
  exact ⟨a m hm, by decide, b m hm⟩
theorem angP_bd {u : Nat} (hu : Bd .f64 u 0) (m : Nat) (hm : m ≤ 8) : Bd .f64 (angP u m) m := by
  induction m with
  | zero => exact (⟨by decide +kernel, by decide, by decide⟩ : Bd .f64 0 0)
  | succ m ih =>
    have ih := ih (by omega)
    have h1 := fop_mul_bd hu ih (by show (1 : Int) ≤ _ + 1023; omega) (by show _ + (1023 : Int) ≤ 2046; omega)
    have h2 := fop_quo_bd one_bd (odd_lb (m := m) (by omega)) (by decide) (by decide)
    have h3 := fop_sub_bd (h2.mono (F := 0 + (m : Int)) (by omega) (by show _ + (1023 : Int) ≤ 2046; omega)) h1 (by show _ + (1023 : Int) ≤ 2046; omega)
    rw [show (((m + 1 : Nat) : Int)) = 0 + (m : Int) + 1 by omega]
    exact h3
theorem angV_bd {t : Nat} (h : Bd .f64 t 0) : Bd .f64 (angV t) 9 := by
  have hu := fop_mul_bd h h (by decide) (by decide)
  have hp := angP_bd hu 8 (by omega)
  have h8 : Bd .f64 4620693217682128896 3 := ⟨by decide +kernel, by decide, by decide⟩
  have hl : Lb .f64 4618760256179416344 2 := ⟨by decide +kernel, by decide, by decide +kernel⟩
  exact fop_quo_bd (fop_mul_bd h8 (fop_mul_bd h hp (by decide) (by decide)) (by decide) (by decide)) hl (by decide) (by decide)
theorem angT_bd {y x : Nat} (hy : fin .f64 y = true) (hx : fin .f64 x = true) (hz : ¬ (rung .f64 y = 0 ∧ rung .f64 x = 0)) : Bd .f64 (angT y x) 0 := by
  have fy : fin .f64 (fabs y) = true := by rw [fin_fabs]; exact hy
  have fx : fin .f64 (fabs x) = true := by rw [fin_fabs]; exact hx
  have ho : over y x = decide (rung .f64 x < rung .f64 y) := by
    unfold over
    rw [(fcmp_fin fy fx).2.2.1, sv_pos (sgn_fabs y), sv_pos (sgn_fabs x), rung_fabs, rung_fabs]
    have := val_lt_iff FloatKind.f64.format (rung .f64 x) (rung .f64 y)
    rw [Bool.eq_iff_iff, decide_eq_true_eq, decide_eq_true_eq, ← this]
    omega
  unfold angT
  rw [ho]
  split
  · rename_i h; rw [decide_eq_true_eq] at h
    exact fop_quo_le fx fy (by rw [rung_fabs]; omega) (by rw [rung_fabs, rung_fabs]; omega)
  · rename_i h; rw [decide_eq_true_eq] at h
    exact fop_quo_le fy fx (by rw [rung_fabs]; omega) (by rw [rung_fabs, rung_fabs]; omega)
theorem ang3_bd {y x : Nat} (hy : fin .f64 y = true) (hx : fin .f64 x = true) (hz : ¬ (rung .f64 y = 0 ∧ rung .f64 x = 0)) : Bd .f64 (ang3 y x) 11 := by
  have hv := angV_bd (tIt_bd (angT_bd hy hx hz) 3)
  have hq : Bd .f64 4598175219545276416 9 := ⟨by decide +kernel, by decide, by decide⟩
  have hh : Bd .f64 4602678819172646912 10 := ⟨by decide +kernel, by decide, by decide⟩
  have h1 : Bd .f64 (ang1 y x) 10 := by
    unfold ang1; split
    · exact fop_sub_bd hq hv (by decide)
    · exact hv.mono (by decide) (by decide)
  have h2 : Bd .f64 (ang2 y x) 11 := by
    unfold ang2; split
    · exact fop_sub_bd hh h1 (by decide)
    · exact h1.mono (by decide) (by decide)
  unfold ang3; split
  · exact h2.neg
  · exact h2
/-- A finite word equals 0 just where its rung is nought. -/
theorem eql_zero {k : FloatKind} {x : Nat} (h : fin k x = true) : fcmp .eql k x 0 = decide (rung k x = 0) := by
  have h0 : fin k 0 = true := by cases k <;> decide +kernel
  have hs : sv k 0 = 0 := by cases k <;> decide +kernel
  rw [(fcmp_fin h h0).2.2.2.2.1, hs]
  have hv : val k.format (rung k x) = 0 ↔ rung k x = 0 := by
    constructor
    · intro e; exact val_inj k.format (by rw [e, val_zero])
    · intro e; rw [e, val_zero]
  rw [Bool.eq_iff_iff, decide_eq_true_eq, decide_eq_true_eq, ← hv]
  unfold sv
  split <;> omega
theorem fcv_zero : fcv .f32 .f64 0 = 0 := by decide +kernel
/-- Widening keeps every comparison. -/
theorem fcmp_wide (op : BinOp) (x y : Nat) : fcmp op .f64 (fcv .f32 .f64 x) (fcv .f32 .f64 y) = fcmp op .f32 x y := by
  unfold fcmp; rw [order_wide]
theorem fcmp_wide0 (op : BinOp) (x : Nat) : fcmp op .f64 (fcv .f32 .f64 x) 0 = fcmp op .f32 x 0 := by
  have := fcmp_wide op x 0
  rwa [fcv_zero] at this
/-- The angle is narrowed without an overflow. -/
theorem angle_fits {y x : Nat} (hy : fin .f32 y = true) (hx : fin .f32 x = true) (hz : ¬ (fcmp .eql .f32 y 0 = true ∧ fcmp .eql .f32 x 0 = true)) : fits .f64 .f32 (ang3 (fcv .f32 .f64 y) (fcv .f32 .f64 x)) = true := by
  have fy : fin .f64 (fcv .f32 .f64 y) = true := by rw [fin_wide]; exact hy
  have fx : fin .f64 (fcv .f32 .f64 x) = true := by rw [fin_wide]; exact hx
  refine ((ang3_bd fy fx ?_).fits (by decide) (by decide)).1
  rintro ⟨h1, h2⟩
  refine hz ⟨?_, ?_⟩
  · rw [← fcmp_wide0, eql_zero fy, decide_eq_true h1]
  · rw [← fcmp_wide0, eql_zero fx, decide_eq_true h2]

theorem odd_of {m : Nat} (hm : m < 8) : fcmp .geq .f64 (floatOfInt .f64 (15 - 2 * (m : Int))) 4607182418800017408 = true ∧ fop .sub .f64 (floatOfInt .f64 (15 - 2 * (m : Int))) 4611686018427387904 = floatOfInt .f64 (15 - 2 * ((m + 1 : Nat) : Int)) ∧ (m < 7 → floatOfInt .f64 (15 - 2 * ((m + 1 : Nat) : Int)) < floatOfInt .f64 (15 - 2 * (m : Int))) := by
  have : ∀ m, m < 8 → fcmp .geq .f64 (floatOfInt .f64 (15 - 2 * ((m : Nat) : Int))) 4607182418800017408 = true ∧ fop .sub .f64 (floatOfInt .f64 (15 - 2 * ((m : Nat) : Int))) 4611686018427387904 = floatOfInt .f64 (15 - 2 * ((m + 1 : Nat) : Int)) ∧ (m < 7 → floatOfInt .f64 (15 - 2 * ((m + 1 : Nat) : Int)) < floatOfInt .f64 (15 - 2 * ((m : Nat) : Int))) := by decide +kernel
  exact this m hm
theorem odd_end : fcmp .geq .f64 (floatOfInt .f64 (15 - 2 * ((8 : Nat) : Int))) 4607182418800017408 = false := by decide +kernel
theorem fifteen : Fl .f64 (floatOfInt .f64 (15 - 2 * ((0 : Nat) : Int))) 4624633867356078080 := by
  have e : floatOfInt .f64 (15 - 2 * ((0 : Nat) : Int)) = 4624633867356078080 := by decide +kernel
  rw [e]; exact Fl.not (by decide +kernel) (by decide +kernel)
theorem angT_of {y x : Nat} {a : Bool} (h : over y x = a) : angT y x = if a = true then fop .quo .f64 (fabs x) (fabs y) else fop .quo .f64 (fabs y) (fabs x) := by unfold angT; rw [h]
theorem ang3_of {y x : Nat} {a b c : Bool} (h1 : over y x = a) (h2 : fcmp .lss .f64 x 0 = b) (h3 : fcmp .lss .f64 y 0 = c) :
    ang3 y x = if c = true then fneg .f64 (if b = true then fop .sub .f64 4602678819172646912 (if a = true then fop .sub .f64 4598175219545276416 (angV (tIt (angT y x) 3)) else angV (tIt (angT y x) 3)) else (if a = true then fop .sub .f64 4598175219545276416 (angV (tIt (angT y x) 3)) else angV (tIt (angT y x) 3)))
      else (if b = true then fop .sub .f64 4602678819172646912 (if a = true then fop .sub .f64 4598175219545276416 (angV (tIt (angT y x) 3)) else angV (tIt (angT y x) 3)) else (if a = true then fop .sub .f64 4598175219545276416 (angV (tIt (angT y x) 3)) else angV (tIt (angT y x) 3))) := by
  unfold ang3 ang2 ang1; rw [h1, h2, h3]
theorem angV_eq (t : Nat) : angV t = fop .quo .f64 (fop .mul .f64 4620693217682128896 (fop .mul .f64 t (angP (fop .mul .f64 t t) 8))) 4618760256179416344 := rfl
theorem tIt_succ (t m : Nat) : tIt t (m + 1) = fop .quo .f64 (tIt t m) (fop .add .f64 4607182418800017408 (fsqrt (fop .add .f64 4607182418800017408 (fop .mul .f64 (tIt t m) (tIt t m))))) := rfl
theorem angP_succ (u m : Nat) : angP u (m + 1) = fop .sub .f64 (fop .quo .f64 4607182418800017408 (floatOfInt .f64 (15 - 2 * (m : Int)))) (fop .mul .f64 u (angP u m)) := rfl
def oddMu (v : Value) : Nat := match v with
  | .float _ b => if b < 9223372036854775808 then b + 1 else 0
  | _ => 0
theorem odd_mu {m a b : Nat} (hm : m < 8) (ha : Fl .f64 (floatOfInt .f64 (15 - 2 * ((m + 1 : Nat) : Int))) a) (hb : Fl .f64 (floatOfInt .f64 (15 - 2 * (m : Int))) b) : oddMu (.float .f64 a) < oddMu (.float .f64 b) := by
  have : ∀ m, m < 8 → oddMu (.float .f64 (floatOfInt .f64 (15 - 2 * ((m + 1 : Nat) : Int)))) < oddMu (.float .f64 (floatOfInt .f64 (15 - 2 * ((m : Nat) : Int)))) := by decide +kernel
  rw [ha.word (nearest_notN _ _), hb.word (nearest_notN _ _)]
  exact this m hm
theorem zero_cases {a b : Bool} (h : ¬ (a = true ∧ b = true)) : b = false ∨ (b = true ∧ a = false) := by
  cases a <;> cases b <;> simp_all
end Go.Proofs.Ytmioclcipdifpaa
