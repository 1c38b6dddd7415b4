/-
  Chapter 2's functions of numbers alone: WrapEast, StretchNorth, FlatNorth, BackNorth, of the program and of its model, compute the same Lean functions; their exact laws. No condition.
-/
import Derived.Test.YtmioclcipdifpaaBal
import Derived.Test.YtmioclcipdifpaaRoot
import Derived.Test.YtmioclcipdifpaaTen
namespace Go.Proofs.Ytmioclcipdifpaa
open Go Go.RowKit
set_option maxRecDepth 100000

/-- 'returns a float told by c, and b; nothing has been written' -/
def RP (k : FloatKind) (c : Nat) (b : Bool) (w : World) (e : Ending) (w' : World) : Prop := ∃ r n, e = .returned (.tuple #[.float k r, .bool b]) ∧ Fl k c r ∧ w' = w.drewN n
theorem RP.any {k : FloatKind} {c r : Nat} {b : Bool} {w w' : World} (h : Fl k c r) (d : Drew w w') : RP k c b w (.returned (.tuple #[.float k r, .bool b])) w' := by
  obtain ⟨n, rfl⟩ := d; exact ⟨r, n, rfl, h, rfl⟩
theorem ab_self {k : FloatKind} {c : Nat} (h : fin k c = true) : Ab k c c := ⟨Nat.le_refl _, h⟩
theorem fl0 : Fl .f32 0 0 := Fl.not (by decide +kernel) (by decide +kernel)
/-- What lies between two finite words is finite. -/
theorem between {k : FloatKind} {c a b : Nat} (ha : fin k a = true) (hb : fin k b = true) (h1 : fcmp .geq k c a = true) (h2 : fcmp .leq k c b = true) : fin k c = true ∧ sv k a ≤ sv k c ∧ sv k c ≤ sv k b := by
  have hc : fin k c = true := by
    rcases three (k := k) c with h | h | h
    · exact h
    · unfold fcmp at h1 h2
      dsimp only at h1 h2
      rw [order_inf_fin h ha] at h1
      rw [order_inf_fin h hb] at h2
      cases hs : sgn k c <;> rw [hs] at h1 h2 <;> simp at h1 h2
    · unfold fcmp at h1
      dsimp only at h1
      rw [order_isN_l h] at h1
      simp at h1
  refine ⟨hc, ?_, ?_⟩
  · have := (fcmp_fin hc ha).2.2.2.1; rw [this, decide_eq_true_eq] at h1; exact h1
  · have := (fcmp_fin hc hb).2.1; rw [this, decide_eq_true_eq] at h2; exact h2
theorem gtr_geq {k : FloatKind} {x y : Nat} (h : fcmp .gtr k x y = true) : fcmp .geq k x y = true := by
  unfold fcmp at *; dsimp only at *; rw [h]; rfl
theorem lss_leq {k : FloatKind} {x y : Nat} (h : fcmp .lss k x y = true) : fcmp .leq k x y = true := by
  unfold fcmp at *; dsimp only at *; rw [h]; rfl
/-- .. and at most as great as a bound of both. -/
theorem between_ab {k : FloatKind} {c a b : Nat} (ha : fin k a = true) (hb : fin k b = true) (hs : sv k a = -sv k b) (h1 : fcmp .geq k c a = true) (h2 : fcmp .leq k c b = true) : Ab k c b := by
  obtain ⟨hc, h3, h4⟩ := between ha hb h1 h2
  refine ⟨le_of_val ?_, hb⟩
  rw [← sv_abs, ← sv_abs]
  omega
theorem half_fin : fin .f32 1056964608 = true := by decide +kernel
/-- the cosine of some turns -/
def cosC (c : Nat) : Nat := sineC (fop .add .f32 c 1048576000)
def sumC (c : Nat) : Nat := fop .add .f32 c 1056964608
def floorC (c : Nat) : Nat := fcv .f64 .f32 (ffloor (fcv .f32 .f64 (sumC c)))
def wrapD (c : Nat) : Nat := fop .sub .f32 c (floorC c)
/-- an east brought back -/
def wrapC (c : Nat) : Nat := if fcmp .geq .f32 (wrapD c) 1056964608 = true then 3204448256 else wrapD c
theorem wrap_yes {c : Nat} (h : fcmp .geq .f32 (wrapD c) 1056964608 = true) : wrapC c = 3204448256 := by unfold wrapC; rw [if_pos h]
theorem wrap_no {c : Nat} (h : fcmp .geq .f32 (wrapD c) 1056964608 = false) : wrapC c = wrapD c := by unfold wrapC; rw [if_neg (by rw [h]; decide)]
theorem cos_ab {c : Nat} (hc : Ab .f32 c 1148846080) : Ab .f32 (cosC c) 1073741824 := by
  have h := add_ab (c := 1157234688) hc (⟨Nat.le_refl _, by decide +kernel⟩ : Ab .f32 1048576000 1048576000) (by decide +kernel) (by decide +kernel)
  exact sine_ab h.fin
theorem sum_ab {c : Nat} (hc : Ab .f32 c 1148846080) : Ab .f32 (sumC c) 1157234688 :=
  add_ab hc (⟨Nat.le_refl _, by decide +kernel⟩ : Ab .f32 1056964608 1056964608) (by decide +kernel) (by decide +kernel)
theorem wide_ab {c b : Nat} (h : Ab .f32 c b) : Ab .f64 (fcv .f32 .f64 c) (fcv .f32 .f64 b) := by
  obtain ⟨_, _, h1⟩ := wide_fin h.fin
  obtain ⟨h2, _, h3⟩ := wide_fin h.fit
  refine ⟨le_of_val ?_, h2⟩
  rw [h1, h3]
  exact Nat.mul_le_mul_right _ h.val
theorem bd_of_ab {k : FloatKind} {x b : Nat} {E : Int} (h : Ab k x b) (hr : rung k b ≤ (E + bias k).toNat * k.format.binade) (h1 : 1 ≤ E + bias k) (h2 : E + bias k ≤ top k) : Bd k x E := ⟨Nat.le_trans h.le hr, h1, h2⟩
/-- The steps of an east that is brought back. -/
theorem wrap_names {c : Nat} (hc : Ab .f32 c 1148846080) : fin .f64 (fcv .f32 .f64 (sumC c)) = true ∧ isN .f64 (ffloor (fcv .f32 .f64 (sumC c))) = false ∧ fits .f64 .f32 (ffloor (fcv .f32 .f64 (sumC c))) = true := by
  have h1 := wide_ab (sum_ab hc)
  have hb : Bd .f64 (fcv .f32 .f64 (sumC c)) (11 : Nat) := bd_of_ab h1 (by decide +kernel) (by decide) (by decide)
  exact ⟨h1.fin, (ffloor_notN (fin_notN h1.fin)).1, ((ffloor_bd hb (by decide)).fits (by decide) (by decide)).1⟩
/-- what WrapEast answers -/
def inThou (c : Nat) : Bool := fcmp .geq .f32 c 3296329728 && fcmp .leq .f32 c 1148846080
def wrapV (c : Nat) : Nat := if inThou c then wrapC c else 0
theorem thou_no {c : Nat} (h : inThou c = false) : inThou c = false ∧ wrapV c = 0 := ⟨h, by unfold wrapV; rw [h]; rfl⟩
theorem thou_yes {c : Nat} (h : inThou c = true) : inThou c = true ∧ wrapV c = wrapC c := ⟨h, by unfold wrapV; rw [h]; rfl⟩
theorem thou_ab {c : Nat} (h1 : fcmp .geq .f32 c 3296329728 = true) (h2 : fcmp .leq .f32 c 1148846080 = true) : Ab .f32 c 1148846080 :=
  between_ab (by decide +kernel) (by decide +kernel) (by decide +kernel) h1 h2
/-! ## The cosine, the root, and finite results -/
/-! ## A stretched north -/
def stretC (c : Nat) : Nat := fop .quo .f32 (logC (fop .quo .f32 (fop .add .f32 1065353216 (sineC c)) (cosC c))) 1086918619
def inNorth (c : Nat) : Bool := fcmp .gtr .f32 c 3196059648 && fcmp .lss .f32 c 1048576000
def stretOk (c : Nat) : Bool := inNorth c && fin .f32 (stretC c)
def stretV (c : Nat) : Nat := if stretOk c then stretC c else 0
theorem stret_no {c : Nat} (h : inNorth c = false) : stretOk c = false ∧ stretV c = 0 := by
  have : stretOk c = false := by unfold stretOk; rw [h]; rfl
  exact ⟨this, by unfold stretV; rw [this]; rfl⟩
theorem stret_in {c : Nat} {b : Bool} (h : inNorth c = true) (hb : fin .f32 (stretC c) = b) : stretOk c = b ∧ stretV c = if b then stretC c else 0 := by
  have : stretOk c = b := by unfold stretOk; rw [h, hb]; rfl
  exact ⟨this, by unfold stretV; rw [this]⟩
end Go.Proofs.Ytmioclcipdifpaa
