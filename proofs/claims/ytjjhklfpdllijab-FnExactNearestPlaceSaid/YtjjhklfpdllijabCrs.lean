/-
  The course between valid places, of the program and of its model; the exact law CourseTo. No condition.
-/
import Derived.Test.YtjjhklfpdllijabWay
namespace Go.Proofs.Ytjjhklfpdllijab
open Go Go.RowKit
set_option maxRecDepth 100000

abbrev flT2 (c : Nat) (b : Bool) : Value := .tuple #[.float .f32 c, .bool b]
def aboveC (c : Nat) : Nat := if fcmp .lss .f32 c 0 = true then fop .add .f32 c 1065353216 else c
theorem above_yes {c : Nat} (h : fcmp .lss .f32 c 0 = true) : aboveC c = fop .add .f32 c 1065353216 := by unfold aboveC; rw [if_pos h]
theorem above_no {c : Nat} (h : fcmp .lss .f32 c 0 = false) : aboveC c = c := by unfold aboveC; rw [if_neg (by rw [h]; decide)]
theorem above_ab {c : Nat} (h : Ab .f32 c 1056964608) : Ab .f32 (aboveC c) 1073741824 := by
  unfold aboveC; split
  · exact add_ab h (ab_self (c := 1065353216) (by decide +kernel)) (by decide +kernel) (by decide +kernel)
  · exact h.mono (by decide +kernel) (by decide +kernel)
def crsE (e1 e2 : Nat) : Nat := fop .sub .f32 e2 e1
def crsY (e1 n2 e2 : Nat) : Nat := fop .mul .f32 (sineC (crsE e1 e2)) (cosC n2)
def crsU (n1 n2 : Nat) : Nat := fop .mul .f32 (cosC n1) (sineC n2)
def crsV (n1 n2 : Nat) : Nat := fop .mul .f32 (sineC n1) (cosC n2)
def crsD (n1 e1 n2 e2 : Nat) : Nat := fop .mul .f32 (crsV n1 n2) (cosC (crsE e1 e2))
def crsX (n1 e1 n2 e2 : Nat) : Nat := fop .sub .f32 (crsU n1 n2) (crsD n1 e1 n2 e2)
def crsC (n1 e1 n2 e2 : Nat) : Nat := aboveC (angleC (crsY e1 n2 e2) (crsX n1 e1 n2 e2))
structure Crs (n1 e1 n2 e2 : Nat) : Prop where
  E : Ab .f32 (crsE e1 e2) 1065353216
  sE : Ab .f32 (sineC (crsE e1 e2)) 1073741824
  cE : Ab .f32 (cosC (crsE e1 e2)) 1073741824
  Y : Ab .f32 (crsY e1 n2 e2) 1082130432
  U : Ab .f32 (crsU n1 n2) 1082130432
  V : Ab .f32 (crsV n1 n2) 1082130432
  D : Ab .f32 (crsD n1 e1 n2 e2) 1090519040
  X : Ab .f32 (crsX n1 e1 n2 e2) 1098907648
  C : Ab .f32 (crsC n1 e1 n2 e2) 1073741824
theorem Crs.of {n1 e1 n2 e2 : Nat} (h1 : Turn n1) (h2 : Turn e1) (h3 : Turn n2) (h4 : Turn e2) : Crs n1 e1 n2 e2 := by
  have hE : Ab .f32 (crsE e1 e2) 1065353216 := sub_ab h4.ab h2.ab (by decide +kernel) (by decide +kernel)
  have hs := sine_ab hE.fin
  have hc := cos_ab (hE.mono (c := 1148846080) (by decide +kernel) (by decide +kernel))
  have hY : Ab .f32 (crsY e1 n2 e2) 1082130432 := mul_ab hs h3.cos (by decide +kernel) (by decide +kernel)
  have hU : Ab .f32 (crsU n1 n2) 1082130432 := mul_ab h1.cos h3.sine (by decide +kernel) (by decide +kernel)
  have hV : Ab .f32 (crsV n1 n2) 1082130432 := mul_ab h1.sine h3.cos (by decide +kernel) (by decide +kernel)
  have hD : Ab .f32 (crsD n1 e1 n2 e2) 1090519040 := mul_ab hV hc (by decide +kernel) (by decide +kernel)
  have hX : Ab .f32 (crsX n1 e1 n2 e2) 1098907648 := sub_ab hU hD (by decide +kernel) (by decide +kernel)
  exact ⟨hE, hs, hc, hY, hU, hV, hD, hX, above_ab (angle_ab hY.fin hX.fin).1⟩
theorem wf_sine (c : Nat) : (Lit.float .f32 (sineC c)).wf = true := by
  unfold sineC
  split
  · split
    · decide +kernel
    · exact wf_fcv _
  · decide +kernel
theorem wf_angle (y x : Nat) : (Lit.float .f32 (angleC y x)).wf = true := by
  unfold angleC
  split
  · split
    · decide +kernel
    · exact wf_fcv _
  · decide +kernel
theorem wf_above {c : Nat} (h : (Lit.float .f32 c).wf = true) : (Lit.float .f32 (aboveC c)).wf = true := by
  unfold aboveC; split
  · exact wf_fop _ _ _ _
  · exact h
theorem sine_ok {c : Nat} (h : fin .f32 (sineC c) = true) : Fl .f32 (sineC c) (sineC c) := Fl.not (fin_notN h) (wf_sine c)
end Go.Proofs.Ytjjhklfpdllijab
