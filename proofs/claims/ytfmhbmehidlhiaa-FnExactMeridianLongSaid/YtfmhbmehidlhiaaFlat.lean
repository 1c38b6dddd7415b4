/-
  FlatNorth and BackNorth, of the program and of its model, compute the same Lean functions; their exact laws. No condition.
-/
import Derived.Test.YtfmhbmehidlhiaaWr
import Derived.Test.YtfmhbmehidlhiaaSt
namespace Go.Proofs.Ytfmhbmehidlhiaa
open Go Go.RowKit
set_option maxRecDepth 100000

theorem north_ab {n : Nat} (h : isNorthC n = true) : Ab .f32 n 1048576000 := by
  unfold isNorthC at h
  rw [Bool.and_eq_true] at h
  exact between_ab (by decide +kernel) (by decide +kernel) (by decide +kernel) h.1 h.2
theorem north_thou {n : Nat} (h : isNorthC n = true) : Ab .f32 n 1148846080 := (north_ab h).mono (by decide +kernel) (by decide +kernel)
def isFlatC (f : Nat) : Bool := fcmp .geq .f32 f 0 && fcmp .leq .f32 f 1056964608
def flatOk (n f : Nat) : Bool := isNorthC n && isFlatC f
def heartC (f : Nat) : Nat := fop .mul .f32 (fop .sub .f32 1065353216 f) (fop .sub .f32 1065353216 f)
def heartV (n f : Nat) : Nat := if flatOk n f then heartC f else 0
theorem flat_ab {f : Nat} (h : isFlatC f = true) : Ab .f32 f 1056964608 := by
  unfold isFlatC at h
  rw [Bool.and_eq_true] at h
  obtain ⟨h1, h2, h3⟩ := between (by decide +kernel) (by decide +kernel) h.1 h.2
  refine ⟨le_of_val ?_, by decide +kernel⟩
  rw [← sv_abs, ← sv_abs]
  rw [sv_zero] at h2
  omega
theorem heart_ab {f : Nat} (h : isFlatC f = true) : Ab .f32 (heartC f) 1082130432 := by
  have h1 := sub_ab (c := 1073741824) (ab_self (c := 1065353216) (by decide +kernel)) (flat_ab h) (by decide +kernel) (by decide +kernel)
  exact mul_ab h1 h1 (by decide +kernel) (by decide +kernel)
theorem flat_no {n f : Nat} (h : flatOk n f = false) : flatOk n f = false ∧ heartV n f = 0 := ⟨h, by unfold heartV; rw [h]; rfl⟩
theorem flat_yes {n f : Nat} (h : flatOk n f = true) : flatOk n f = true ∧ heartV n f = heartC f := ⟨h, by unfold heartV; rw [h]; rfl⟩
theorem heartOf_any {n f a b : Nat} (h1 : Fl .f32 n a) (h2 : Fl .f32 f b) (w : World) : Calls Try.prog 55 #[.float .f32 a, .float .f32 b] w (RP .f32 (heartV n f) (flatOk n f) w) := by
  have KN := Keep.mk (isNorth_any h1)
  cases g1 : isNorthC n
  · have KI := Keep.mk (flat_no (n := n) (f := f) (by unfold flatOk; rw [g1]; rfl))
    go_enter Try.func55, Try.ntmps55
    go_wp2_with (go_at_call 67; refine (KN.out _).mono ?_; rw [g1]; rintro e w' ⟨rfl, n, rfl⟩)
    go_ret2
    rw [KI.out.1, KI.out.2]
    exact RP.any fl0 (by repeat (first | exact Drew.refl _ | refine Drew.more ?_))
  · cases g2 : fcmp .geq .f32 f 0
    · have KI := Keep.mk (flat_no (n := n) (f := f) (by unfold flatOk isFlatC; rw [g1, g2]; rfl))
      go_enter Try.func55, Try.ntmps55
      go_wp2_with (first | (go_at_call 67; refine (KN.out _).mono ?_; rw [g1]; rintro e w' ⟨rfl, n, rfl⟩) | (refine wpList_fcmp_g rfl rfl rfl rfl rfl (by first | (with_reducible assumption) | (with_reducible exact Fl.ofInt _ _) | exact Fl.not (by decide +kernel) (by decide +kernel)) (by first | (with_reducible assumption) | (with_reducible exact Fl.ofInt _ _) | exact Fl.not (by decide +kernel) (by decide +kernel)) ?_; simp only [Act.put, List.setIfInBounds_toArray, List.set_cons_succ, List.set_cons_zero, g2]))
      go_ret2
      rw [KI.out.1, KI.out.2]
      exact RP.any fl0 (by repeat (first | exact Drew.refl _ | refine Drew.more ?_))
    · cases g3 : fcmp .leq .f32 f 1056964608
      · have KI := Keep.mk (flat_no (n := n) (f := f) (by unfold flatOk isFlatC; rw [g1, g2, g3]; rfl))
        go_enter Try.func55, Try.ntmps55
        go_wp2_with (first | (go_at_call 67; refine (KN.out _).mono ?_; rw [g1]; rintro e w' ⟨rfl, n, rfl⟩) | (refine wpList_fcmp_g rfl rfl rfl rfl rfl (by first | (with_reducible assumption) | (with_reducible exact Fl.ofInt _ _) | exact Fl.not (by decide +kernel) (by decide +kernel)) (by first | (with_reducible assumption) | (with_reducible exact Fl.ofInt _ _) | exact Fl.not (by decide +kernel) (by decide +kernel)) ?_; simp only [Act.put, List.setIfInBounds_toArray, List.set_cons_succ, List.set_cons_zero, g2, g3]))
        go_ret2
        rw [KI.out.1, KI.out.2]
        exact RP.any fl0 (by repeat (first | exact Drew.refl _ | refine Drew.more ?_))
      · have KI := Keep.mk (flat_yes (n := n) (f := f) (by unfold flatOk isFlatC; rw [g1, g2, g3]; rfl))
        go_enter Try.func55, Try.ntmps55
        go_wp2_with (first | (go_at_call 67; refine (KN.out _).mono ?_; rw [g1]; rintro e w' ⟨rfl, n, rfl⟩) | (refine wpList_fcmp_g rfl rfl rfl rfl rfl (by first | (with_reducible assumption) | (with_reducible exact Fl.ofInt _ _) | exact Fl.not (by decide +kernel) (by decide +kernel)) (by first | (with_reducible assumption) | (with_reducible exact Fl.ofInt _ _) | exact Fl.not (by decide +kernel) (by decide +kernel)) ?_; simp only [Act.put, List.setIfInBounds_toArray, List.set_cons_succ, List.set_cons_zero, g2, g3]) | (refine wpList_fop rfl rfl rfl rfl rfl (by first | (with_reducible assumption) | (with_reducible exact Fl.ofInt _ _) | exact Fl.not (by decide +kernel) (by decide +kernel)) (by first | (with_reducible assumption) | (with_reducible exact Fl.ofInt _ _) | exact Fl.not (by decide +kernel) (by decide +kernel)) ?_; intro r n hr; simp only [Act.put, List.setIfInBounds_toArray, List.set_cons_succ, List.set_cons_zero]))
        go_ret2
        rw [KI.out.1, KI.out.2]
        exact RP.any hr (by repeat (first | exact Drew.refl _ | refine Drew.more ?_))
theorem l02Flat_any {n f a b : Nat} (h1 : Fl .f32 n a) (h2 : Fl .f32 f b) (w : World) : Calls Try.prog 51 #[.float .f32 a, .float .f32 b] w (RB (flatOk n f) w) := by
  cases g1 : fcmp .geq .f32 n 3196059648
  · have KV := Keep.mk (show flatOk n f = false by unfold flatOk isNorthC; rw [g1]; rfl)
    go_enter Try.func51, Try.ntmps51
    go_wp2_with (first | (refine wpList_fcmp rfl rfl rfl rfl rfl (by first | (with_reducible assumption) | (with_reducible exact Fl.ofInt _ _) | exact Fl.not (by decide +kernel) (by decide +kernel)) (by first | (with_reducible assumption) | (with_reducible exact Fl.ofInt _ _) | exact Fl.not (by decide +kernel) (by decide +kernel)) ?_; simp only [Act.put, List.setIfInBounds_toArray, List.set_cons_succ, List.set_cons_zero, g1]))
    go_ret
    rw [KV.out]
    exact RB.any rfl (by repeat (first | exact Drew.refl _ | refine Drew.more ?_))
  · cases g2 : fcmp .leq .f32 n 1048576000
    · have KV := Keep.mk (show flatOk n f = false by unfold flatOk isNorthC; rw [g1, g2]; rfl)
      go_enter Try.func51, Try.ntmps51
      go_wp2_with (first | (refine wpList_fcmp rfl rfl rfl rfl rfl (by first | (with_reducible assumption) | (with_reducible exact Fl.ofInt _ _) | exact Fl.not (by decide +kernel) (by decide +kernel)) (by first | (with_reducible assumption) | (with_reducible exact Fl.ofInt _ _) | exact Fl.not (by decide +kernel) (by decide +kernel)) ?_; simp only [Act.put, List.setIfInBounds_toArray, List.set_cons_succ, List.set_cons_zero, g1]) | (refine wpList_fcmp_g rfl rfl rfl rfl rfl (by first | (with_reducible assumption) | (with_reducible exact Fl.ofInt _ _) | exact Fl.not (by decide +kernel) (by decide +kernel)) (by first | (with_reducible assumption) | (with_reducible exact Fl.ofInt _ _) | exact Fl.not (by decide +kernel) (by decide +kernel)) ?_; simp only [Act.put, List.setIfInBounds_toArray, List.set_cons_succ, List.set_cons_zero, g2]))
      go_ret
      rw [KV.out]
      exact RB.any rfl (by repeat (first | exact Drew.refl _ | refine Drew.more ?_))
    · cases g3 : fcmp .geq .f32 f 0
      · have KV := Keep.mk (show flatOk n f = false by unfold flatOk isNorthC isFlatC; rw [g1, g2, g3]; rfl)
        go_enter Try.func51, Try.ntmps51
        go_wp2_with (first | (refine wpList_fcmp rfl rfl rfl rfl rfl (by first | (with_reducible assumption) | (with_reducible exact Fl.ofInt _ _) | exact Fl.not (by decide +kernel) (by decide +kernel)) (by first | (with_reducible assumption) | (with_reducible exact Fl.ofInt _ _) | exact Fl.not (by decide +kernel) (by decide +kernel)) ?_; simp only [Act.put, List.setIfInBounds_toArray, List.set_cons_succ, List.set_cons_zero, g1]) | (refine wpList_fcmp_g rfl rfl rfl rfl rfl (by first | (with_reducible assumption) | (with_reducible exact Fl.ofInt _ _) | exact Fl.not (by decide +kernel) (by decide +kernel)) (by first | (with_reducible assumption) | (with_reducible exact Fl.ofInt _ _) | exact Fl.not (by decide +kernel) (by decide +kernel)) ?_; simp only [Act.put, List.setIfInBounds_toArray, List.set_cons_succ, List.set_cons_zero, g2, g3]))
        go_ret
        rw [KV.out]
        exact RB.any rfl (by repeat (first | exact Drew.refl _ | refine Drew.more ?_))
      · have KV := Keep.mk (show flatOk n f = fcmp .leq .f32 f 1056964608 by unfold flatOk isNorthC isFlatC; rw [g1, g2, g3]; rfl)
        go_enter Try.func51, Try.ntmps51
        go_wp2_with (first | (refine wpList_fcmp rfl rfl rfl rfl rfl (by first | (with_reducible assumption) | (with_reducible exact Fl.ofInt _ _) | exact Fl.not (by decide +kernel) (by decide +kernel)) (by first | (with_reducible assumption) | (with_reducible exact Fl.ofInt _ _) | exact Fl.not (by decide +kernel) (by decide +kernel)) ?_; simp only [Act.put, List.setIfInBounds_toArray, List.set_cons_succ, List.set_cons_zero, g1]) | (refine wpList_fcmp_g rfl rfl rfl rfl rfl (by first | (with_reducible assumption) | (with_reducible exact Fl.ofInt _ _) | exact Fl.not (by decide +kernel) (by decide +kernel)) (by first | (with_reducible assumption) | (with_reducible exact Fl.ofInt _ _) | exact Fl.not (by decide +kernel) (by decide +kernel)) ?_; simp only [Act.put, List.setIfInBounds_toArray, List.set_cons_succ, List.set_cons_zero, g2, g3]))
        go_ret
        rw [KV.out]
        exact RB.any rfl (by repeat (first | exact Drew.refl _ | refine Drew.more ?_))
theorem l02Heart_any {f b : Nat} (h2 : Fl .f32 f b) (w : World) : Calls Try.prog 53 #[.float .f32 b] w (RF .f32 (heartC f) w) := by
  go_enter Try.func53, Try.ntmps53
  go_wp2_with (first | (refine wpList_fop rfl rfl rfl rfl rfl (by first | (with_reducible assumption) | (with_reducible exact Fl.ofInt _ _) | exact Fl.not (by decide +kernel) (by decide +kernel)) (by first | (with_reducible assumption) | (with_reducible exact Fl.ofInt _ _) | exact Fl.not (by decide +kernel) (by decide +kernel)) ?_; intro r n hr; simp only [Act.put, List.setIfInBounds_toArray, List.set_cons_succ, List.set_cons_zero]))
  go_ret
  exact RF.any hr (by repeat (first | exact Drew.refl _ | refine Drew.more ?_))
def flatC (n f : Nat) : Nat := angleC (fop .mul .f32 (heartC f) (sineC n)) (cosC n)
def backC (n f : Nat) : Nat := angleC (sineC n) (fop .mul .f32 (heartC f) (cosC n))
theorem flatC_fin {n f : Nat} (h : flatOk n f = true) : fin .f32 (flatC n f) = true ∧ fin .f32 (backC n f) = true := by
  unfold flatOk at h
  rw [Bool.and_eq_true] at h
  have hs := sine_ab (north_ab h.1).fin
  have hc := cos_ab (north_thou h.1)
  have hh := heart_ab h.2
  have m1 := mul_ab (c := 1090519040) hh hs (by decide +kernel) (by decide +kernel)
  have m2 := mul_ab (c := 1090519040) hh hc (by decide +kernel) (by decide +kernel)
  exact ⟨(angle_ab m1.fin hc.fin).1.fin, (angle_ab hs.fin m2.fin).1.fin⟩
end Go.Proofs.Ytfmhbmehidlhiaa
