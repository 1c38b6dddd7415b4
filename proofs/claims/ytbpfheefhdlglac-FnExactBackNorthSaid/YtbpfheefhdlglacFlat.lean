/-
  FlatNorth and BackNorth, of the program and of its model, compute the same Lean functions; their exact laws. No condition.
-/
import Derived.Test.YtbpfheefhdlglacWr
import Derived.Test.YtbpfheefhdlglacSt
namespace Go.Proofs.Ytbpfheefhdlglac
open Go Go.RowKit
set_option maxRecDepth 100000

theorem ab_self {k : FloatKind} {c : Nat} (h : fin k c = true) : Ab k c c := ⟨Nat.le_refl _, h⟩
theorem north_ab {n : Nat} (h : isNorthC n = true) : Ab .f32 n 1048576000 := by
  unfold isNorthC at h
  rw [Bool.and_eq_true] at h
  exact between_ab (by decide +kernel) (by decide +kernel) (by decide +kernel) h.1 h.2
theorem north_thou {n : Nat} (h : isNorthC n = true) : Ab .f32 n 1148846080 := (north_ab h).mono (by decide +kernel) (by decide +kernel)
def isFlatC (f : Nat) : Bool := fcmp .geq .f32 f 0 && fcmp .leq .f32 f 1056964608
def flatOk (n f : Nat) : Bool := isNorthC n && isFlatC f
def heartC (f : Nat) : Nat := fop .mul .f32 (fop .sub .f32 1065353216 f) (fop .sub .f32 1065353216 f)
def heartV (n f : Nat) : Nat := if flatOk n f then heartC f else 0
theorem flat_ab {f : Nat} (h : isFlatC f = true) : Ab .f32 f 1056964608 := by
  unfold isFlatC at h
  rw [Bool.and_eq_true] at h
  obtain ⟨h1, h2, h3⟩ := between (by decide +kernel) (by decide +kernel) h.1 h.2
  refine ⟨le_of_val ?_, by decide +kernel⟩
  rw [← sv_abs, ← sv_abs]
  rw [sv_zero] at h2
  omega
theorem heart_ab {f : Nat} (h : isFlatC f = true) : Ab .f32 (heartC f) 1082130432 := by
  have h1 := sub_ab (c := 1073741824) (ab_self (c := 1065353216) (by decide +kernel)) (flat_ab h) (by decide +kernel) (by decide +kernel)
  exact mul_ab h1 h1 (by decide +kernel) (by decide +kernel)
theorem flat_no {n f : Nat} (h : flatOk n f = false) : flatOk n f = false ∧ heartV n f = 0 := ⟨h, by unfold heartV; rw [h]; rfl⟩
theorem flat_yes {n f : Nat} (h : flatOk n f = true) : flatOk n f = true ∧ heartV n f = heartC f := ⟨h, by unfold heartV; rw [h]; rfl⟩
theorem heartOf_any {n f a b : Nat} (h1 : Fl .f32 n a) (h2 : Fl .f32 f b) (w : World) : Calls Try.prog 75 #[.float .f32 a, .float .f32 b] w (RP .f32 (heartV n f) (flatOk n f) w) := by
  have KN := Keep.mk (isNorth_any h1)
  cases g1 : isNorthC n
  · have KI := Keep.mk (flat_no (n := n) (f := f) (by unfold flatOk; rw [g1]; rfl))
    go_enter Try.func75, Try.ntmps75
    go_wp2_with (go_at_call 86; refine (KN.out _).mono ?_; rw [g1]; rintro e w' ⟨rfl, n, rfl⟩)
    go_ret2
    rw [KI.out.1, KI.out.2]
    exact RP.any fl0 (by repeat (first | exact Drew.refl _ | refine Drew.more ?_))
  · cases g2 : fcmp .geq .f32 f 0
    · have KI := Keep.mk (flat_no (n := n) (f := f) (by unfold flatOk isFlatC; rw [g1, g2]; rfl))
      go_enter Try.func75, Try.ntmps75
      go_wp2_with (first | (go_at_call 86; refine (KN.out _).mono ?_; rw [g1]; rintro e w' ⟨rfl, n, rfl⟩) | (refine wpList_fcmp_g rfl rfl rfl rfl rfl (by first | (with_reducible assumption) | (with_reducible exact Fl.ofInt _ _) | exact Fl.not (by decide +kernel) (by decide +kernel)) (by first | (with_reducible assumption) | (with_reducible exact Fl.ofInt _ _) | exact Fl.not (by decide +kernel) (by decide +kernel)) ?_; simp only [Act.put, List.setIfInBounds_toArray, List.set_cons_succ, List.set_cons_zero, g2]))
      go_ret2
      rw [KI.out.1, KI.out.2]
      exact RP.any fl0 (by repeat (first | exact Drew.refl _ | refine Drew.more ?_))
    · cases g3 : fcmp .leq .f32 f 1056964608
      · have KI := Keep.mk (flat_no (n := n) (f := f) (by unfold flatOk isFlatC; rw [g1, g2, g3]; rfl))
        go_enter Try.func75, Try.ntmps75
        go_wp2_with (first | (go_at_call 86; refine (KN.out _).mono ?_; rw [g1]; rintro e w' ⟨rfl, n, rfl⟩) | (refine wpList_fcmp_g rfl rfl rfl rfl rfl (by first | (with_reducible assumption) | (with_reducible exact Fl.ofInt _ _) | exact Fl.not (by decide +kernel) (by decide +kernel)) (by first | (with_reducible assumption) | (with_reducible exact Fl.ofInt _ _) | exact Fl.not (by decide +kernel) (by decide +kernel)) ?_; simp only [Act.put, List.setIfInBounds_toArray, List.set_cons_succ, List.set_cons_zero, g2, g3]))
        go_ret2
        rw [KI.out.1, KI.out.2]
        exact RP.any fl0 (by repeat (first | exact Drew.refl _ | refine Drew.more ?_))
      · have KI := Keep.mk (flat_yes (n := n) (f := f) (by unfold flatOk isFlatC; rw [g1, g2, g3]; rfl))
        go_enter Try.func75, Try.ntmps75
        go_wp2_with (first | (go_at_call 86; refine (KN.out _).mono ?_; rw [g1]; rintro e w' ⟨rfl, n, rfl⟩) | (refine wpList_fcmp_g rfl rfl rfl rfl rfl (by first | (with_reducible assumption) | (with_reducible exact Fl.ofInt _ _) | exact Fl.not (by decide +kernel) (by decide +kernel)) (by first | (with_reducible assumption) | (with_reducible exact Fl.ofInt _ _) | exact Fl.not (by decide +kernel) (by decide +kernel)) ?_; simp only [Act.put, List.setIfInBounds_toArray, List.set_cons_succ, List.set_cons_zero, g2, g3]) | (refine wpList_fop rfl rfl rfl rfl rfl (by first | (with_reducible assumption) | (with_reducible exact Fl.ofInt _ _) | exact Fl.not (by decide +kernel) (by decide +kernel)) (by first | (with_reducible assumption) | (with_reducible exact Fl.ofInt _ _) | exact Fl.not (by decide +kernel) (by decide +kernel)) ?_; intro r n hr; simp only [Act.put, List.setIfInBounds_toArray, List.set_cons_succ, List.set_cons_zero]))
        go_ret2
        rw [KI.out.1, KI.out.2]
        exact RP.any hr (by repeat (first | exact Drew.refl _ | refine Drew.more ?_))
theorem l02Flat_any {n f a b : Nat} (h1 : Fl .f32 n a) (h2 : Fl .f32 f b) (w : World) : Calls Try.prog 72 #[.float .f32 a, .float .f32 b] w (RB (flatOk n f) w) := by
  cases g1 : fcmp .geq .f32 n 3196059648
  · have KV := Keep.mk (show flatOk n f = false by unfold flatOk isNorthC; rw [g1]; rfl)
    go_enter Try.func72, Try.ntmps72
    go_wp2_with (first | (refine wpList_fcmp rfl rfl rfl rfl rfl (by first | (with_reducible assumption) | (with_reducible exact Fl.ofInt _ _) | exact Fl.not (by decide +kernel) (by decide +kernel)) (by first | (with_reducible assumption) | (with_reducible exact Fl.ofInt _ _) | exact Fl.not (by decide +kernel) (by decide +kernel)) ?_; simp only [Act.put, List.setIfInBounds_toArray, List.set_cons_succ, List.set_cons_zero, g1]))
    go_ret
    rw [KV.out]
    exact RB.any rfl (by repeat (first | exact Drew.refl _ | refine Drew.more ?_))
  · cases g2 : fcmp .leq .f32 n 1048576000
    · have KV := Keep.mk (show flatOk n f = false by unfold flatOk isNorthC; rw [g1, g2]; rfl)
      go_enter Try.func72, Try.ntmps72
      go_wp2_with (first | (refine wpList_fcmp rfl rfl rfl rfl rfl (by first | (with_reducible assumption) | (with_reducible exact Fl.ofInt _ _) | exact Fl.not (by decide +kernel) (by decide +kernel)) (by first | (with_reducible assumption) | (with_reducible exact Fl.ofInt _ _) | exact Fl.not (by decide +kernel) (by decide +kernel)) ?_; simp only [Act.put, List.setIfInBounds_toArray, List.set_cons_succ, List.set_cons_zero, g1]) | (refine wpList_fcmp_g rfl rfl rfl rfl rfl (by first | (with_reducible assumption) | (with_reducible exact Fl.ofInt _ _) | exact Fl.not (by decide +kernel) (by decide +kernel)) (by first | (with_reducible assumption) | (with_reducible exact Fl.ofInt _ _) | exact Fl.not (by decide +kernel) (by decide +kernel)) ?_; simp only [Act.put, List.setIfInBounds_toArray, List.set_cons_succ, List.set_cons_zero, g2]))
      go_ret
      rw [KV.out]
      exact RB.any rfl (by repeat (first | exact Drew.refl _ | refine Drew.more ?_))
    · cases g3 : fcmp .geq .f32 f 0
      · have KV := Keep.mk (show flatOk n f = false by unfold flatOk isNorthC isFlatC; rw [g1, g2, g3]; rfl)
        go_enter Try.func72, Try.ntmps72
        go_wp2_with (first | (refine wpList_fcmp rfl rfl rfl rfl rfl (by first | (with_reducible assumption) | (with_reducible exact Fl.ofInt _ _) | exact Fl.not (by decide +kernel) (by decide +kernel)) (by first | (with_reducible assumption) | (with_reducible exact Fl.ofInt _ _) | exact Fl.not (by decide +kernel) (by decide +kernel)) ?_; simp only [Act.put, List.setIfInBounds_toArray, List.set_cons_succ, List.set_cons_zero, g1]) | (refine wpList_fcmp_g rfl rfl rfl rfl rfl (by first | (with_reducible assumption) | (with_reducible exact Fl.ofInt _ _) | exact Fl.not (by decide +kernel) (by decide +kernel)) (by first | (with_reducible assumption) | (with_reducible exact Fl.ofInt _ _) | exact Fl.not (by decide +kernel) (by decide +kernel)) ?_; simp only [Act.put, List.setIfInBounds_toArray, List.set_cons_succ, List.set_cons_zero, g2, g3]))
        go_ret
        rw [KV.out]
        exact RB.any rfl (by repeat (first | exact Drew.refl _ | refine Drew.more ?_))
      · have KV := Keep.mk (show flatOk n f = fcmp .leq .f32 f 1056964608 by unfold flatOk isNorthC isFlatC; rw [g1, g2, g3]; rfl)
        go_enter Try.func72, Try.ntmps72
        go_wp2_with (first | (refine wpList_fcmp rfl rfl rfl rfl rfl (by first | (with_reducible assumption) | (with_reducible exact Fl.ofInt _ _) | exact Fl.not (by decide +kernel) (by decide +kernel)) (by first | (with_reducible assumption) | (with_reducible exact Fl.ofInt _ _) | exact Fl.not (by decide +kernel) (by decide +kernel)) ?_; simp only [Act.put, List.setIfInBounds_toArray, List.set_cons_succ, List.set_cons_zero, g1]) | (refine wpList_fcmp_g rfl rfl rfl rfl rfl (by first | (with_reducible assumption) | (with_reducible exact Fl.ofInt _ _) | exact Fl.not (by decide +kernel) (by decide +kernel)) (by first | (with_reducible assumption) | (with_reducible exact Fl.ofInt _ _) | exact Fl.not (by decide +kernel) (by decide +kernel)) ?_; simp only [Act.put, List.setIfInBounds_toArray, List.set_cons_succ, List.set_cons_zero, g2, g3]))
        go_ret
        rw [KV.out]
        exact RB.any rfl (by repeat (first | exact Drew.refl _ | refine Drew.more ?_))
theorem l02Heart_any {f b : Nat} (h2 : Fl .f32 f b) (w : World) : Calls Try.prog 73 #[.float .f32 b] w (RF .f32 (heartC f) w) := by
  go_enter Try.func73, Try.ntmps73
  go_wp2_with (first | (refine wpList_fop rfl rfl rfl rfl rfl (by first | (with_reducible assumption) | (with_reducible exact Fl.ofInt _ _) | exact Fl.not (by decide +kernel) (by decide +kernel)) (by first | (with_reducible assumption) | (with_reducible exact Fl.ofInt _ _) | exact Fl.not (by decide +kernel) (by decide +kernel)) ?_; intro r n hr; simp only [Act.put, List.setIfInBounds_toArray, List.set_cons_succ, List.set_cons_zero]))
  go_ret
  exact RF.any hr (by repeat (first | exact Drew.refl _ | refine Drew.more ?_))
def flatC (n f : Nat) : Nat := angleC (fop .mul .f32 (heartC f) (sineC n)) (cosC n)
def backC (n f : Nat) : Nat := angleC (sineC n) (fop .mul .f32 (heartC f) (cosC n))
theorem flatC_fin {n f : Nat} (h : flatOk n f = true) : fin .f32 (flatC n f) = true ∧ fin .f32 (backC n f) = true := by
  unfold flatOk at h
  rw [Bool.and_eq_true] at h
  have hs := sine_ab (north_ab h.1).fin
  have hc := cos_ab (north_thou h.1)
  have hh := heart_ab h.2
  have m1 := mul_ab (c := 1090519040) hh hs (by decide +kernel) (by decide +kernel)
  have m2 := mul_ab (c := 1090519040) hh hc (by decide +kernel) (by decide +kernel)
  exact ⟨(angle_ab m1.fin hc.fin).1.fin, (angle_ab hs.fin m2.fin).1.fin⟩
theorem iFlat_yes {n f a b : Nat} (h1 : Fl .f32 n a) (h2 : Fl .f32 f b) (h : flatOk n f = true) (w : World) : Calls Try.prog 37 #[.float .f32 a, .float .f32 b] w (RP .f32 (flatC n f) true w) := by
  have KH := heartOf_any h1 h2
  rw [(flat_yes h).1, (flat_yes h).2] at KH
  have K := Keep.mk KH
  clear h KH
  go_enter Try.func37, Try.ntmps37
  go_wp2_with (first | (go_at_call 75; refine (K.out _).mono ?_; rintro e w' ⟨r, n, rfl, hr, rfl⟩) | (go_at_call 57; refine (iSineTurns_any h1 _).mono ?_; rintro e w' ⟨r, n, rfl, hr, rfl⟩) | (go_at_call 58; refine (cosineTurns_any h1 _).mono ?_; rintro e w' ⟨r, n, rfl, hr, rfl⟩) | (refine wpList_fop rfl rfl rfl rfl rfl (by first | (with_reducible assumption) | (with_reducible exact Fl.ofInt _ _) | exact Fl.not (by decide +kernel) (by decide +kernel)) (by first | (with_reducible assumption) | (with_reducible exact Fl.ofInt _ _) | exact Fl.not (by decide +kernel) (by decide +kernel)) ?_; intro r n hr; simp only [Act.put, List.setIfInBounds_toArray, List.set_cons_succ, List.set_cons_zero]) | (go_at_call 76; refine (iAngleTurns_any (by assumption) (by assumption) _).mono ?_; rintro e w' ⟨r, n, rfl, hr, rfl⟩))
  go_ret2
  exact RP.any hr (by repeat (first | exact Drew.refl _ | refine Drew.more ?_))
theorem iFlat_no {n f a b : Nat} (h1 : Fl .f32 n a) (h2 : Fl .f32 f b) (h : flatOk n f = false) (w : World) : Calls Try.prog 37 #[.float .f32 a, .float .f32 b] w (RP .f32 0 false w) := by
  have KH := heartOf_any h1 h2
  rw [(flat_no h).1, (flat_no h).2] at KH
  have K := Keep.mk KH
  clear h KH
  go_enter Try.func37, Try.ntmps37
  go_wp2_with (first | (go_at_call 75; refine (K.out _).mono ?_; rintro e w' ⟨r, n, rfl, hr, rfl⟩))
  go_ret2
  exact RP.any fl0 (by repeat (first | exact Drew.refl _ | refine Drew.more ?_))
theorem sFlat_yes {n f a b : Nat} (h1 : Fl .f32 n a) (h2 : Fl .f32 f b) (h : flatOk n f = true) (w : World) : Calls Try.prog 36 #[.float .f32 a, .float .f32 b] w (RP .f32 (flatC n f) true w) := by
  have KH := l02Flat_any h1 h2
  rw [h] at KH
  have K := Keep.mk KH
  have KF := Keep.mk (flatC_fin h).1
  clear h KH
  go_enter Try.func36, Try.ntmps36
  go_wp2_with (first | (go_at_call 72; refine (K.out _).mono ?_; rintro e w' ⟨rfl, n, rfl⟩) | (go_at_call 73; refine (l02Heart_any h2 _).mono ?_; rintro e w' ⟨r, n, rfl, hr, rfl⟩) | (go_at_call 74; refine (l01Sine_any h1 _).mono ?_; rintro e w' ⟨r, n, rfl, hr, rfl⟩) | (go_at_call 66; refine (l02Cosine_any h1 _).mono ?_; rintro e w' ⟨r, n, rfl, hr, rfl⟩) | (refine wpList_fop rfl rfl rfl rfl rfl (by first | (with_reducible assumption) | (with_reducible exact Fl.ofInt _ _) | exact Fl.not (by decide +kernel) (by decide +kernel)) (by first | (with_reducible assumption) | (with_reducible exact Fl.ofInt _ _) | exact Fl.not (by decide +kernel) (by decide +kernel)) ?_; intro r n hr; simp only [Act.put, List.setIfInBounds_toArray, List.set_cons_succ, List.set_cons_zero]) | (go_at_call 62; refine (l01Angle_any (by assumption) (by assumption) _).mono ?_; rintro e w' ⟨r, n, rfl, hr, rfl⟩) | (go_at_call 60; refine (l02Number_yes hr KF.out _).mono ?_; rintro e w' ⟨r, n, rfl, hr, rfl⟩))
  go_ret2
  exact RP.any hr (by repeat (first | exact Drew.refl _ | refine Drew.more ?_))
theorem sFlat_no {n f a b : Nat} (h1 : Fl .f32 n a) (h2 : Fl .f32 f b) (h : flatOk n f = false) (w : World) : Calls Try.prog 36 #[.float .f32 a, .float .f32 b] w (RP .f32 0 false w) := by
  have KH := l02Flat_any h1 h2
  rw [h] at KH
  have K := Keep.mk KH
  clear h KH
  go_enter Try.func36, Try.ntmps36
  go_wp2_with (first | (go_at_call 72; refine (K.out _).mono ?_; rintro e w' ⟨rfl, n, rfl⟩))
  go_ret2
  exact RP.any fl0 (by repeat (first | exact Drew.refl _ | refine Drew.more ?_))
theorem iBack_yes {n f a b : Nat} (h1 : Fl .f32 n a) (h2 : Fl .f32 f b) (h : flatOk n f = true) (w : World) : Calls Try.prog 39 #[.float .f32 a, .float .f32 b] w (RP .f32 (backC n f) true w) := by
  have KH := heartOf_any h1 h2
  rw [(flat_yes h).1, (flat_yes h).2] at KH
  have K := Keep.mk KH
  clear h KH
  go_enter Try.func39, Try.ntmps39
  have tk_a : True := trivial
  go_wp2_with (first | (go_at_call 75; refine (K.out _).mono ?_; rintro e w' ⟨r, n, rfl, hr, rfl⟩) | (go_at_call 57; refine (iSineTurns_any h1 _).mono ?_; rintro e w' ⟨rs, n, rfl, hrs, rfl⟩) | (go_at_call 58; refine (cosineTurns_any h1 _).mono ?_; rintro e w' ⟨r, n, rfl, hr, rfl⟩) | (refine wpList_fop rfl rfl rfl rfl rfl (by first | (with_reducible assumption) | (with_reducible exact Fl.ofInt _ _) | exact Fl.not (by decide +kernel) (by decide +kernel)) (by first | (with_reducible assumption) | (with_reducible exact Fl.ofInt _ _) | exact Fl.not (by decide +kernel) (by decide +kernel)) ?_; intro r n hr; simp only [Act.put, List.setIfInBounds_toArray, List.set_cons_succ, List.set_cons_zero]) | (go_at_call 76; refine (iAngleTurns_any hrs hr _).mono ?_; rintro e w' ⟨r, n, rfl, hr, rfl⟩))
  go_ret2
  exact RP.any hr (by repeat (first | exact Drew.refl _ | refine Drew.more ?_))
theorem iBack_no {n f a b : Nat} (h1 : Fl .f32 n a) (h2 : Fl .f32 f b) (h : flatOk n f = false) (w : World) : Calls Try.prog 39 #[.float .f32 a, .float .f32 b] w (RP .f32 0 false w) := by
  have KH := heartOf_any h1 h2
  rw [(flat_no h).1, (flat_no h).2] at KH
  have K := Keep.mk KH
  clear h KH
  go_enter Try.func39, Try.ntmps39
  go_wp2_with (first | (go_at_call 75; refine (K.out _).mono ?_; rintro e w' ⟨r, n, rfl, hr, rfl⟩))
  go_ret2
  exact RP.any fl0 (by repeat (first | exact Drew.refl _ | refine Drew.more ?_))
theorem sBack_yes {n f a b : Nat} (h1 : Fl .f32 n a) (h2 : Fl .f32 f b) (h : flatOk n f = true) (w : World) : Calls Try.prog 38 #[.float .f32 a, .float .f32 b] w (RP .f32 (backC n f) true w) := by
  have KH := l02Flat_any h1 h2
  rw [h] at KH
  have K := Keep.mk KH
  have KF := Keep.mk (flatC_fin h).2
  clear h KH
  go_enter Try.func38, Try.ntmps38
  go_wp2_with (first | (go_at_call 72; refine (K.out _).mono ?_; rintro e w' ⟨rfl, n, rfl⟩) | (go_at_call 73; refine (l02Heart_any h2 _).mono ?_; rintro e w' ⟨r, n, rfl, hr, rfl⟩) | (go_at_call 74; refine (l01Sine_any h1 _).mono ?_; rintro e w' ⟨rs, n, rfl, hrs, rfl⟩) | (go_at_call 66; refine (l02Cosine_any h1 _).mono ?_; rintro e w' ⟨r, n, rfl, hr, rfl⟩) | (refine wpList_fop rfl rfl rfl rfl rfl (by first | (with_reducible assumption) | (with_reducible exact Fl.ofInt _ _) | exact Fl.not (by decide +kernel) (by decide +kernel)) (by first | (with_reducible assumption) | (with_reducible exact Fl.ofInt _ _) | exact Fl.not (by decide +kernel) (by decide +kernel)) ?_; intro r n hr; simp only [Act.put, List.setIfInBounds_toArray, List.set_cons_succ, List.set_cons_zero]) | (go_at_call 62; refine (l01Angle_any hrs hr _).mono ?_; rintro e w' ⟨r, n, rfl, hr, rfl⟩) | (go_at_call 60; refine (l02Number_yes hr KF.out _).mono ?_; rintro e w' ⟨r, n, rfl, hr, rfl⟩))
  go_ret2
  exact RP.any hr (by repeat (first | exact Drew.refl _ | refine Drew.more ?_))
theorem sBack_no {n f a b : Nat} (h1 : Fl .f32 n a) (h2 : Fl .f32 f b) (h : flatOk n f = false) (w : World) : Calls Try.prog 38 #[.float .f32 a, .float .f32 b] w (RP .f32 0 false w) := by
  have KH := l02Flat_any h1 h2
  rw [h] at KH
  have K := Keep.mk KH
  clear h KH
  go_enter Try.func38, Try.ntmps38
  go_wp2_with (first | (go_at_call 72; refine (K.out _).mono ?_; rintro e w' ⟨rfl, n, rfl⟩))
  go_ret2
  exact RP.any fl0 (by repeat (first | exact Drew.refl _ | refine Drew.more ?_))
theorem law_FlatNorth {a b : Nat} (wa : (Lit.float .f32 a).wf = true) (wb : (Lit.float .f32 b).wf = true) (w : World) : Calls Try.prog 11 #[.float .f32 a, .float .f32 b] w (RB true w) := by
  have h1 := Fl.own wa
  have h2 := Fl.own wb
  cases h : flatOk (nrm .f32 a) (nrm .f32 b)
  · have KS := Keep.mk (sFlat_no h1 h2 h)
    have KG := Keep.mk (iFlat_no h1 h2 h)
    clear h
    go_enter Try.func11, Try.ntmps11
    go_wp2_with (first | (go_at_call 36; refine (KS.out _).mono ?_; rintro e w' ⟨r, n, rfl, hr, rfl⟩) | (go_at_call 37; refine (KG.out _).mono ?_; rintro e w' ⟨r, n, rfl, hr, rfl⟩) | (refine wpList_fcv rfl rfl rfl (by kernel_rfl) Try.underlying41 (by decide) (by first | (with_reducible assumption) | (with_reducible exact Fl.ofInt _ _) | exact Fl.not (by decide +kernel) (by decide +kernel)) (fits_wide _) ?_; intro r n hr; simp only [Act.put, List.setIfInBounds_toArray, List.set_cons_succ, List.set_cons_zero]) | (go_at_call 25; refine (sameFloat_any (by assumption) (by assumption) _).mono ?_; rintro e w' ⟨rfl, n, rfl⟩))
    go_ret
    exact RB.any rfl (by repeat (first | exact Drew.refl _ | refine Drew.more ?_))
  · have KS := Keep.mk (sFlat_yes h1 h2 h)
    have KG := Keep.mk (iFlat_yes h1 h2 h)
    clear h
    go_enter Try.func11, Try.ntmps11
    go_wp2_with (first | (go_at_call 36; refine (KS.out _).mono ?_; rintro e w' ⟨r, n, rfl, hr, rfl⟩) | (go_at_call 37; refine (KG.out _).mono ?_; rintro e w' ⟨r, n, rfl, hr, rfl⟩) | (refine wpList_fcv rfl rfl rfl (by kernel_rfl) Try.underlying41 (by decide) (by first | (with_reducible assumption) | (with_reducible exact Fl.ofInt _ _) | exact Fl.not (by decide +kernel) (by decide +kernel)) (fits_wide _) ?_; intro r n hr; simp only [Act.put, List.setIfInBounds_toArray, List.set_cons_succ, List.set_cons_zero]) | (go_at_call 25; refine (sameFloat_any (by assumption) (by assumption) _).mono ?_; rintro e w' ⟨rfl, n, rfl⟩))
    go_ret
    exact RB.any rfl (by repeat (first | exact Drew.refl _ | refine Drew.more ?_))
theorem law_BackNorth {a b : Nat} (wa : (Lit.float .f32 a).wf = true) (wb : (Lit.float .f32 b).wf = true) (w : World) : Calls Try.prog 12 #[.float .f32 a, .float .f32 b] w (RB true w) := by
  have h1 := Fl.own wa
  have h2 := Fl.own wb
  cases h : flatOk (nrm .f32 a) (nrm .f32 b)
  · have KS := Keep.mk (sBack_no h1 h2 h)
    have KG := Keep.mk (iBack_no h1 h2 h)
    clear h
    go_enter Try.func12, Try.ntmps12
    go_wp2_with (first | (go_at_call 38; refine (KS.out _).mono ?_; rintro e w' ⟨r, n, rfl, hr, rfl⟩) | (go_at_call 39; refine (KG.out _).mono ?_; rintro e w' ⟨r, n, rfl, hr, rfl⟩) | (refine wpList_fcv rfl rfl rfl (by kernel_rfl) Try.underlying41 (by decide) (by first | (with_reducible assumption) | (with_reducible exact Fl.ofInt _ _) | exact Fl.not (by decide +kernel) (by decide +kernel)) (fits_wide _) ?_; intro r n hr; simp only [Act.put, List.setIfInBounds_toArray, List.set_cons_succ, List.set_cons_zero]) | (go_at_call 25; refine (sameFloat_any (by assumption) (by assumption) _).mono ?_; rintro e w' ⟨rfl, n, rfl⟩))
    go_ret
    exact RB.any rfl (by repeat (first | exact Drew.refl _ | refine Drew.more ?_))
  · have KS := Keep.mk (sBack_yes h1 h2 h)
    have KG := Keep.mk (iBack_yes h1 h2 h)
    clear h
    go_enter Try.func12, Try.ntmps12
    go_wp2_with (first | (go_at_call 38; refine (KS.out _).mono ?_; rintro e w' ⟨r, n, rfl, hr, rfl⟩) | (go_at_call 39; refine (KG.out _).mono ?_; rintro e w' ⟨r, n, rfl, hr, rfl⟩) | (refine wpList_fcv rfl rfl rfl (by kernel_rfl) Try.underlying41 (by decide) (by first | (with_reducible assumption) | (with_reducible exact Fl.ofInt _ _) | exact Fl.not (by decide +kernel) (by decide +kernel)) (fits_wide _) ?_; intro r n hr; simp only [Act.put, List.setIfInBounds_toArray, List.set_cons_succ, List.set_cons_zero]) | (go_at_call 25; refine (sameFloat_any (by assumption) (by assumption) _).mono ?_; rintro e w' ⟨rfl, n, rfl⟩))
    go_ret
    exact RB.any rfl (by repeat (first | exact Drew.refl _ | refine Drew.more ?_))
end Go.Proofs.Ytbpfheefhdlglac
