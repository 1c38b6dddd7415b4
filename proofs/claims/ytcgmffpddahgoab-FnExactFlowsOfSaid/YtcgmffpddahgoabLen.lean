/-
  How long a complex number with small whole parts is, of the program and of the model. No premise beyond those named.
-/
import Derived.Test.YtcgmffpddahgoabSlp
namespace Go.Proofs.Ytcgmffpddahgoab
open Go Go.RowKit
set_option maxRecDepth 100000
def pwC (r i : Nat) : Nat := fop .add .f64 (fop .mul .f64 (fcv .f32 .f64 r) (fcv .f32 .f64 r)) (fop .mul .f64 (fcv .f32 .f64 i) (fcv .f32 .f64 i))
def lngC (r i : Nat) : Nat := fcv .f64 .f32 (fsqrt (pwC r i))
/-- a whole number as a word -/
def wI (k : Int) : Nat := floatOfInt .f32 k
def lenOk : Bool := (List.range 31).all fun a => (List.range 31).all fun b => fits .f64 .f32 (fsqrt (pwC (wI ((a : Int) - 15)) (wI ((b : Int) - 15)))) && (fin .f32 (lngC (wI ((a : Int) - 15)) (wI ((b : Int) - 15))) && pwC (wI (15 - (a : Int))) (wI (15 - (b : Int))) == pwC (wI ((a : Int) - 15)) (wI ((b : Int) - 15)))
theorem len_ok : lenOk = true := by decide +kernel
theorem len_at {a b : Int} (h1 : -15 ≤ a) (h2 : a ≤ 15) (h3 : -15 ≤ b) (h4 : b ≤ 15) : fits .f64 .f32 (fsqrt (pwC (wI a) (wI b))) = true ∧ fin .f32 (lngC (wI a) (wI b)) = true ∧ lngC (wI (-a)) (wI (-b)) = lngC (wI a) (wI b) := by
  have h := len_ok
  unfold lenOk at h
  have e := List.all_eq_true.1 (List.all_eq_true.1 h (a + 15).toNat (List.mem_range.2 (by omega))) (b + 15).toNat (List.mem_range.2 (by omega))
  rw [show (((a + 15).toNat : Nat) : Int) - 15 = a by omega, show (((b + 15).toNat : Nat) : Int) - 15 = b by omega, show 15 - (((a + 15).toNat : Nat) : Int) = -a by omega, show 15 - (((b + 15).toNat : Nat) : Int) = -b by omega, Bool.and_eq_true, Bool.and_eq_true, beq_iff_eq] at e
  exact ⟨e.1, e.2.1, by unfold lngC; rw [e.2.2]⟩
def subOk : Bool := (List.range 16).all fun a => (List.range 16).all fun b => fop .sub .f32 (wI a) (wI b) == wI ((a : Int) - (b : Int))
theorem sub_ok : subOk = true := by decide +kernel
/-- the difference of whole numbers is one -/
theorem sub_wI {a b : Nat} (h1 : a < 16) (h2 : b < 16) : fop .sub .f32 (wI a) (wI b) = wI ((a : Int) - (b : Int)) := by
  have h := sub_ok
  unfold subOk at h
  have e := List.all_eq_true.1 (List.all_eq_true.1 h a (List.mem_range.2 h1)) b (List.mem_range.2 h2)
  exact beq_iff_eq.1 e
theorem wI_fl (k : Int) : Fl .f32 (wI k) (wI k) := Fl.ofInt _ _
theorem widePower_any {cr ci r i : Nat} (hr : Fl .f32 cr r) (hi : Fl .f32 ci i) (w : World) : Calls Try.prog 147 #[.complex .f32 r i] w (RF .f64 (pwC cr ci) w) := by
  go_enter Try.func147, Try.ntmps147
  have tk_a : True := trivial; have tk_b : True := trivial; have tk_m : True := trivial; have tk_n : True := trivial; have tk_s : True := trivial
  go_wp2_with (first | (clear tk_a; refine wpList_fcv rfl rfl rfl (by kernel_rfl) Try.underlying45 (by decide) (by first | (with_reducible assumption) | (with_reducible exact Fl.ofInt _ _) | exact Fl.not (by decide +kernel) (by decide +kernel)) (fits_wide _) ?_; intro a n_a h_a; simp only [Act.put, List.setIfInBounds_toArray, List.set_cons_succ, List.set_cons_zero]) | (clear tk_b; refine wpList_fcv rfl rfl rfl (by kernel_rfl) Try.underlying45 (by decide) (by first | (with_reducible assumption) | (with_reducible exact Fl.ofInt _ _) | exact Fl.not (by decide +kernel) (by decide +kernel)) (fits_wide _) ?_; intro b n_b h_b; simp only [Act.put, List.setIfInBounds_toArray, List.set_cons_succ, List.set_cons_zero]) | (clear tk_m; refine wpList_fop rfl rfl rfl rfl rfl (by first | (with_reducible assumption) | (with_reducible exact Fl.ofInt _ _) | exact Fl.not (by decide +kernel) (by decide +kernel)) (by first | (with_reducible assumption) | (with_reducible exact Fl.ofInt _ _) | exact Fl.not (by decide +kernel) (by decide +kernel)) ?_; intro m n_m h_m; simp only [Act.put, List.setIfInBounds_toArray, List.set_cons_succ, List.set_cons_zero]) | (clear tk_n; refine wpList_fop rfl rfl rfl rfl rfl (by first | (with_reducible assumption) | (with_reducible exact Fl.ofInt _ _) | exact Fl.not (by decide +kernel) (by decide +kernel)) (by first | (with_reducible assumption) | (with_reducible exact Fl.ofInt _ _) | exact Fl.not (by decide +kernel) (by decide +kernel)) ?_; intro n n_n h_n; simp only [Act.put, List.setIfInBounds_toArray, List.set_cons_succ, List.set_cons_zero]) | (clear tk_s; refine wpList_fop rfl rfl rfl rfl rfl (by first | (with_reducible assumption) | (with_reducible exact Fl.ofInt _ _) | exact Fl.not (by decide +kernel) (by decide +kernel)) (by first | (with_reducible assumption) | (with_reducible exact Fl.ofInt _ _) | exact Fl.not (by decide +kernel) (by decide +kernel)) ?_; intro s n_s h_s; simp only [Act.put, List.setIfInBounds_toArray, List.set_cons_succ, List.set_cons_zero]))
  go_ret
  exact RF.any h_s (by repeat (first | exact Drew.refl _ | refine Drew.more ?_))
theorem l01PowerWide_any {cr ci r i : Nat} (hr : Fl .f32 cr r) (hi : Fl .f32 ci i) (w : World) : Calls Try.prog 144 #[.complex .f32 r i] w (RF .f64 (pwC cr ci) w) := by
  go_enter Try.func144, Try.ntmps144
  have tk_a : True := trivial; have tk_b : True := trivial; have tk_m : True := trivial; have tk_n : True := trivial; have tk_s : True := trivial
  go_wp2_with (first | (clear tk_a; refine wpList_fcv rfl rfl rfl (by kernel_rfl) Try.underlying45 (by decide) (by first | (with_reducible assumption) | (with_reducible exact Fl.ofInt _ _) | exact Fl.not (by decide +kernel) (by decide +kernel)) (fits_wide _) ?_; intro a n_a h_a; simp only [Act.put, List.setIfInBounds_toArray, List.set_cons_succ, List.set_cons_zero]) | (clear tk_b; refine wpList_fcv rfl rfl rfl (by kernel_rfl) Try.underlying45 (by decide) (by first | (with_reducible assumption) | (with_reducible exact Fl.ofInt _ _) | exact Fl.not (by decide +kernel) (by decide +kernel)) (fits_wide _) ?_; intro b n_b h_b; simp only [Act.put, List.setIfInBounds_toArray, List.set_cons_succ, List.set_cons_zero]) | (clear tk_m; refine wpList_fop rfl rfl rfl rfl rfl (by first | (with_reducible assumption) | (with_reducible exact Fl.ofInt _ _) | exact Fl.not (by decide +kernel) (by decide +kernel)) (by first | (with_reducible assumption) | (with_reducible exact Fl.ofInt _ _) | exact Fl.not (by decide +kernel) (by decide +kernel)) ?_; intro m n_m h_m; simp only [Act.put, List.setIfInBounds_toArray, List.set_cons_succ, List.set_cons_zero]) | (clear tk_n; refine wpList_fop rfl rfl rfl rfl rfl (by first | (with_reducible assumption) | (with_reducible exact Fl.ofInt _ _) | exact Fl.not (by decide +kernel) (by decide +kernel)) (by first | (with_reducible assumption) | (with_reducible exact Fl.ofInt _ _) | exact Fl.not (by decide +kernel) (by decide +kernel)) ?_; intro n n_n h_n; simp only [Act.put, List.setIfInBounds_toArray, List.set_cons_succ, List.set_cons_zero]) | (clear tk_s; refine wpList_fop rfl rfl rfl rfl rfl (by first | (with_reducible assumption) | (with_reducible exact Fl.ofInt _ _) | exact Fl.not (by decide +kernel) (by decide +kernel)) (by first | (with_reducible assumption) | (with_reducible exact Fl.ofInt _ _) | exact Fl.not (by decide +kernel) (by decide +kernel)) ?_; intro s n_s h_s; simp only [Act.put, List.setIfInBounds_toArray, List.set_cons_succ, List.set_cons_zero]))
  go_ret
  exact RF.any h_s (by repeat (first | exact Drew.refl _ | refine Drew.more ?_))
theorem iLongOf_any {cr ci r i : Nat} (hr : Fl .f32 cr r) (hi : Fl .f32 ci i) (hf : fits .f64 .f32 (fsqrt (pwC cr ci)) = true) (w : World) : Calls Try.prog 124 #[.complex .f32 r i] w (RF .f32 (lngC cr ci) w) := by
  go_enter Try.func124, Try.ntmps124
  go_wp2_with (first | (go_at_call 147; refine (widePower_any hr hi _).mono ?_; rintro e1 w1 ⟨r1, n1, rfl, f1, rfl⟩) | (go_at_call 143; refine (sqrt_any f1 _).mono ?_; rintro e2 w2 ⟨r2, n2, rfl, f2, rfl⟩) | (go_at_call 146; refine (iNarrow_any f2 hf _).mono ?_; rintro e3 w3 ⟨r3, n3, rfl, f3, rfl⟩))
  go_ret
  exact RF.any f3 (by repeat (first | exact Drew.refl _ | refine Drew.more ?_))
theorem l01Long_any {cr ci r i : Nat} (hr : Fl .f32 cr r) (hi : Fl .f32 ci i) (hf : fits .f64 .f32 (fsqrt (pwC cr ci)) = true) (w : World) : Calls Try.prog 121 #[.complex .f32 r i] w (RF .f32 (lngC cr ci) w) := by
  go_enter Try.func121, Try.ntmps121
  go_wp2_with (first | (go_at_call 144; refine (l01PowerWide_any hr hi _).mono ?_; rintro e1 w1 ⟨r1, n1, rfl, f1, rfl⟩) | (go_at_call 143; refine (sqrt_any f1 _).mono ?_; rintro e2 w2 ⟨r2, n2, rfl, f2, rfl⟩) | (go_at_call 142; refine (l01Narrow_any f2 hf _).mono ?_; rintro e3 w3 ⟨r3, n3, rfl, f3, rfl⟩))
  go_ret
  exact RF.any f3 (by repeat (first | exact Drew.refl _ | refine Drew.more ?_))
end Go.Proofs.Ytcgmffpddahgoab
