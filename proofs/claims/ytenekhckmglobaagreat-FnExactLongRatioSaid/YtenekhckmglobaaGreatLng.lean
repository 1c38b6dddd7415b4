/-
  How long a complex number is, products of them, their angles, for parts that are not too great: of the program and of its model.
-/
import Derived.Test.YtenekhckmglobaaGreatAns
namespace Go.Proofs.YtenekhckmglobaaGreat
open Go Go.RowKit
set_option maxRecDepth 100000
def pwC (r i : Nat) : Nat := fop .add .f64 (fop .mul .f64 (fcv .f32 .f64 r) (fcv .f32 .f64 r)) (fop .mul .f64 (fcv .f32 .f64 i) (fcv .f32 .f64 i))
def lngC (r i : Nat) : Nat := fcv .f64 .f32 (fsqrt (pwC r i))
/-- 2 to the power of 61 -/
def b61 : Nat := 1577058304
theorem w61 {x : Nat} (h : Ab .f32 x b61) : Ab .f64 (fcv .f32 .f64 x) 4881901996069617664 := by
  have := wide_ab h
  rw [show fcv .f32 .f64 b61 = 4881901996069617664 by decide +kernel] at this
  exact this
theorem m61 {x y : Nat} (h : Ab .f64 x 4881901996069617664) (g : Ab .f64 y 4881901996069617664) : Ab .f64 (fop .mul .f64 x y) 5156621573339217920 :=
  mul_ab h g (by decide +kernel) (by decide +kernel)
theorem pw_nn {r i : Nat} (hr : Ab .f32 r b61) (hi : Ab .f32 i b61) : Nn .f64 (pwC r i) 5161125172966588416 := by
  have a := w61 hr
  have b := w61 hi
  exact add_nn ⟨m61 a a, by rw [mul_sgn a.fin a.fin, Bool.xor_self]⟩ ⟨m61 b b, by rw [mul_sgn b.fin b.fin, Bool.xor_self]⟩ (by decide +kernel) (by decide +kernel)
theorem lng_ok {r i : Nat} (hr : Ab .f32 r b61) (hi : Ab .f32 i b61) : fits .f64 .f32 (fsqrt (pwC r i)) = true ∧ fin .f32 (lngC r i) = true := by
  have h := pw_nn hr hi
  have hb : Bd .f64 (pwC r i) 123 := bd_of_ab h.ab (by decide +kernel) (by decide) (by decide)
  have hs := (fsqrt_bd hb h.pos (by decide)).1
  have hf := hs.fits (by decide) (by decide)
  exact ⟨hf.1, hf.2.fin⟩
theorem lng_ab {r i : Nat} (hr : Ab .f32 r b61) (hi : Ab .f32 i b61) : Ab .f32 (lngC r i) 1593835520 := by
  have h := pw_nn hr hi
  have hb : Bd .f64 (pwC r i) 123 := bd_of_ab h.ab (by decide +kernel) (by decide) (by decide)
  have hs := (fsqrt_bd hb h.pos (by decide)).1
  have hf := hs.fits (by decide) (by decide)
  exact ab_of_bd hf.2 (by decide +kernel) (by decide +kernel)
theorem widePower_any {cr ci r i : Nat} (hr : Fl .f32 cr r) (hi : Fl .f32 ci i) (w : World) : Calls Tryz.prog 98 #[.complex .f32 r i] w (RF .f64 (pwC cr ci) w) := by
  go_enter Tryz.func98, Tryz.ntmps98
  have tk_a : True := trivial; have tk_b : True := trivial; have tk_m : True := trivial; have tk_n : True := trivial; have tk_s : True := trivial
  go_wp2_with (first | (clear tk_a; refine wpList_fcv rfl rfl rfl (by kernel_rfl) Tryz.underlying41 (by decide) (by first | (with_reducible assumption) | (with_reducible exact Fl.ofInt _ _) | exact Fl.not (by decide +kernel) (by decide +kernel)) (fits_wide _) ?_; intro a n_a h_a; simp only [Act.put, List.setIfInBounds_toArray, List.set_cons_succ, List.set_cons_zero]) | (clear tk_b; refine wpList_fcv rfl rfl rfl (by kernel_rfl) Tryz.underlying41 (by decide) (by first | (with_reducible assumption) | (with_reducible exact Fl.ofInt _ _) | exact Fl.not (by decide +kernel) (by decide +kernel)) (fits_wide _) ?_; intro b n_b h_b; simp only [Act.put, List.setIfInBounds_toArray, List.set_cons_succ, List.set_cons_zero]) | (clear tk_m; refine wpList_fop rfl rfl rfl rfl rfl (by first | (with_reducible assumption) | (with_reducible exact Fl.ofInt _ _) | exact Fl.not (by decide +kernel) (by decide +kernel)) (by first | (with_reducible assumption) | (with_reducible exact Fl.ofInt _ _) | exact Fl.not (by decide +kernel) (by decide +kernel)) ?_; intro m n_m h_m; simp only [Act.put, List.setIfInBounds_toArray, List.set_cons_succ, List.set_cons_zero]) | (clear tk_n; refine wpList_fop rfl rfl rfl rfl rfl (by first | (with_reducible assumption) | (with_reducible exact Fl.ofInt _ _) | exact Fl.not (by decide +kernel) (by decide +kernel)) (by first | (with_reducible assumption) | (with_reducible exact Fl.ofInt _ _) | exact Fl.not (by decide +kernel) (by decide +kernel)) ?_; intro n n_n h_n; simp only [Act.put, List.setIfInBounds_toArray, List.set_cons_succ, List.set_cons_zero]) | (clear tk_s; refine wpList_fop rfl rfl rfl rfl rfl (by first | (with_reducible assumption) | (with_reducible exact Fl.ofInt _ _) | exact Fl.not (by decide +kernel) (by decide +kernel)) (by first | (with_reducible assumption) | (with_reducible exact Fl.ofInt _ _) | exact Fl.not (by decide +kernel) (by decide +kernel)) ?_; intro s n_s h_s; simp only [Act.put, List.setIfInBounds_toArray, List.set_cons_succ, List.set_cons_zero]))
  go_ret
  exact RF.any h_s (by repeat (first | exact Drew.refl _ | refine Drew.more ?_))
theorem l01PowerWide_any {cr ci r i : Nat} (hr : Fl .f32 cr r) (hi : Fl .f32 ci i) (w : World) : Calls Tryz.prog 94 #[.complex .f32 r i] w (RF .f64 (pwC cr ci) w) := by
  go_enter Tryz.func94, Tryz.ntmps94
  have tk_a : True := trivial; have tk_b : True := trivial; have tk_m : True := trivial; have tk_n : True := trivial; have tk_s : True := trivial
  go_wp2_with (first | (clear tk_a; refine wpList_fcv rfl rfl rfl (by kernel_rfl) Tryz.underlying41 (by decide) (by first | (with_reducible assumption) | (with_reducible exact Fl.ofInt _ _) | exact Fl.not (by decide +kernel) (by decide +kernel)) (fits_wide _) ?_; intro a n_a h_a; simp only [Act.put, List.setIfInBounds_toArray, List.set_cons_succ, List.set_cons_zero]) | (clear tk_b; refine wpList_fcv rfl rfl rfl (by kernel_rfl) Tryz.underlying41 (by decide) (by first | (with_reducible assumption) | (with_reducible exact Fl.ofInt _ _) | exact Fl.not (by decide +kernel) (by decide +kernel)) (fits_wide _) ?_; intro b n_b h_b; simp only [Act.put, List.setIfInBounds_toArray, List.set_cons_succ, List.set_cons_zero]) | (clear tk_m; refine wpList_fop rfl rfl rfl rfl rfl (by first | (with_reducible assumption) | (with_reducible exact Fl.ofInt _ _) | exact Fl.not (by decide +kernel) (by decide +kernel)) (by first | (with_reducible assumption) | (with_reducible exact Fl.ofInt _ _) | exact Fl.not (by decide +kernel) (by decide +kernel)) ?_; intro m n_m h_m; simp only [Act.put, List.setIfInBounds_toArray, List.set_cons_succ, List.set_cons_zero]) | (clear tk_n; refine wpList_fop rfl rfl rfl rfl rfl (by first | (with_reducible assumption) | (with_reducible exact Fl.ofInt _ _) | exact Fl.not (by decide +kernel) (by decide +kernel)) (by first | (with_reducible assumption) | (with_reducible exact Fl.ofInt _ _) | exact Fl.not (by decide +kernel) (by decide +kernel)) ?_; intro n n_n h_n; simp only [Act.put, List.setIfInBounds_toArray, List.set_cons_succ, List.set_cons_zero]) | (clear tk_s; refine wpList_fop rfl rfl rfl rfl rfl (by first | (with_reducible assumption) | (with_reducible exact Fl.ofInt _ _) | exact Fl.not (by decide +kernel) (by decide +kernel)) (by first | (with_reducible assumption) | (with_reducible exact Fl.ofInt _ _) | exact Fl.not (by decide +kernel) (by decide +kernel)) ?_; intro s n_s h_s; simp only [Act.put, List.setIfInBounds_toArray, List.set_cons_succ, List.set_cons_zero]))
  go_ret
  exact RF.any h_s (by repeat (first | exact Drew.refl _ | refine Drew.more ?_))
theorem iLongOf_any {cr ci r i : Nat} (hr : Fl .f32 cr r) (hi : Fl .f32 ci i) (hf : fits .f64 .f32 (fsqrt (pwC cr ci)) = true) (w : World) : Calls Tryz.prog 45 #[.complex .f32 r i] w (RF .f32 (lngC cr ci) w) := by
  go_enter Tryz.func45, Tryz.ntmps45
  go_wp2_with (first | (go_at_call 98; refine (widePower_any hr hi _).mono ?_; rintro e1 w1 ⟨r1, n1, rfl, f1, rfl⟩) | (go_at_call 93; refine (sqrt_any f1 _).mono ?_; rintro e2 w2 ⟨r2, n2, rfl, f2, rfl⟩) | (go_at_call 97; refine (iNarrow_any f2 hf _).mono ?_; rintro e3 w3 ⟨r3, n3, rfl, f3, rfl⟩))
  go_ret
  exact RF.any f3 (by repeat (first | exact Drew.refl _ | refine Drew.more ?_))
theorem l01Long_any {cr ci r i : Nat} (hr : Fl .f32 cr r) (hi : Fl .f32 ci i) (hf : fits .f64 .f32 (fsqrt (pwC cr ci)) = true) (w : World) : Calls Tryz.prog 43 #[.complex .f32 r i] w (RF .f32 (lngC cr ci) w) := by
  go_enter Tryz.func43, Tryz.ntmps43
  go_wp2_with (first | (go_at_call 94; refine (l01PowerWide_any hr hi _).mono ?_; rintro e1 w1 ⟨r1, n1, rfl, f1, rfl⟩) | (go_at_call 93; refine (sqrt_any f1 _).mono ?_; rintro e2 w2 ⟨r2, n2, rfl, f2, rfl⟩) | (go_at_call 80; refine (l01Narrow_any f2 hf _).mono ?_; rintro e3 w3 ⟨r3, n3, rfl, f3, rfl⟩))
  go_ret
  exact RF.any f3 (by repeat (first | exact Drew.refl _ | refine Drew.more ?_))
end Go.Proofs.YtenekhckmglobaaGreat
