/-
  WeighGrids, of the model and of the program. No premise beyond those named.
-/
import Derived.Test.YtcgmffpddahgoaaWgg
import Derived.Test.YtcgmffpddahgoaaSgr
namespace Go.Proofs.Ytcgmffpddahgoaa
open Go Go.RowKit
set_option maxRecDepth 100000

/-- 'returns no grid' -/
def RN (w : World) (e : Ending) (w' : World) : Prop := e = .returned (.tuple #[gd 0 0 (.slice none 0 0), .bool false]) ∧ Below w.heap.size w w'
set_option maxHeartbeats 4000000 in
theorem sWg_n1 {g1 g2 n m k1 k2 x y xr yr : Nat} {wd hg wd2 hg2 : Int} {f h : Nat → Nat} (w : World) (hf : Told w g1 n f) (hh : Told w g2 m h) (hl : n ≤ 1048576) (hl2 : m ≤ 1048576) (fx : Fl .f32 x xr) (fy : Fl .f32 y yr) (q1 : gridB wd hg n f = false) : Calls Try.prog 38 #[gd wd hg (sl g1 n k1), gd wd2 hg2 (sl g2 m k2), .float .f32 xr, .float .f32 yr] w (RN w) := by
  have HF := Hf.mk hf
  have HH := Hf.mk hh
  have Q1 := Hf.mk q1
  clear q1
  clear hf hh
  go_enter Try.func38, Try.ntmps38
  have tk_a : True := trivial; have tk_b : True := trivial; have tk_x : True := trivial; have tk_y : True := trivial
  go_wp2_with (first | (go_at_call 82; clear tk_a; refine (l06Is_any (g := g1) (n := n) (k := k1) (wd := wd) (hg := hg) (f := f) _ (by simp [go_sem]) (by simp [go_sem]) (by simp [go_sem]) (HF.out.below (by repeat (first | exact Below.refl _ _ | with_reducible assumption | refine Below.drews ?_ | refine Below.drew ?_ | refine Below.alloc ?_ (by simp <;> omega) _ | refine Below.setCell ?_ (by simp <;> omega) _))) hl).mono ?_; rw [Q1.out]; rintro e w' ⟨rfl, q1, rfl⟩))
  exact bodyPost_ret (v := .tuple #[gd 0 0 (.slice none 0 0), .bool false]) (by simp [results, Try.results38, go_sem]) rfl ⟨rfl, (by repeat (first | exact Below.refl _ _ | with_reducible assumption | refine Below.drews ?_ | refine Below.drew ?_ | refine Below.alloc ?_ (by simp <;> omega) _ | refine Below.setCell ?_ (by simp <;> omega) _))⟩
set_option maxHeartbeats 4000000 in
theorem sWg_n2 {g1 g2 n m k1 k2 x y xr yr : Nat} {wd hg wd2 hg2 : Int} {f h : Nat → Nat} (w : World) (hf : Told w g1 n f) (hh : Told w g2 m h) (hl : n ≤ 1048576) (hl2 : m ≤ 1048576) (fx : Fl .f32 x xr) (fy : Fl .f32 y yr) (q1 : gridB wd hg n f = true) (q2 : gridB wd2 hg2 m h = false) : Calls Try.prog 38 #[gd wd hg (sl g1 n k1), gd wd2 hg2 (sl g2 m k2), .float .f32 xr, .float .f32 yr] w (RN w) := by
  have HF := Hf.mk hf
  have HH := Hf.mk hh
  have Q1 := Hf.mk q1
  have Q2 := Hf.mk q2
  clear q1 q2
  clear hf hh
  go_enter Try.func38, Try.ntmps38
  have tk_a : True := trivial; have tk_b : True := trivial; have tk_x : True := trivial; have tk_y : True := trivial
  go_wp2_with (first | (go_at_call 82; clear tk_a; refine (l06Is_any (g := g1) (n := n) (k := k1) (wd := wd) (hg := hg) (f := f) _ (by simp [go_sem]) (by simp [go_sem]) (by simp [go_sem]) (HF.out.below (by repeat (first | exact Below.refl _ _ | with_reducible assumption | refine Below.drews ?_ | refine Below.drew ?_ | refine Below.alloc ?_ (by simp <;> omega) _ | refine Below.setCell ?_ (by simp <;> omega) _))) hl).mono ?_; rw [Q1.out]; rintro e w' ⟨rfl, q1, rfl⟩) | (go_at_call 82; clear tk_b; refine (l06Is_any (g := g2) (n := m) (k := k2) (wd := wd2) (hg := hg2) (f := h) _ (by simp [go_sem]) (by simp [go_sem]) (by simp [go_sem]) (HH.out.below (by repeat (first | exact Below.refl _ _ | with_reducible assumption | refine Below.drews ?_ | refine Below.drew ?_ | refine Below.alloc ?_ (by simp <;> omega) _ | refine Below.setCell ?_ (by simp <;> omega) _))) hl2).mono ?_; rw [Q2.out]; rintro e w' ⟨rfl, q2, rfl⟩))
  exact bodyPost_ret (v := .tuple #[gd 0 0 (.slice none 0 0), .bool false]) (by simp [results, Try.results38, go_sem]) rfl ⟨rfl, (by repeat (first | exact Below.refl _ _ | with_reducible assumption | refine Below.drews ?_ | refine Below.drew ?_ | refine Below.alloc ?_ (by simp <;> omega) _ | refine Below.setCell ?_ (by simp <;> omega) _))⟩
set_option maxHeartbeats 4000000 in
theorem sWg_n3 {g1 g2 n m k1 k2 x y xr yr : Nat} {wd hg wd2 hg2 : Int} {f h : Nat → Nat} (w : World) (hf : Told w g1 n f) (hh : Told w g2 m h) (hl : n ≤ 1048576) (hl2 : m ≤ 1048576) (fx : Fl .f32 x xr) (fy : Fl .f32 y yr) (q1 : gridB wd hg n f = true) (q2 : gridB wd2 hg2 m h = true) (q5 : ¬ wd = wd2) : Calls Try.prog 38 #[gd wd hg (sl g1 n k1), gd wd2 hg2 (sl g2 m k2), .float .f32 xr, .float .f32 yr] w (RN w) := by
  have HF := Hf.mk hf
  have HH := Hf.mk hh
  have Q1 := Hf.mk q1
  have Q2 := Hf.mk q2
  have b5 : (wd != wd2) = true := by simp [q5]
  clear q1 q2 q5
  clear hf hh
  go_enter Try.func38, Try.ntmps38
  have tk_a : True := trivial; have tk_b : True := trivial; have tk_x : True := trivial; have tk_y : True := trivial
  go_wp2_with (first | (go_at_call 82; clear tk_a; refine (l06Is_any (g := g1) (n := n) (k := k1) (wd := wd) (hg := hg) (f := f) _ (by simp [go_sem]) (by simp [go_sem]) (by simp [go_sem]) (HF.out.below (by repeat (first | exact Below.refl _ _ | with_reducible assumption | refine Below.drews ?_ | refine Below.drew ?_ | refine Below.alloc ?_ (by simp <;> omega) _ | refine Below.setCell ?_ (by simp <;> omega) _))) hl).mono ?_; rw [Q1.out]; rintro e w' ⟨rfl, q1, rfl⟩) | (go_at_call 82; clear tk_b; refine (l06Is_any (g := g2) (n := m) (k := k2) (wd := wd2) (hg := hg2) (f := h) _ (by simp [go_sem]) (by simp [go_sem]) (by simp [go_sem]) (HH.out.below (by repeat (first | exact Below.refl _ _ | with_reducible assumption | refine Below.drews ?_ | refine Below.drew ?_ | refine Below.alloc ?_ (by simp <;> omega) _ | refine Below.setCell ?_ (by simp <;> omega) _))) hl2).mono ?_; rw [Q2.out]; rintro e w' ⟨rfl, q2, rfl⟩))
  exact bodyPost_ret (v := .tuple #[gd 0 0 (.slice none 0 0), .bool false]) (by simp [results, Try.results38, go_sem]) rfl ⟨rfl, (by repeat (first | exact Below.refl _ _ | with_reducible assumption | refine Below.drews ?_ | refine Below.drew ?_ | refine Below.alloc ?_ (by simp <;> omega) _ | refine Below.setCell ?_ (by simp <;> omega) _))⟩
set_option maxHeartbeats 4000000 in
theorem sWg_n4 {g1 g2 n m k1 k2 x y xr yr : Nat} {wd hg hg2 : Int} {f h : Nat → Nat} (w : World) (hf : Told w g1 n f) (hh : Told w g2 m h) (hl : n ≤ 1048576) (hl2 : m ≤ 1048576) (fx : Fl .f32 x xr) (fy : Fl .f32 y yr) (q1 : gridB wd hg n f = true) (q2 : gridB wd hg2 m h = true) (q5 : ¬ hg = hg2) : Calls Try.prog 38 #[gd wd hg (sl g1 n k1), gd wd hg2 (sl g2 m k2), .float .f32 xr, .float .f32 yr] w (RN w) := by
  have HF := Hf.mk hf
  have HH := Hf.mk hh
  have Q1 := Hf.mk q1
  have Q2 := Hf.mk q2
  have b5 : (hg != hg2) = true := by simp [q5]
  have b6 : (wd != wd) = false := by simp
  clear q1 q2 q5
  clear hf hh
  go_enter Try.func38, Try.ntmps38
  have tk_a : True := trivial; have tk_b : True := trivial; have tk_x : True := trivial; have tk_y : True := trivial
  go_wp2_with (first | (go_at_call 82; clear tk_a; refine (l06Is_any (g := g1) (n := n) (k := k1) (wd := wd) (hg := hg) (f := f) _ (by simp [go_sem]) (by simp [go_sem]) (by simp [go_sem]) (HF.out.below (by repeat (first | exact Below.refl _ _ | with_reducible assumption | refine Below.drews ?_ | refine Below.drew ?_ | refine Below.alloc ?_ (by simp <;> omega) _ | refine Below.setCell ?_ (by simp <;> omega) _))) hl).mono ?_; rw [Q1.out]; rintro e w' ⟨rfl, q1, rfl⟩) | (go_at_call 82; clear tk_b; refine (l06Is_any (g := g2) (n := m) (k := k2) (wd := wd) (hg := hg2) (f := h) _ (by simp [go_sem]) (by simp [go_sem]) (by simp [go_sem]) (HH.out.below (by repeat (first | exact Below.refl _ _ | with_reducible assumption | refine Below.drews ?_ | refine Below.drew ?_ | refine Below.alloc ?_ (by simp <;> omega) _ | refine Below.setCell ?_ (by simp <;> omega) _))) hl2).mono ?_; rw [Q2.out]; rintro e w' ⟨rfl, q2, rfl⟩))
  exact bodyPost_ret (v := .tuple #[gd 0 0 (.slice none 0 0), .bool false]) (by simp [results, Try.results38, go_sem]) rfl ⟨rfl, (by repeat (first | exact Below.refl _ _ | with_reducible assumption | refine Below.drews ?_ | refine Below.drew ?_ | refine Below.alloc ?_ (by simp <;> omega) _ | refine Below.setCell ?_ (by simp <;> omega) _))⟩
set_option maxHeartbeats 4000000 in
theorem sWg_n5 {g1 g2 n m k1 k2 x y xr yr : Nat} {wd hg : Int} {f h : Nat → Nat} (w : World) (hf : Told w g1 n f) (hh : Told w g2 m h) (hl : n ≤ 1048576) (hl2 : m ≤ 1048576) (fx : Fl .f32 x xr) (fy : Fl .f32 y yr) (q1 : gridB wd hg n f = true) (q2 : gridB wd hg m h = true) (q3 : fin .f32 x = false) : Calls Try.prog 38 #[gd wd hg (sl g1 n k1), gd wd hg (sl g2 m k2), .float .f32 xr, .float .f32 yr] w (RN w) := by
  have HF := Hf.mk hf
  have HH := Hf.mk hh
  have Q1 := Hf.mk q1
  have Q2 := Hf.mk q2
  have Q3 := Hf.mk q3
  have b5 : (hg != hg) = false := by simp
  have b6 : (wd != wd) = false := by simp
  clear q1 q2 q3
  clear hf hh
  go_enter Try.func38, Try.ntmps38
  have tk_a : True := trivial; have tk_b : True := trivial; have tk_x : True := trivial; have tk_y : True := trivial
  go_wp2_with (first | (go_at_call 82; clear tk_a; refine (l06Is_any (g := g1) (n := n) (k := k1) (wd := wd) (hg := hg) (f := f) _ (by simp [go_sem]) (by simp [go_sem]) (by simp [go_sem]) (HF.out.below (by repeat (first | exact Below.refl _ _ | with_reducible assumption | refine Below.drews ?_ | refine Below.drew ?_ | refine Below.alloc ?_ (by simp <;> omega) _ | refine Below.setCell ?_ (by simp <;> omega) _))) hl).mono ?_; rw [Q1.out]; rintro e w' ⟨rfl, q1, rfl⟩) | (go_at_call 82; clear tk_b; refine (l06Is_any (g := g2) (n := m) (k := k2) (wd := wd) (hg := hg) (f := h) _ (by simp [go_sem]) (by simp [go_sem]) (by simp [go_sem]) (HH.out.below (by repeat (first | exact Below.refl _ _ | with_reducible assumption | refine Below.drews ?_ | refine Below.drew ?_ | refine Below.alloc ?_ (by simp <;> omega) _ | refine Below.setCell ?_ (by simp <;> omega) _))) hl2).mono ?_; rw [Q2.out]; rintro e w' ⟨rfl, q2, rfl⟩) | (go_at_call 89; clear tk_x; refine (l01Finite_any fx _).mono ?_; rw [Q3.out]; rintro e w' ⟨rfl, q3, rfl⟩))
  exact bodyPost_ret (v := .tuple #[gd 0 0 (.slice none 0 0), .bool false]) (by simp [results, Try.results38, go_sem]) rfl ⟨rfl, (by repeat (first | exact Below.refl _ _ | with_reducible assumption | refine Below.drews ?_ | refine Below.drew ?_ | refine Below.alloc ?_ (by simp <;> omega) _ | refine Below.setCell ?_ (by simp <;> omega) _))⟩
set_option maxHeartbeats 4000000 in
theorem sWg_n6 {g1 g2 n m k1 k2 x y xr yr : Nat} {wd hg : Int} {f h : Nat → Nat} (w : World) (hf : Told w g1 n f) (hh : Told w g2 m h) (hl : n ≤ 1048576) (hl2 : m ≤ 1048576) (fx : Fl .f32 x xr) (fy : Fl .f32 y yr) (q1 : gridB wd hg n f = true) (q2 : gridB wd hg m h = true) (q3 : fin .f32 x = true) (q4 : fin .f32 y = false) : Calls Try.prog 38 #[gd wd hg (sl g1 n k1), gd wd hg (sl g2 m k2), .float .f32 xr, .float .f32 yr] w (RN w) := by
  have HF := Hf.mk hf
  have HH := Hf.mk hh
  have Q1 := Hf.mk q1
  have Q2 := Hf.mk q2
  have Q3 := Hf.mk q3
  have b5 : (hg != hg) = false := by simp
  have b6 : (wd != wd) = false := by simp
  have Q4 := Hf.mk q4
  clear q1 q2 q3 q4
  clear hf hh
  go_enter Try.func38, Try.ntmps38
  have tk_a : True := trivial; have tk_b : True := trivial; have tk_x : True := trivial; have tk_y : True := trivial
  go_wp2_with (first | (go_at_call 82; clear tk_a; refine (l06Is_any (g := g1) (n := n) (k := k1) (wd := wd) (hg := hg) (f := f) _ (by simp [go_sem]) (by simp [go_sem]) (by simp [go_sem]) (HF.out.below (by repeat (first | exact Below.refl _ _ | with_reducible assumption | refine Below.drews ?_ | refine Below.drew ?_ | refine Below.alloc ?_ (by simp <;> omega) _ | refine Below.setCell ?_ (by simp <;> omega) _))) hl).mono ?_; rw [Q1.out]; rintro e w' ⟨rfl, q1, rfl⟩) | (go_at_call 82; clear tk_b; refine (l06Is_any (g := g2) (n := m) (k := k2) (wd := wd) (hg := hg) (f := h) _ (by simp [go_sem]) (by simp [go_sem]) (by simp [go_sem]) (HH.out.below (by repeat (first | exact Below.refl _ _ | with_reducible assumption | refine Below.drews ?_ | refine Below.drew ?_ | refine Below.alloc ?_ (by simp <;> omega) _ | refine Below.setCell ?_ (by simp <;> omega) _))) hl2).mono ?_; rw [Q2.out]; rintro e w' ⟨rfl, q2, rfl⟩) | (go_at_call 89; clear tk_x; refine (l01Finite_any fx _).mono ?_; rw [Q3.out]; rintro e w' ⟨rfl, q3, rfl⟩) | (go_at_call 89; clear tk_y; refine (l01Finite_any fy _).mono ?_; rw [Q4.out]; rintro e w' ⟨rfl, q4, rfl⟩))
  exact bodyPost_ret (v := .tuple #[gd 0 0 (.slice none 0 0), .bool false]) (by simp [results, Try.results38, go_sem]) rfl ⟨rfl, (by repeat (first | exact Below.refl _ _ | with_reducible assumption | refine Below.drews ?_ | refine Below.drew ?_ | refine Below.alloc ?_ (by simp <;> omega) _ | refine Below.setCell ?_ (by simp <;> omega) _))⟩
set_option maxHeartbeats 16000000 in
theorem sWg_yes {g1 g2 n k1 k2 x y xr yr W Hh : Nat} {f h : Nat → Nat} (w : World) (hf : Told w g1 n f) (hh : Told w g2 n h) (ff : ∀ j, Fl .f32 (f j) (f j)) (fh : ∀ j, Fl .f32 (h j) (h j)) (fx : Fl .f32 x xr) (fy : Fl .f32 y yr) (q1 : gridB (W : Int) (Hh : Int) n f = true) (q2 : gridB (W : Int) (Hh : Int) n h = true) (q3 : fin .f32 x = true) (q4 : fin .f32 y = true) (hG : Gr (W : Int) (Hh : Int) n f W Hh) (hG2 : finB n h = true) : Calls Try.prog 38 #[gd W Hh (sl g1 n k1), gd W Hh (sl g2 n k2), .float .f32 xr, .float .f32 yr] w (RG 29 (finB n (wgC x y f h)) W Hh n (wgC x y f h) w) := by
  have n256 := hG.n256
  have n4 := hG.n4
  have hl : n ≤ 1048576 := by omega
  have hl2 : n ≤ 1048576 := hl
  have hgl := told_lt hf (show 0 < n by omega)
  have hgl2 := told_lt hh (show 0 < n by omega)
  have HF := Hf.mk hf
  have HH := Hf.mk hh
  have FF := Hf.mk ff
  have FH := Hf.mk fh
  have X1 := Hf.mk (hf.exact hG.fin)
  have X2 := Hf.mk (hh.exact hG2)
  have KG := Keep.mk (show gridB (W : Int) (Hh : Int) n (wgC x y f h) = finB n (wgC x y f h) by
    unfold gridB
    rw [sideB_yes (by have := hG.w2; omega) (by have := hG.w16; omega) (by have := hG.h2; omega) (by have := hG.h16; omega), Bool.true_and, decide_eq_true (by rw [hG.nn, Int.natCast_mul]), Bool.true_and])
  have B0 := Hb.mk (Below.refl w.heap.size w)
  have Q1 := Hf.mk q1
  have Q2 := Hf.mk q2
  have Q3 := Hf.mk q3
  have b5 : ((Hh : Int) != (Hh : Int)) = false := by simp
  have b6 : ((W : Int) != (W : Int)) = false := by simp
  have Q4 := Hf.mk q4
  clear q1 q2 q3 q4
  clear hf hh ff fh hG hG2
  go_enter Try.func38, Try.ntmps38
  have tk_a : True := trivial; have tk_b : True := trivial; have tk_x : True := trivial; have tk_y : True := trivial
  go_wp2_with (first | (go_at_call 82; clear tk_a; refine (l06Is_any (g := g1) (n := n) (k := k1) (wd := (W : Int)) (hg := (Hh : Int)) (f := f) _ (by simp [go_sem]) (by simp [go_sem]) (by simp [go_sem]) (HF.out.below (by repeat (first | exact Below.refl _ _ | with_reducible assumption | refine Below.drews ?_ | refine Below.drew ?_ | refine Below.alloc ?_ (by simp <;> omega) _ | refine Below.setCell ?_ (by simp <;> omega) _))) hl).mono ?_; rw [Q1.out]; rintro e w' ⟨rfl, q1, rfl⟩) | (go_at_call 82; clear tk_b; refine (l06Is_any (g := g2) (n := n) (k := k2) (wd := (W : Int)) (hg := (Hh : Int)) (f := h) _ (by simp [go_sem]) (by simp [go_sem]) (by simp [go_sem]) (HH.out.below (by repeat (first | exact Below.refl _ _ | with_reducible assumption | refine Below.drews ?_ | refine Below.drew ?_ | refine Below.alloc ?_ (by simp <;> omega) _ | refine Below.setCell ?_ (by simp <;> omega) _))) hl2).mono ?_; rw [Q2.out]; rintro e w' ⟨rfl, q2, rfl⟩) | (go_at_call 89; clear tk_x; refine (l01Finite_any fx _).mono ?_; rw [Q3.out]; rintro e w' ⟨rfl, q3, rfl⟩) | (go_at_call 89; clear tk_y; refine (l01Finite_any fy _).mono ?_; rw [Q4.out]; rintro e w' ⟨rfl, q4, rfl⟩) | (go_at_call 90; refine (l06Own_any (k := k1) (g := g1) (wd := (W : Int)) (hg := (Hh : Int)) _ (by simp [go_sem]) (by simp [go_sem]) (by simp [go_sem]) (X1.out.below (by repeat (first | exact Below.refl _ _ | with_reducible assumption | refine Below.drews ?_ | refine Below.drew ?_ | refine Below.alloc ?_ (by simp <;> omega) _ | refine Below.setCell ?_ (by simp <;> omega) _))) (by omega) (by omega)).mono ?_; rintro e w1 ⟨g3, k3, rfl, o1, b1⟩; have B1 := Hb.mk (Below.on (B := w.heap.size) (a := w) (by repeat (first | exact B0.out | refine Below.drews ?_ | refine Below.drew ?_ | refine Below.alloc ?_ (by have hq_ := B0.out.size; first | omega | (simp <;> omega)) _ | refine Below.setCell ?_ (by have hq_ := B0.out.size; first | omega | (simp <;> omega)) _)) b1 (by have hq_ := B0.out.size; first | omega | (simp <;> omega))); have r0 := Hb.mk (At.keep b1 (p := ⟨(w.heap.size), 0, none⟩) (v := .int .i64 W) (by simp [go_sem]) (by simp [go_sem])); obtain ⟨r0c, r0z, r0l⟩ := r0.out; have r1 := Hb.mk (At.keep b1 (p := ⟨(w.heap.size), 1, none⟩) (v := .int .i64 Hh) (by simp [go_sem]) (by simp [go_sem])); obtain ⟨r1c, r1z, r1l⟩ := r1.out; have r2 := Hb.mk (At.keep b1 (p := ⟨(w.heap.size), 2, none⟩) (v := sl g1 n k1) (by simp [go_sem]) (by simp [go_sem])); obtain ⟨r2c, r2z, r2l⟩ := r2.out; have p0 := Hb.mk (At.keep b1 (p := ⟨(w.heap.size + 1), 0, none⟩) (v := .int .i64 W) (by simp [go_sem]) (by simp [go_sem])); obtain ⟨p0c, p0z, p0l⟩ := p0.out; have p1 := Hb.mk (At.keep b1 (p := ⟨(w.heap.size + 1), 1, none⟩) (v := .int .i64 Hh) (by simp [go_sem]) (by simp [go_sem])); obtain ⟨p1c, p1z, p1l⟩ := p1.out; have p2 := Hb.mk (At.keep b1 (p := ⟨(w.heap.size + 1), 2, none⟩) (v := sl g2 n k2) (by simp [go_sem]) (by simp [go_sem])); obtain ⟨p2c, p2z, p2l⟩ := p2.out; have q0 := Hb.mk (At.keep b1 (p := ⟨(w.heap.size + 2), 0, none⟩) (v := .int .i64 0) (by simp [go_sem]) (by simp [go_sem])); obtain ⟨q0c, q0z, q0l⟩ := q0.out; have q1 := Hb.mk (At.keep b1 (p := ⟨(w.heap.size + 2), 1, none⟩) (v := .int .i64 0) (by simp [go_sem]) (by simp [go_sem])); obtain ⟨q1c, q1z, q1l⟩ := q1.out; have q2 := Hb.mk (At.keep b1 (p := ⟨(w.heap.size + 2), 2, none⟩) (v := .slice none 0 0) (by simp [go_sem]) (by simp [go_sem])); obtain ⟨q2c, q2z, q2l⟩ := q2.out; have O1 := Hf.mk (OwnV.floats (f := f) (o1.lower (base' := w.heap.size) (by simp; omega)) (fun j _ => FF.out j)); have l1 := o1.lt; have s1 : w.heap.size + 3 ≤ w1.heap.size := (by have := b1.size; simpa using this); clear o1 b1))
  simp at l1
  have O2 := Hf.mk (O1.out.below ((Below.refl _ _).alloc (Nat.le_refl _) (.cells #[.int .i64 W, .int .i64 Hh, sl g3 n k3] 26)))
  have RC := Hf.mk ((Cs.mk r0.out r1.out r2.out).alloc (.cells #[.int .i64 W, .int .i64 Hh, sl g3 n k3] 26))
  have PC := Hf.mk ((Cs.mk p0.out p1.out p2.out).alloc (.cells #[.int .i64 W, .int .i64 Hh, sl g3 n k3] 26))
  have QC2 := Hf.mk ((Cs.mk q0.out q1.out q2.out).alloc (.cells #[.int .i64 W, .int .i64 Hh, sl g3 n k3] 26))
  have X3 := Hf.mk ((X1.out.below B1.out).below ((Below.refl _ _).alloc (Nat.le_refl _) (.cells #[.int .i64 W, .int .i64 Hh, sl g3 n k3] 26)))
  have X4 := Hf.mk ((X2.out.below B1.out).below ((Below.refl _ _).alloc (Nat.le_refl _) (.cells #[.int .i64 W, .int .i64 Hh, sl g3 n k3] 26)))
  have CC2 := Hf.mk (show Cs (w1.alloc (.cells #[.int .i64 W, .int .i64 Hh, sl g3 n k3] 26)) w1.heap.size (.int .i64 W) (.int .i64 Hh) (sl g3 n k3) from ⟨⟨by simp [go_sem], by simp [go_sem], by simp⟩, ⟨by simp [go_sem], by simp [go_sem], by simp⟩, ⟨by simp [go_sem], by simp [go_sem], by simp⟩⟩)
  have P2 := Hf.mk (B1.out.alloc B1.out.size (.cells #[.int .i64 W, .int .i64 Hh, sl g3 n k3] 26))
  have s2 : w1.heap.size + 1 = (w1.alloc (.cells #[.int .i64 W, .int .i64 Hh, sl g3 n k3] 26)).heap.size := by simp
  clear r0 r1 r2 p0 p1 p2 q0 q1 q2 r0c r1c r2c p0c p1c p2c q0c q1c q2c r0z r1z r2z p0z p1z p2z q0z q1z q2z r0l r1l r2l p0l p1l p2l q0l q1l q2l O1
  generalize (w1.alloc (.cells #[.int .i64 W, .int .i64 Hh, sl g3 n k3] 26)) = w2 at *
  go_loopw [11] (fun i wr => ∃ m : Nat, m ≤ n ∧ i = .int .i64 m ∧ Hf (∃ u, Own wr w.heap.size 29 g3 k3 n u ∧ ∀ j, j < m → u j = wgC x y f h j) ∧ Hf (Kp4 g3 g3 g3 g3 w2 wr)) (fun i _ => n - (intOf i).toNat)
  case atStart => exact ⟨0, by omega, rfl, ⟨⟨_, O2.out, fun j hj => absurd hj (Nat.not_lt_zero j)⟩⟩, ⟨Kp4.refl _⟩⟩
  case round =>
    obtain ⟨m, hm, rfl, hown, hkp⟩ := hrel
    obtain ⟨W3, hW3⟩ : ∃ W3, W3 = wr := ⟨_, rfl⟩
    subst hW3
    obtain ⟨u, hO, hu⟩ := hown.out
    have HO := Hf.mk hO
    have HU := Hf.mk hu
    clear hO hu hown
    have CC := Hf.mk (hkp.out.cs CC2.out (by omega) (by omega) (by omega) (by omega))
    have c0 := CC.out.x0.cell
    have c1 := CC.out.x1.cell
    have c2 := CC.out.x2.cell
    by_cases hlt : m < n
    · have r2 := (hkp.out.cs RC.out (by omega) (by omega) (by omega) (by omega)).x2.cell
      have p2 := (hkp.out.cs PC.out (by omega) (by omega) (by omega) (by omega)).x2.cell
      have e1 := (X3.out.kp hkp.out (by omega) (by omega) (by omega) (by omega)) m hlt
      have e2 := (X4.out.kp hkp.out (by omega) (by omega) (by omega) (by omega)) m hlt
      obtain ⟨ro, ko, _⟩ := HO.out.cell hlt
      have zo := HO.out.free m
      have f1 := FF.out m
      have f2 := FH.out m
      go_wp2
      refine region_tell (C := Dr W3) 19 (by kernel_rfl) (by kernel_rfl) ⟨1, rfl⟩ (fun K L hK => lexS_start ?_)
      simp only [List.take_succ_cons, List.take_zero]
      repeat (refine tS_val ?_ rfl (fun i hi q => ?_) ?_; rotate_left; (focus (go_simp; rfl)); simp only [Act.put, List.setIfInBounds_toArray, List.set_cons_succ, List.set_cons_zero])
      refine tS_fop _ _ rfl rfl rfl (fun i hi => ⟨_, rfl, fx⟩) (fun i hi => ⟨_, rfl, f1⟩) ?_
      simp only [Act.put, List.setIfInBounds_toArray, List.set_cons_succ, List.set_cons_zero]
      repeat (refine tS_val ?_ rfl (fun i hi q => ?_) ?_; rotate_left; (focus (go_simp; rfl)); simp only [Act.put, List.setIfInBounds_toArray, List.set_cons_succ, List.set_cons_zero])
      refine tS_fop _ _ rfl rfl rfl (fun i hi => ⟨_, rfl, fy⟩) (fun i hi => ⟨_, rfl, f2⟩) ?_
      simp only [Act.put, List.setIfInBounds_toArray, List.set_cons_succ, List.set_cons_zero]
      refine tS_fop _ _ rfl rfl rfl (fun i hi => ⟨_, rfl, hi.1.2⟩) (fun i hi => ⟨_, rfl, hi.2⟩) ?_
      simp only [Act.put, List.setIfInBounds_toArray, List.set_cons_succ, List.set_cons_zero]
      repeat (refine tS_val ?_ rfl (fun i hi q => ?_) ?_; rotate_left; (focus (go_simp; rfl)); simp only [Act.put, List.setIfInBounds_toArray, List.set_cons_succ, List.set_cons_zero])
      refine lexS_end ?_
      rintro ⟨⟨⟨_, z1⟩, z2⟩, z3⟩ ⟨⟨⟨_, h1⟩, h2⟩, h3⟩
      refine hK _ ?_
      rintro w' ⟨z, rfl⟩
      simp only [List.drop_succ_cons, List.drop_zero]
      go_wp2
      go_roundw
      case rel =>
        refine ⟨m + 1, by omega, i_ext2 (by omega), ⟨⟨_, (HO.out.drews z).set hlt h3, fun j hj => ?_⟩⟩, ⟨(hkp.out.drews z).set _ (.inl rfl)⟩⟩
        show (if j = m then _ else u j) = _
        by_cases he : j = m
        · subst he; rw [if_pos rfl]; rfl
        · rw [if_neg he]; exact HU.out j (by omega)
      case measure => simp [intOf]; omega
    · obtain rfl : n = m := by omega
      have OM := Hf.mk (HO.out.mono (Nat.le_refl _) HU.out)
      have QC := Hf.mk (hkp.out.cs QC2.out (by omega) (by omega) (by omega) (by omega))
      have PZ := Hf.mk (hkp.out.on P2.out P2.out.size (by omega) (by omega) (by omega) (by omega))
      have KN := Hf.mk (fun W' (k : Told W' g3 n (wgC x y f h)) => l06Give_any (k := k3) (wd := (W : Int)) (hg := (Hh : Int)) W' k (by omega))
      rw [KG.out] at KN
      cases hv : finB n (wgC x y f h)
      · have HV := Hf.mk hv
        rw [hv] at KN
        clear hv
        simp only [if_false, Bool.false_eq_true] at KN
        go_wp2_with (first | (go_at_call 88; refine (KN.out _ (OM.out.told.below (by repeat (first | exact Below.refl _ _ | with_reducible assumption | refine Below.drews ?_ | refine Below.drew ?_ | refine Below.alloc ?_ (by simp <;> omega) _ | refine Below.setCell ?_ (by simp <;> omega) _)))).mono ?_; rintro e w5 ⟨rfl, b5⟩; have B5 := Hb.mk (Below.on PZ.out b5 PZ.out.size); have C5 := QC.out.below b5; have q0c := C5.x0.cell; have q1c := C5.x1.cell; have q2c := C5.x2.cell; have q0z := C5.x0.free; have q1z := C5.x1.free; have q2z := C5.x2.free; have O5 := Hf.mk (OM.out.below b5); clear b5 C5))
        exact bodyPost_ret (v := .tuple #[gd 0 0 (.slice none 0 0), .bool false]) (by simp [results, Try.results38, go_sem, q0c, q1c, q2c]) rfl (RG.no HV.out (by repeat (first | with_reducible refine Below.setCell ?_ (by first | omega | (simp <;> omega)) _ | with_reducible refine Below.drews ?_ | with_reducible refine Below.drew ?_ | with_reducible refine Below.alloc ?_ (by first | omega | (simp <;> omega)) _ | with_reducible exact B5.out | with_reducible exact Below.refl _ _)))
      · have HV := Hf.mk hv
        rw [hv] at KN
        clear hv
        simp only [if_true] at KN
        go_wp2_with (first | (go_at_call 88; refine (KN.out _ (OM.out.told.below (by repeat (first | exact Below.refl _ _ | with_reducible assumption | refine Below.drews ?_ | refine Below.drew ?_ | refine Below.alloc ?_ (by simp <;> omega) _ | refine Below.setCell ?_ (by simp <;> omega) _)))).mono ?_; rintro e w5 ⟨rfl, b5⟩; have B5 := Hb.mk (Below.on PZ.out b5 PZ.out.size); have C5 := QC.out.below b5; have q0c := C5.x0.cell; have q1c := C5.x1.cell; have q2c := C5.x2.cell; have q0z := C5.x0.free; have q1z := C5.x1.free; have q2z := C5.x2.free; have O5 := Hf.mk (OM.out.below b5); clear b5 C5))
        refine bodyPost_ret (v := .tuple #[gd W Hh (sl g3 n k3), .bool true]) (by simp [results, Try.results38, go_sem, q0c, q1c, q2c]) rfl (.inl ⟨HV.out, ⟨_, _, rfl, ?_⟩, (by repeat (first | with_reducible refine Below.setCell ?_ (by first | omega | (simp <;> omega)) _ | with_reducible refine Below.drews ?_ | with_reducible refine Below.drew ?_ | with_reducible refine Below.alloc ?_ (by first | omega | (simp <;> omega)) _ | with_reducible exact B5.out | with_reducible exact Below.refl _ _))⟩)
        exact ((O5.out.other (by simp; omega) _).other (by simp; omega) _).other (by simp; omega) _
set_option maxHeartbeats 4000000 in
theorem iWg_n1 {g1 g2 n m k1 k2 x y xr yr : Nat} {wd hg wd2 hg2 : Int} {f h : Nat → Nat} (w : World) (hf : Told w g1 n f) (hh : Told w g2 m h) (hl : n ≤ 1048576) (hl2 : m ≤ 1048576) (fx : Fl .f32 x xr) (fy : Fl .f32 y yr) (q1 : gridB wd hg n f = false) : Calls Try.prog 39 #[gd wd hg (sl g1 n k1), gd wd2 hg2 (sl g2 m k2), .float .f32 xr, .float .f32 yr] w (RN w) := by
  have HF := Hf.mk hf
  have HH := Hf.mk hh
  have B0 := Hb.mk (Below.refl w.heap.size w)
  have KI1 := Hf.mk (fun W (h : Told W g1 n f) => iValid_any (k := k1) (wd := wd) (hg := hg) W h hl)
  rw [q1] at KI1
  clear hf hh q1
  go_enter Try.func39, Try.ntmps39
  go_wp2
  refine region_all (by kernel_rfl) (by kernel_rfl) (fun I F hne HB hcl => ?_)
  have p0 := keepF HB (p := ⟨w.heap.size, 0, none⟩) (v := .int .i64 wd) (by simp [go_sem])
  have p1 := keepF HB (p := ⟨w.heap.size, 1, none⟩) (v := .int .i64 hg) (by simp [go_sem])
  have p2 := keepF HB (p := ⟨w.heap.size, 2, none⟩) (v := sl g1 n k1) (by simp [go_sem])
  have p3 := keepF HB (p := ⟨w.heap.size + 1, 0, none⟩) (v := .int .i64 wd2) (by simp [go_sem])
  have p4 := keepF HB (p := ⟨w.heap.size + 1, 1, none⟩) (v := .int .i64 hg2) (by simp [go_sem])
  have p5 := keepF HB (p := ⟨w.heap.size + 1, 2, none⟩) (v := sl g2 m k2) (by simp [go_sem])
  have T1 := Hf.mk (fun i => (HF.out.below (by repeat (first | exact Below.refl _ _ | refine Below.alloc ?_ (by first | omega | (simp; done) | (simp; omega)) _))).below (HB.out i))
  have T2 := Hf.mk (fun i => (HH.out.below (by repeat (first | exact Below.refl _ _ | refine Below.alloc ?_ (by first | omega | (simp; done) | (simp; omega)) _))).below (HB.out i))
  iterate 4 (quiet_step (first | (go_at_call 32; exact callS hcl (KI1.out _ (T1.out _)))))
  iterate 3 (with_reducible refine quiet_nott (by kernel_rfl) ?_)
  iterate 2 (quiet_step (first | fail))
  iterate 5 (with_reducible refine quiet_nott (by kernel_rfl) ?_)
  iterate 1 (quiet_step (first | fail))
  refine wpQuiet_nil ?_
  intro _ hw'
  obtain ⟨iq, rfl⟩ := hw'
  clear hcl
  have b9 := HB.out iq
  have B1 := Hb.mk (Below.on (B := w.heap.size) (a := w) (by repeat (first | exact B0.out | refine Below.drews ?_ | refine Below.drew ?_ | refine Below.alloc ?_ (by have hq_ := B0.out.size; first | omega | (simp <;> omega)) _ | refine Below.setCell ?_ (by have hq_ := B0.out.size; first | omega | (simp <;> omega)) _)) b9 (by have hq_ := B0.out.size; first | omega | (simp <;> omega)))
  have q0 := Hb.mk (At.keep b9 (p := ⟨(w.heap.size + 4), 0, none⟩) (v := .int .i64 0) (by simp [go_sem]) (by simp [go_sem])); obtain ⟨q0c, q0z, q0l⟩ := q0.out; have q1 := Hb.mk (At.keep b9 (p := ⟨(w.heap.size + 4), 1, none⟩) (v := .int .i64 0) (by simp [go_sem]) (by simp [go_sem])); obtain ⟨q1c, q1z, q1l⟩ := q1.out; have q2 := Hb.mk (At.keep b9 (p := ⟨(w.heap.size + 4), 2, none⟩) (v := .slice none 0 0) (by simp [go_sem]) (by simp [go_sem])); obtain ⟨q2c, q2z, q2l⟩ := q2.out
  clear b9
  go_wp2
  exact bodyPost_ret (v := .tuple #[gd 0 0 (.slice none 0 0), .bool false]) (by simp [results, Try.results39, go_sem, q0c, q1c, q2c]) rfl ⟨rfl, (by repeat (first | with_reducible refine Below.setCell ?_ (by first | omega | (simp <;> omega)) _ | with_reducible refine Below.drews ?_ | with_reducible refine Below.drew ?_ | with_reducible refine Below.alloc ?_ (by first | omega | (simp <;> omega)) _ | with_reducible exact B1.out | with_reducible exact Below.refl _ _))⟩
set_option maxHeartbeats 4000000 in
theorem iWg_n2 {g1 g2 n m k1 k2 x y xr yr : Nat} {wd hg wd2 hg2 : Int} {f h : Nat → Nat} (w : World) (hf : Told w g1 n f) (hh : Told w g2 m h) (hl : n ≤ 1048576) (hl2 : m ≤ 1048576) (fx : Fl .f32 x xr) (fy : Fl .f32 y yr) (q1 : gridB wd hg n f = true) (q2 : gridB wd2 hg2 m h = false) : Calls Try.prog 39 #[gd wd hg (sl g1 n k1), gd wd2 hg2 (sl g2 m k2), .float .f32 xr, .float .f32 yr] w (RN w) := by
  have HF := Hf.mk hf
  have HH := Hf.mk hh
  have B0 := Hb.mk (Below.refl w.heap.size w)
  have KI1 := Hf.mk (fun W (h : Told W g1 n f) => iValid_any (k := k1) (wd := wd) (hg := hg) W h hl)
  rw [q1] at KI1
  have KI2 := Hf.mk (fun W (h : Told W g2 m h) => iValid_any (k := k2) (wd := wd2) (hg := hg2) W h hl2)
  rw [q2] at KI2
  clear hf hh q1 q2
  go_enter Try.func39, Try.ntmps39
  go_wp2
  refine region_all (by kernel_rfl) (by kernel_rfl) (fun I F hne HB hcl => ?_)
  have p0 := keepF HB (p := ⟨w.heap.size, 0, none⟩) (v := .int .i64 wd) (by simp [go_sem])
  have p1 := keepF HB (p := ⟨w.heap.size, 1, none⟩) (v := .int .i64 hg) (by simp [go_sem])
  have p2 := keepF HB (p := ⟨w.heap.size, 2, none⟩) (v := sl g1 n k1) (by simp [go_sem])
  have p3 := keepF HB (p := ⟨w.heap.size + 1, 0, none⟩) (v := .int .i64 wd2) (by simp [go_sem])
  have p4 := keepF HB (p := ⟨w.heap.size + 1, 1, none⟩) (v := .int .i64 hg2) (by simp [go_sem])
  have p5 := keepF HB (p := ⟨w.heap.size + 1, 2, none⟩) (v := sl g2 m k2) (by simp [go_sem])
  have T1 := Hf.mk (fun i => (HF.out.below (by repeat (first | exact Below.refl _ _ | refine Below.alloc ?_ (by first | omega | (simp; done) | (simp; omega)) _))).below (HB.out i))
  have T2 := Hf.mk (fun i => (HH.out.below (by repeat (first | exact Below.refl _ _ | refine Below.alloc ?_ (by first | omega | (simp; done) | (simp; omega)) _))).below (HB.out i))
  iterate 4 (quiet_step (first | (go_at_call 32; exact callS hcl (KI1.out _ (T1.out _)))))
  iterate 5 (quiet_step (first | (go_at_call 32; exact callS hcl (KI2.out _ (T2.out _)))))
  iterate 5 (with_reducible refine quiet_nott (by kernel_rfl) ?_)
  iterate 1 (quiet_step (first | fail))
  refine wpQuiet_nil ?_
  intro _ hw'
  obtain ⟨iq, rfl⟩ := hw'
  clear hcl
  have b9 := HB.out iq
  have B1 := Hb.mk (Below.on (B := w.heap.size) (a := w) (by repeat (first | exact B0.out | refine Below.drews ?_ | refine Below.drew ?_ | refine Below.alloc ?_ (by have hq_ := B0.out.size; first | omega | (simp <;> omega)) _ | refine Below.setCell ?_ (by have hq_ := B0.out.size; first | omega | (simp <;> omega)) _)) b9 (by have hq_ := B0.out.size; first | omega | (simp <;> omega)))
  have q0 := Hb.mk (At.keep b9 (p := ⟨(w.heap.size + 4), 0, none⟩) (v := .int .i64 0) (by simp [go_sem]) (by simp [go_sem])); obtain ⟨q0c, q0z, q0l⟩ := q0.out; have q1 := Hb.mk (At.keep b9 (p := ⟨(w.heap.size + 4), 1, none⟩) (v := .int .i64 0) (by simp [go_sem]) (by simp [go_sem])); obtain ⟨q1c, q1z, q1l⟩ := q1.out; have q2 := Hb.mk (At.keep b9 (p := ⟨(w.heap.size + 4), 2, none⟩) (v := .slice none 0 0) (by simp [go_sem]) (by simp [go_sem])); obtain ⟨q2c, q2z, q2l⟩ := q2.out
  clear b9
  go_wp2
  exact bodyPost_ret (v := .tuple #[gd 0 0 (.slice none 0 0), .bool false]) (by simp [results, Try.results39, go_sem, q0c, q1c, q2c]) rfl ⟨rfl, (by repeat (first | with_reducible refine Below.setCell ?_ (by first | omega | (simp <;> omega)) _ | with_reducible refine Below.drews ?_ | with_reducible refine Below.drew ?_ | with_reducible refine Below.alloc ?_ (by first | omega | (simp <;> omega)) _ | with_reducible exact B1.out | with_reducible exact Below.refl _ _))⟩
set_option maxHeartbeats 4000000 in
theorem iWg_n3 {g1 g2 n m k1 k2 x y xr yr : Nat} {wd hg wd2 hg2 : Int} {f h : Nat → Nat} (w : World) (hf : Told w g1 n f) (hh : Told w g2 m h) (hl : n ≤ 1048576) (hl2 : m ≤ 1048576) (fx : Fl .f32 x xr) (fy : Fl .f32 y yr) (q1 : gridB wd hg n f = true) (q2 : gridB wd2 hg2 m h = true) (q5 : ¬ wd = wd2) : Calls Try.prog 39 #[gd wd hg (sl g1 n k1), gd wd2 hg2 (sl g2 m k2), .float .f32 xr, .float .f32 yr] w (RN w) := by
  have HF := Hf.mk hf
  have HH := Hf.mk hh
  have B0 := Hb.mk (Below.refl w.heap.size w)
  have KI1 := Hf.mk (fun W (h : Told W g1 n f) => iValid_any (k := k1) (wd := wd) (hg := hg) W h hl)
  rw [q1] at KI1
  have KI2 := Hf.mk (fun W (h : Told W g2 m h) => iValid_any (k := k2) (wd := wd2) (hg := hg2) W h hl2)
  rw [q2] at KI2
  clear hf hh q1 q2
  go_enter Try.func39, Try.ntmps39
  go_wp2
  refine region_all (by kernel_rfl) (by kernel_rfl) (fun I F hne HB hcl => ?_)
  have p0 := keepF HB (p := ⟨w.heap.size, 0, none⟩) (v := .int .i64 wd) (by simp [go_sem])
  have p1 := keepF HB (p := ⟨w.heap.size, 1, none⟩) (v := .int .i64 hg) (by simp [go_sem])
  have p2 := keepF HB (p := ⟨w.heap.size, 2, none⟩) (v := sl g1 n k1) (by simp [go_sem])
  have p3 := keepF HB (p := ⟨w.heap.size + 1, 0, none⟩) (v := .int .i64 wd2) (by simp [go_sem])
  have p4 := keepF HB (p := ⟨w.heap.size + 1, 1, none⟩) (v := .int .i64 hg2) (by simp [go_sem])
  have p5 := keepF HB (p := ⟨w.heap.size + 1, 2, none⟩) (v := sl g2 m k2) (by simp [go_sem])
  have T1 := Hf.mk (fun i => (HF.out.below (by repeat (first | exact Below.refl _ _ | refine Below.alloc ?_ (by first | omega | (simp; done) | (simp; omega)) _))).below (HB.out i))
  have T2 := Hf.mk (fun i => (HH.out.below (by repeat (first | exact Below.refl _ _ | refine Below.alloc ?_ (by first | omega | (simp; done) | (simp; omega)) _))).below (HB.out i))
  iterate 4 (quiet_step (first | (go_at_call 32; exact callS hcl (KI1.out _ (T1.out _)))))
  iterate 5 (quiet_step (first | (go_at_call 32; exact callS hcl (KI2.out _ (T2.out _)))))
  iterate 6 (quiet_step (first | (go_at_call 72; exact callS hcl (sides_any _ _ _ _))))
  refine wpQuiet_nil ?_
  intro _ hw'
  obtain ⟨iq, rfl⟩ := hw'
  clear hcl
  have b9 := HB.out iq
  have B1 := Hb.mk (Below.on (B := w.heap.size) (a := w) (by repeat (first | exact B0.out | refine Below.drews ?_ | refine Below.drew ?_ | refine Below.alloc ?_ (by have hq_ := B0.out.size; first | omega | (simp <;> omega)) _ | refine Below.setCell ?_ (by have hq_ := B0.out.size; first | omega | (simp <;> omega)) _)) b9 (by have hq_ := B0.out.size; first | omega | (simp <;> omega)))
  have q0 := Hb.mk (At.keep b9 (p := ⟨(w.heap.size + 4), 0, none⟩) (v := .int .i64 0) (by simp [go_sem]) (by simp [go_sem])); obtain ⟨q0c, q0z, q0l⟩ := q0.out; have q1 := Hb.mk (At.keep b9 (p := ⟨(w.heap.size + 4), 1, none⟩) (v := .int .i64 0) (by simp [go_sem]) (by simp [go_sem])); obtain ⟨q1c, q1z, q1l⟩ := q1.out; have q2 := Hb.mk (At.keep b9 (p := ⟨(w.heap.size + 4), 2, none⟩) (v := .slice none 0 0) (by simp [go_sem]) (by simp [go_sem])); obtain ⟨q2c, q2z, q2l⟩ := q2.out
  clear b9
  go_wp2
  exact bodyPost_ret (v := .tuple #[gd 0 0 (.slice none 0 0), .bool false]) (by simp [results, Try.results39, go_sem, q0c, q1c, q2c]) rfl ⟨rfl, (by repeat (first | with_reducible refine Below.setCell ?_ (by first | omega | (simp <;> omega)) _ | with_reducible refine Below.drews ?_ | with_reducible refine Below.drew ?_ | with_reducible refine Below.alloc ?_ (by first | omega | (simp <;> omega)) _ | with_reducible exact B1.out | with_reducible exact Below.refl _ _))⟩
set_option maxHeartbeats 4000000 in
theorem iWg_n4 {g1 g2 n m k1 k2 x y xr yr : Nat} {wd hg hg2 : Int} {f h : Nat → Nat} (w : World) (hf : Told w g1 n f) (hh : Told w g2 m h) (hl : n ≤ 1048576) (hl2 : m ≤ 1048576) (fx : Fl .f32 x xr) (fy : Fl .f32 y yr) (q1 : gridB wd hg n f = true) (q2 : gridB wd hg2 m h = true) (q5 : ¬ hg = hg2) : Calls Try.prog 39 #[gd wd hg (sl g1 n k1), gd wd hg2 (sl g2 m k2), .float .f32 xr, .float .f32 yr] w (RN w) := by
  have HF := Hf.mk hf
  have HH := Hf.mk hh
  have B0 := Hb.mk (Below.refl w.heap.size w)
  have KI1 := Hf.mk (fun W (h : Told W g1 n f) => iValid_any (k := k1) (wd := wd) (hg := hg) W h hl)
  rw [q1] at KI1
  have KI2 := Hf.mk (fun W (h : Told W g2 m h) => iValid_any (k := k2) (wd := wd) (hg := hg2) W h hl2)
  rw [q2] at KI2
  clear hf hh q1 q2
  go_enter Try.func39, Try.ntmps39
  go_wp2
  refine region_all (by kernel_rfl) (by kernel_rfl) (fun I F hne HB hcl => ?_)
  have p0 := keepF HB (p := ⟨w.heap.size, 0, none⟩) (v := .int .i64 wd) (by simp [go_sem])
  have p1 := keepF HB (p := ⟨w.heap.size, 1, none⟩) (v := .int .i64 hg) (by simp [go_sem])
  have p2 := keepF HB (p := ⟨w.heap.size, 2, none⟩) (v := sl g1 n k1) (by simp [go_sem])
  have p3 := keepF HB (p := ⟨w.heap.size + 1, 0, none⟩) (v := .int .i64 wd) (by simp [go_sem])
  have p4 := keepF HB (p := ⟨w.heap.size + 1, 1, none⟩) (v := .int .i64 hg2) (by simp [go_sem])
  have p5 := keepF HB (p := ⟨w.heap.size + 1, 2, none⟩) (v := sl g2 m k2) (by simp [go_sem])
  have T1 := Hf.mk (fun i => (HF.out.below (by repeat (first | exact Below.refl _ _ | refine Below.alloc ?_ (by first | omega | (simp; done) | (simp; omega)) _))).below (HB.out i))
  have T2 := Hf.mk (fun i => (HH.out.below (by repeat (first | exact Below.refl _ _ | refine Below.alloc ?_ (by first | omega | (simp; done) | (simp; omega)) _))).below (HB.out i))
  iterate 4 (quiet_step (first | (go_at_call 32; exact callS hcl (KI1.out _ (T1.out _)))))
  iterate 5 (quiet_step (first | (go_at_call 32; exact callS hcl (KI2.out _ (T2.out _)))))
  iterate 6 (quiet_step (first | (go_at_call 72; exact callS hcl (sides_any _ _ _ _))))
  refine wpQuiet_nil ?_
  intro _ hw'
  obtain ⟨iq, rfl⟩ := hw'
  clear hcl
  have b9 := HB.out iq
  have B1 := Hb.mk (Below.on (B := w.heap.size) (a := w) (by repeat (first | exact B0.out | refine Below.drews ?_ | refine Below.drew ?_ | refine Below.alloc ?_ (by have hq_ := B0.out.size; first | omega | (simp <;> omega)) _ | refine Below.setCell ?_ (by have hq_ := B0.out.size; first | omega | (simp <;> omega)) _)) b9 (by have hq_ := B0.out.size; first | omega | (simp <;> omega)))
  have q0 := Hb.mk (At.keep b9 (p := ⟨(w.heap.size + 4), 0, none⟩) (v := .int .i64 0) (by simp [go_sem]) (by simp [go_sem])); obtain ⟨q0c, q0z, q0l⟩ := q0.out; have q1 := Hb.mk (At.keep b9 (p := ⟨(w.heap.size + 4), 1, none⟩) (v := .int .i64 0) (by simp [go_sem]) (by simp [go_sem])); obtain ⟨q1c, q1z, q1l⟩ := q1.out; have q2 := Hb.mk (At.keep b9 (p := ⟨(w.heap.size + 4), 2, none⟩) (v := .slice none 0 0) (by simp [go_sem]) (by simp [go_sem])); obtain ⟨q2c, q2z, q2l⟩ := q2.out
  clear b9
  go_wp2
  exact bodyPost_ret (v := .tuple #[gd 0 0 (.slice none 0 0), .bool false]) (by simp [results, Try.results39, go_sem, q0c, q1c, q2c]) rfl ⟨rfl, (by repeat (first | with_reducible refine Below.setCell ?_ (by first | omega | (simp <;> omega)) _ | with_reducible refine Below.drews ?_ | with_reducible refine Below.drew ?_ | with_reducible refine Below.alloc ?_ (by first | omega | (simp <;> omega)) _ | with_reducible exact B1.out | with_reducible exact Below.refl _ _))⟩
theorem RG.below {T : TypeId} {ok : Bool} {wd hg : Int} {n : Nat} {h : Nat → Nat} {w w' : World} {e : Ending} (r : RG T ok wd hg n h w e w') : Below w.heap.size w w' := by
  rcases r with ⟨_, _, h⟩ | ⟨_, _, h⟩ <;> exact h
set_option maxHeartbeats 8000000 in
theorem iWg_yes {g1 g2 n k1 k2 x y xr yr W Hh : Nat} {f h : Nat → Nat} (w : World) (hf : Told w g1 n f) (hh : Told w g2 n h) (ff : ∀ j, Fl .f32 (f j) (f j)) (fh : ∀ j, Fl .f32 (h j) (h j)) (fx : Fl .f32 x xr) (fy : Fl .f32 y yr) (q1 : gridB (W : Int) (Hh : Int) n f = true) (q2 : gridB (W : Int) (Hh : Int) n h = true) (hG : Gr (W : Int) (Hh : Int) n f W Hh) (hG2 : finB n h = true) : Calls Try.prog 39 #[gd W Hh (sl g1 n k1), gd W Hh (sl g2 n k2), .float .f32 xr, .float .f32 yr] w (RG 29 (finB n (wgC x y f h)) W Hh n (wgC x y f h) w) := by
  have n256 := hG.n256
  have hl : n ≤ 1048576 := by omega
  have HF := Hf.mk hf
  have HH := Hf.mk hh
  have FF := Hf.mk ff
  have FH := Hf.mk fh
  have X1 := Hf.mk (hf.exact hG.fin)
  have X2 := Hf.mk (hh.exact hG2)
  have B0 := Hb.mk (Below.refl w.heap.size w)
  have KI1 := Hf.mk (fun W' (h : Told W' g1 n f) => iValid_any (k := k1) (wd := (W : Int)) (hg := (Hh : Int)) W' h hl)
  rw [q1] at KI1
  have KI2 := Hf.mk (fun W' (h : Told W' g2 n h) => iValid_any (k := k2) (wd := (W : Int)) (hg := (Hh : Int)) W' h hl)
  rw [q2] at KI2
  have KE := Hf.mk (show (W : Int) * (Hh : Int) = (n : Int) by rw [hG.nn, Int.natCast_mul])
  have KT := Hf.mk (show ((W : Int) * (Hh : Int)).toNat = n by rw [KE.out, Int.toNat_natCast])
  have KO := Hf.mk (show (sideB (W : Int) (Hh : Int) && finB n (wgC x y f h)) = finB n (wgC x y f h) by rw [sideB_yes (by have := hG.w2; omega) (by have := hG.w16; omega) (by have := hG.h2; omega) (by have := hG.h16; omega), Bool.true_and])
  clear hf hh ff fh q1 q2 hG hG2
  go_enter Try.func39, Try.ntmps39
  go_wp2
  refine region_all (by kernel_rfl) (by kernel_rfl) (fun I F hne HB hcl => ?_)
  have p0 := keepF HB (p := ⟨w.heap.size, 0, none⟩) (v := .int .i64 W) (by simp [go_sem])
  have p1 := keepF HB (p := ⟨w.heap.size, 1, none⟩) (v := .int .i64 Hh) (by simp [go_sem])
  have p2 := keepF HB (p := ⟨w.heap.size, 2, none⟩) (v := sl g1 n k1) (by simp [go_sem])
  have p3 := keepF HB (p := ⟨w.heap.size + 1, 0, none⟩) (v := .int .i64 W) (by simp [go_sem])
  have p4 := keepF HB (p := ⟨w.heap.size + 1, 1, none⟩) (v := .int .i64 Hh) (by simp [go_sem])
  have p5 := keepF HB (p := ⟨w.heap.size + 1, 2, none⟩) (v := sl g2 n k2) (by simp [go_sem])
  have T1 := Hf.mk (fun i => (HF.out.below (by repeat (first | exact Below.refl _ _ | refine Below.alloc ?_ (by first | omega | (simp; done) | (simp; omega)) _))).below (HB.out i))
  have T2 := Hf.mk (fun i => (HH.out.below (by repeat (first | exact Below.refl _ _ | refine Below.alloc ?_ (by first | omega | (simp; done) | (simp; omega)) _))).below (HB.out i))
  iterate 4 (quiet_step (first | (go_at_call 32; exact callS hcl (KI1.out _ (T1.out _)))))
  iterate 5 (quiet_step (first | (go_at_call 32; exact callS hcl (KI2.out _ (T2.out _)))))
  iterate 6 (quiet_step (first | (go_at_call 72; exact callS hcl (sides_any _ _ _ _))))
  refine wpQuiet_nil ?_
  intro _ hw'
  obtain ⟨iq, rfl⟩ := hw'
  clear hcl
  have b9 := HB.out iq
  have B1 := Hb.mk (Below.on (B := w.heap.size) (a := w) (by repeat (first | exact B0.out | refine Below.drews ?_ | refine Below.drew ?_ | refine Below.alloc ?_ (by have hq_ := B0.out.size; first | omega | (simp <;> omega)) _ | refine Below.setCell ?_ (by have hq_ := B0.out.size; first | omega | (simp <;> omega)) _)) b9 (by have hq_ := B0.out.size; first | omega | (simp <;> omega)))
  have r0 := Hb.mk (At.keep b9 (p := ⟨(w.heap.size), 0, none⟩) (v := .int .i64 W) (by simp [go_sem]) (by simp [go_sem])); obtain ⟨r0c, r0z, r0l⟩ := r0.out; have r1 := Hb.mk (At.keep b9 (p := ⟨(w.heap.size), 1, none⟩) (v := .int .i64 Hh) (by simp [go_sem]) (by simp [go_sem])); obtain ⟨r1c, r1z, r1l⟩ := r1.out; have r2 := Hb.mk (At.keep b9 (p := ⟨(w.heap.size), 2, none⟩) (v := sl g1 n k1) (by simp [go_sem]) (by simp [go_sem])); obtain ⟨r2c, r2z, r2l⟩ := r2.out
  have s0 := Hb.mk (At.keep b9 (p := ⟨(w.heap.size + 1), 0, none⟩) (v := .int .i64 W) (by simp [go_sem]) (by simp [go_sem])); obtain ⟨s0c, s0z, s0l⟩ := s0.out; have s1 := Hb.mk (At.keep b9 (p := ⟨(w.heap.size + 1), 1, none⟩) (v := .int .i64 Hh) (by simp [go_sem]) (by simp [go_sem])); obtain ⟨s1c, s1z, s1l⟩ := s1.out; have s2 := Hb.mk (At.keep b9 (p := ⟨(w.heap.size + 1), 2, none⟩) (v := sl g2 n k2) (by simp [go_sem]) (by simp [go_sem])); obtain ⟨s2c, s2z, s2l⟩ := s2.out
  have u0 := Hb.mk (At.keep b9 (p := ⟨(w.heap.size + 2), 0, none⟩) (v := .float .f32 xr) (by simp [go_sem]) (by simp [go_sem])); obtain ⟨u0c, u0z, u0l⟩ := u0.out
  have v0 := Hb.mk (At.keep b9 (p := ⟨(w.heap.size + 3), 0, none⟩) (v := .float .f32 yr) (by simp [go_sem]) (by simp [go_sem])); obtain ⟨v0c, v0z, v0l⟩ := v0.out
  have q0 := Hb.mk (At.keep b9 (p := ⟨(w.heap.size + 4), 0, none⟩) (v := .int .i64 0) (by simp [go_sem]) (by simp [go_sem])); obtain ⟨q0c, q0z, q0l⟩ := q0.out; have q1 := Hb.mk (At.keep b9 (p := ⟨(w.heap.size + 4), 1, none⟩) (v := .int .i64 0) (by simp [go_sem]) (by simp [go_sem])); obtain ⟨q1c, q1z, q1l⟩ := q1.out; have q2 := Hb.mk (At.keep b9 (p := ⟨(w.heap.size + 4), 2, none⟩) (v := .slice none 0 0) (by simp [go_sem]) (by simp [go_sem])); obtain ⟨q2c, q2z, q2l⟩ := q2.out
  clear b9 p0 p1 p2 p3 p4 p5 T1 T2
  generalize F iq = w1 at *
  clear HB hne
  cases hv : finB n (wgC x y f h)
  · have HV := Hf.mk hv
    clear hv
    go_wp2_with (first | (go_at_call 72; refine (sides_any _ _ _ _).mono ?_; rintro e w2 ⟨rfl, b2⟩; have B2 := Hb.mk (Below.on (B := w.heap.size) (a := w) (by repeat (first | exact B1.out | refine Below.drews ?_ | refine Below.drew ?_ | refine Below.alloc ?_ (by have hq_ := B1.out.size; first | omega | (simp <;> omega)) _ | refine Below.setCell ?_ (by have hq_ := B1.out.size; first | omega | (simp <;> omega)) _)) b2 (by have hq_ := B1.out.size; first | omega | (simp <;> omega))); have r0 := Hb.mk (At.re r0.out b2 (by first | exact r0c | simp [go_sem, r0c, r0l]) (by first | exact r0z | simp [go_sem, r0z, r0l])); obtain ⟨r0c, r0z, r0l⟩ := r0.out; have r1 := Hb.mk (At.re r1.out b2 (by first | exact r1c | simp [go_sem, r1c, r1l]) (by first | exact r1z | simp [go_sem, r1z, r1l])); obtain ⟨r1c, r1z, r1l⟩ := r1.out; have r2 := Hb.mk (At.re r2.out b2 (by first | exact r2c | simp [go_sem, r2c, r2l]) (by first | exact r2z | simp [go_sem, r2z, r2l])); obtain ⟨r2c, r2z, r2l⟩ := r2.out; have s0 := Hb.mk (At.re s0.out b2 (by first | exact s0c | simp [go_sem, s0c, s0l]) (by first | exact s0z | simp [go_sem, s0z, s0l])); obtain ⟨s0c, s0z, s0l⟩ := s0.out; have s1 := Hb.mk (At.re s1.out b2 (by first | exact s1c | simp [go_sem, s1c, s1l]) (by first | exact s1z | simp [go_sem, s1z, s1l])); obtain ⟨s1c, s1z, s1l⟩ := s1.out; have s2 := Hb.mk (At.re s2.out b2 (by first | exact s2c | simp [go_sem, s2c, s2l]) (by first | exact s2z | simp [go_sem, s2z, s2l])); obtain ⟨s2c, s2z, s2l⟩ := s2.out; have u0 := Hb.mk (At.re u0.out b2 (by first | exact u0c | simp [go_sem, u0c, u0l]) (by first | exact u0z | simp [go_sem, u0z, u0l])); obtain ⟨u0c, u0z, u0l⟩ := u0.out; have v0 := Hb.mk (At.re v0.out b2 (by first | exact v0c | simp [go_sem, v0c, v0l]) (by first | exact v0z | simp [go_sem, v0z, v0l])); obtain ⟨v0c, v0z, v0l⟩ := v0.out; have q0 := Hb.mk (At.re q0.out b2 (by first | exact q0c | simp [go_sem, q0c, q0l]) (by first | exact q0z | simp [go_sem, q0z, q0l])); obtain ⟨q0c, q0z, q0l⟩ := q0.out; have q1 := Hb.mk (At.re q1.out b2 (by first | exact q1c | simp [go_sem, q1c, q1l]) (by first | exact q1z | simp [go_sem, q1z, q1l])); obtain ⟨q1c, q1z, q1l⟩ := q1.out; have q2 := Hb.mk (At.re q2.out b2 (by first | exact q2c | simp [go_sem, q2c, q2l]) (by first | exact q2z | simp [go_sem, q2z, q2l])); obtain ⟨q2c, q2z, q2l⟩ := q2.out; clear b2) | (go_at_call 57; refine (gridOf_weigh (b1 := w.heap.size + 2) (b2 := w.heap.size) (b3 := w.heap.size + 3) (b4 := w.heap.size + 1) (F := wgC x y f h) _ (fun W hW j _ _ hj => weigh1_any W (by have e_ := KE.out; omega) (by have e_ := KE.out; omega) (Below.keep hW u0c) (Below.keep hW r2c) (Below.keep hW v0c) (Below.keep hW s2c) ((X1.out.below B2.out).below hW) ((X2.out.below B2.out).below hW) fx fy (FF.out _) (FH.out _))).mono ?_; rw [KT.out, KO.out, HV.out]; intro e w3 h3; obtain ⟨rfl, b3⟩ := h3.f; have B3 := Hb.mk (Below.on (B := w.heap.size) (a := w) (by repeat (first | exact B2.out | refine Below.drews ?_ | refine Below.drew ?_ | refine Below.alloc ?_ (by have hq_ := B2.out.size; first | omega | (simp <;> omega)) _ | refine Below.setCell ?_ (by have hq_ := B2.out.size; first | omega | (simp <;> omega)) _)) b3 (by have hq_ := B2.out.size; first | omega | (simp <;> omega))); have q0 := Hb.mk (At.re q0.out b3 (by first | exact q0c | simp [go_sem, q0c, q0l]) (by first | exact q0z | simp [go_sem, q0z, q0l])); obtain ⟨q0c, q0z, q0l⟩ := q0.out; have q1 := Hb.mk (At.re q1.out b3 (by first | exact q1c | simp [go_sem, q1c, q1l]) (by first | exact q1z | simp [go_sem, q1z, q1l])); obtain ⟨q1c, q1z, q1l⟩ := q1.out; have q2 := Hb.mk (At.re q2.out b3 (by first | exact q2c | simp [go_sem, q2c, q2l]) (by first | exact q2z | simp [go_sem, q2z, q2l])); obtain ⟨q2c, q2z, q2l⟩ := q2.out; clear b3 h3))
    exact bodyPost_ret (v := .tuple #[gd 0 0 (.slice none 0 0), .bool false]) (by simp [results, Try.results39, go_sem, q0c, q1c, q2c]) rfl (RG.no HV.out (by repeat (first | with_reducible refine Below.setCell ?_ (by first | omega | (simp <;> omega)) _ | with_reducible refine Below.drews ?_ | with_reducible refine Below.drew ?_ | with_reducible refine Below.alloc ?_ (by first | omega | (simp <;> omega)) _ | with_reducible exact B3.out | with_reducible exact Below.refl _ _)))
  · have HV := Hf.mk hv
    clear hv
    go_wp2_with (first | (go_at_call 72; refine (sides_any _ _ _ _).mono ?_; rintro e w2 ⟨rfl, b2⟩; have B2 := Hb.mk (Below.on (B := w.heap.size) (a := w) (by repeat (first | exact B1.out | refine Below.drews ?_ | refine Below.drew ?_ | refine Below.alloc ?_ (by have hq_ := B1.out.size; first | omega | (simp <;> omega)) _ | refine Below.setCell ?_ (by have hq_ := B1.out.size; first | omega | (simp <;> omega)) _)) b2 (by have hq_ := B1.out.size; first | omega | (simp <;> omega))); have r0 := Hb.mk (At.re r0.out b2 (by first | exact r0c | simp [go_sem, r0c, r0l]) (by first | exact r0z | simp [go_sem, r0z, r0l])); obtain ⟨r0c, r0z, r0l⟩ := r0.out; have r1 := Hb.mk (At.re r1.out b2 (by first | exact r1c | simp [go_sem, r1c, r1l]) (by first | exact r1z | simp [go_sem, r1z, r1l])); obtain ⟨r1c, r1z, r1l⟩ := r1.out; have r2 := Hb.mk (At.re r2.out b2 (by first | exact r2c | simp [go_sem, r2c, r2l]) (by first | exact r2z | simp [go_sem, r2z, r2l])); obtain ⟨r2c, r2z, r2l⟩ := r2.out; have s0 := Hb.mk (At.re s0.out b2 (by first | exact s0c | simp [go_sem, s0c, s0l]) (by first | exact s0z | simp [go_sem, s0z, s0l])); obtain ⟨s0c, s0z, s0l⟩ := s0.out; have s1 := Hb.mk (At.re s1.out b2 (by first | exact s1c | simp [go_sem, s1c, s1l]) (by first | exact s1z | simp [go_sem, s1z, s1l])); obtain ⟨s1c, s1z, s1l⟩ := s1.out; have s2 := Hb.mk (At.re s2.out b2 (by first | exact s2c | simp [go_sem, s2c, s2l]) (by first | exact s2z | simp [go_sem, s2z, s2l])); obtain ⟨s2c, s2z, s2l⟩ := s2.out; have u0 := Hb.mk (At.re u0.out b2 (by first | exact u0c | simp [go_sem, u0c, u0l]) (by first | exact u0z | simp [go_sem, u0z, u0l])); obtain ⟨u0c, u0z, u0l⟩ := u0.out; have v0 := Hb.mk (At.re v0.out b2 (by first | exact v0c | simp [go_sem, v0c, v0l]) (by first | exact v0z | simp [go_sem, v0z, v0l])); obtain ⟨v0c, v0z, v0l⟩ := v0.out; have q0 := Hb.mk (At.re q0.out b2 (by first | exact q0c | simp [go_sem, q0c, q0l]) (by first | exact q0z | simp [go_sem, q0z, q0l])); obtain ⟨q0c, q0z, q0l⟩ := q0.out; have q1 := Hb.mk (At.re q1.out b2 (by first | exact q1c | simp [go_sem, q1c, q1l]) (by first | exact q1z | simp [go_sem, q1z, q1l])); obtain ⟨q1c, q1z, q1l⟩ := q1.out; have q2 := Hb.mk (At.re q2.out b2 (by first | exact q2c | simp [go_sem, q2c, q2l]) (by first | exact q2z | simp [go_sem, q2z, q2l])); obtain ⟨q2c, q2z, q2l⟩ := q2.out; clear b2) | (go_at_call 57; refine (gridOf_weigh (b1 := w.heap.size + 2) (b2 := w.heap.size) (b3 := w.heap.size + 3) (b4 := w.heap.size + 1) (F := wgC x y f h) _ (fun W hW j _ _ hj => weigh1_any W (by have e_ := KE.out; omega) (by have e_ := KE.out; omega) (Below.keep hW u0c) (Below.keep hW r2c) (Below.keep hW v0c) (Below.keep hW s2c) ((X1.out.below B2.out).below hW) ((X2.out.below B2.out).below hW) fx fy (FF.out _) (FH.out _))).mono ?_; rw [KT.out, KO.out, HV.out]; intro e w3 h3; obtain ⟨⟨g, cap, rfl, o1⟩, b3⟩ := h3.t; have O1 := Hf.mk o1; have B3 := Hb.mk (Below.on (B := w.heap.size) (a := w) (by repeat (first | exact B2.out | refine Below.drews ?_ | refine Below.drew ?_ | refine Below.alloc ?_ (by have hq_ := B2.out.size; first | omega | (simp <;> omega)) _ | refine Below.setCell ?_ (by have hq_ := B2.out.size; first | omega | (simp <;> omega)) _)) b3 (by have hq_ := B2.out.size; first | omega | (simp <;> omega))); have q0 := Hb.mk (At.re q0.out b3 (by first | exact q0c | simp [go_sem, q0c, q0l]) (by first | exact q0z | simp [go_sem, q0z, q0l])); obtain ⟨q0c, q0z, q0l⟩ := q0.out; have q1 := Hb.mk (At.re q1.out b3 (by first | exact q1c | simp [go_sem, q1c, q1l]) (by first | exact q1z | simp [go_sem, q1z, q1l])); obtain ⟨q1c, q1z, q1l⟩ := q1.out; have q2 := Hb.mk (At.re q2.out b3 (by first | exact q2c | simp [go_sem, q2c, q2l]) (by first | exact q2z | simp [go_sem, q2z, q2l])); obtain ⟨q2c, q2z, q2l⟩ := q2.out; clear b3 h3 o1))
    have l1 := O1.out.lt
    have l0 := B2.out.size
    have l5 := q0l
    refine bodyPost_ret (v := .tuple #[gd W Hh (sl g n cap), .bool true]) (by simp [results, Try.results39, go_sem, q0c, q1c, q2c]) rfl (.inl ⟨HV.out, ⟨_, _, rfl, ?_⟩, (by repeat (first | with_reducible refine Below.setCell ?_ (by first | omega | (simp <;> omega)) _ | with_reducible refine Below.drews ?_ | with_reducible refine Below.drew ?_ | with_reducible refine Below.alloc ?_ (by first | omega | (simp <;> omega)) _ | with_reducible exact B3.out | with_reducible exact Below.refl _ _))⟩)
    exact (((O1.out.mono (by omega) (fun _ _ => rfl)).other (by simp; omega) _).other (by simp; omega) _).other (by simp; omega) _
end Go.Proofs.Ytcgmffpddahgoaa
