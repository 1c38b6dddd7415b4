/-
  Ways as vectors: dots, crosses and longs, of the program and of its model; the exact laws DotWays, CrossWays and LongOfWay. No condition.
-/
import Derived.Test.YtenekhckmglobaaGreatWay
namespace Go.Proofs.YtenekhckmglobaaGreat
open Go Go.RowKit
set_option maxRecDepth 100000

def finW (a b c : Nat) : Bool := fin .f32 a && (fin .f32 b && fin .f32 c)
def dotC (a b c x y z : Nat) : Nat := fop .add .f32 (fop .add .f32 (fop .mul .f32 a x) (fop .mul .f32 b y)) (fop .mul .f32 c z)
/-- one part of a cross -/
def crC (a b x y : Nat) : Nat := fop .sub .f32 (fop .mul .f32 a y) (fop .mul .f32 b x)
def longC (a b c : Nat) : Nat := rootC (dotC a b c a b c)
def RFB (c : Nat) (w : World) (e : Ending) (w' : World) : Prop := ∃ r, e = .returned (.float .f32 r) ∧ Fl .f32 c r ∧ Below w.heap.size w w'
def RWB (cx cy cz : Nat) (w : World) (e : Ending) (w' : World) : Prop := ∃ x y z, e = .returned (wy x y z) ∧ Fl .f32 cx x ∧ Fl .f32 cy y ∧ Fl .f32 cz z ∧ Below w.heap.size w w'
theorem wayDot_any {x y z a b c x' y' z' a' b' c' : Nat} (h1 : Fl .f32 x a) (h2 : Fl .f32 y b) (h3 : Fl .f32 z c) (h4 : Fl .f32 x' a') (h5 : Fl .f32 y' b') (h6 : Fl .f32 z' c') (w : World) : Calls Tryz.prog 125 #[wy a b c, wy a' b' c'] w (RFB (dotC x y z x' y' z') w) := by
  go_enter Tryz.func125, Tryz.ntmps125
  have tk_m : True := trivial; have tk_n : True := trivial; have tk_o : True := trivial; have tk_p : True := trivial; have tk_q : True := trivial
  go_wp2_with (first | (clear tk_m; refine wpList_fop rfl rfl rfl rfl rfl h1 h4 ?_; intro m n_m h_m; simp only [Act.put, List.setIfInBounds_toArray, List.set_cons_succ, List.set_cons_zero]) | (clear tk_n; refine wpList_fop rfl rfl rfl rfl rfl h2 h5 ?_; intro n n_n h_n; simp only [Act.put, List.setIfInBounds_toArray, List.set_cons_succ, List.set_cons_zero]) | (clear tk_o; refine wpList_fop rfl rfl rfl rfl rfl h_m h_n ?_; intro o n_o h_o; simp only [Act.put, List.setIfInBounds_toArray, List.set_cons_succ, List.set_cons_zero]) | (clear tk_p; refine wpList_fop rfl rfl rfl rfl rfl h3 h6 ?_; intro p n_p h_p; simp only [Act.put, List.setIfInBounds_toArray, List.set_cons_succ, List.set_cons_zero]) | (clear tk_q; refine wpList_fop rfl rfl rfl rfl rfl h_o h_p ?_; intro q n_q h_q; simp only [Act.put, List.setIfInBounds_toArray, List.set_cons_succ, List.set_cons_zero]))
  go_ret
  exact ⟨_, rfl, h_q, (by repeat (first | exact Below.refl _ _ | with_reducible assumption | refine Below.drews ?_ | refine Below.drew ?_ | refine Below.alloc ?_ (by simp <;> omega) _ | refine Below.setCell ?_ (by simp <;> omega) _))⟩
theorem l02Dot_any {x y z a b c x' y' z' a' b' c' : Nat} (h1 : Fl .f32 x a) (h2 : Fl .f32 y b) (h3 : Fl .f32 z c) (h4 : Fl .f32 x' a') (h5 : Fl .f32 y' b') (h6 : Fl .f32 z' c') (w : World) : Calls Tryz.prog 92 #[wy a b c, wy a' b' c'] w (RFB (dotC x y z x' y' z') w) := by
  go_enter Tryz.func92, Tryz.ntmps92
  have tk_m : True := trivial; have tk_n : True := trivial; have tk_o : True := trivial; have tk_p : True := trivial; have tk_q : True := trivial
  go_wp2_with (first | (clear tk_m; refine wpList_fop rfl rfl rfl rfl rfl h1 h4 ?_; intro m n_m h_m; simp only [Act.put, List.setIfInBounds_toArray, List.set_cons_succ, List.set_cons_zero]) | (clear tk_n; refine wpList_fop rfl rfl rfl rfl rfl h2 h5 ?_; intro n n_n h_n; simp only [Act.put, List.setIfInBounds_toArray, List.set_cons_succ, List.set_cons_zero]) | (clear tk_o; refine wpList_fop rfl rfl rfl rfl rfl h_m h_n ?_; intro o n_o h_o; simp only [Act.put, List.setIfInBounds_toArray, List.set_cons_succ, List.set_cons_zero]) | (clear tk_p; refine wpList_fop rfl rfl rfl rfl rfl h3 h6 ?_; intro p n_p h_p; simp only [Act.put, List.setIfInBounds_toArray, List.set_cons_succ, List.set_cons_zero]) | (clear tk_q; refine wpList_fop rfl rfl rfl rfl rfl h_o h_p ?_; intro q n_q h_q; simp only [Act.put, List.setIfInBounds_toArray, List.set_cons_succ, List.set_cons_zero]))
  go_ret
  exact ⟨_, rfl, h_q, (by repeat (first | exact Below.refl _ _ | with_reducible assumption | refine Below.drews ?_ | refine Below.drew ?_ | refine Below.alloc ?_ (by simp <;> omega) _ | refine Below.setCell ?_ (by simp <;> omega) _))⟩
theorem wayLong_any {x y z a b c : Nat} (h1 : Fl .f32 x a) (h2 : Fl .f32 y b) (h3 : Fl .f32 z c) (w : World) : Calls Tryz.prog 124 #[wy a b c] w (RFB (longC x y z) w) := by
  have B0 := Hb.mk (Below.refl w.heap.size w)
  go_enter Tryz.func124, Tryz.ntmps124
  go_wp2_with (first | (go_at_call 125; refine (wayDot_any h1 h2 h3 h1 h2 h3 _).mono ?_; rintro e1 w1 ⟨r1, rfl, hr1, b1⟩; have B1 := Hb.mk (Below.on (B := w.heap.size) (a := w) (by repeat (first | exact B0.out | refine Below.drews ?_ | refine Below.drew ?_ | refine Below.alloc ?_ (by have hq_ := B0.out.size; first | omega | (simp <;> omega)) _ | refine Below.setCell ?_ (by have hq_ := B0.out.size; first | omega | (simp <;> omega)) _)) b1 (by have hq_ := B0.out.size; first | omega | (simp <;> omega))); clear b1) | (go_at_call 110; refine (iRoot_any hr1 _).mono ?_; rintro e2 w2 ⟨r2, n2, rfl, hr2, rfl⟩))
  go_ret
  exact ⟨_, rfl, hr2, (by repeat (first | exact B1.out | refine Below.drews ?_ | refine Below.drew ?_ | refine Below.alloc ?_ (by have hq_ := B1.out.size; first | omega | (simp <;> omega)) _ | refine Below.setCell ?_ (by have hq_ := B1.out.size; first | omega | (simp <;> omega)) _))⟩
theorem l02Long_any {x y z a b c : Nat} (h1 : Fl .f32 x a) (h2 : Fl .f32 y b) (h3 : Fl .f32 z c) (w : World) : Calls Tryz.prog 90 #[wy a b c] w (RFB (longC x y z) w) := by
  have B0 := Hb.mk (Below.refl w.heap.size w)
  go_enter Tryz.func90, Tryz.ntmps90
  go_wp2_with (first | (go_at_call 92; refine (l02Dot_any h1 h2 h3 h1 h2 h3 _).mono ?_; rintro e1 w1 ⟨r1, rfl, hr1, b1⟩; have B1 := Hb.mk (Below.on (B := w.heap.size) (a := w) (by repeat (first | exact B0.out | refine Below.drews ?_ | refine Below.drew ?_ | refine Below.alloc ?_ (by have hq_ := B0.out.size; first | omega | (simp <;> omega)) _ | refine Below.setCell ?_ (by have hq_ := B0.out.size; first | omega | (simp <;> omega)) _)) b1 (by have hq_ := B0.out.size; first | omega | (simp <;> omega))); clear b1) | (go_at_call 120; refine (l01Sqrt_any hr1 _).mono ?_; rintro e2 w2 ⟨r2, n2, rfl, hr2, rfl⟩))
  go_ret
  exact ⟨_, rfl, hr2, (by repeat (first | exact B1.out | refine Below.drews ?_ | refine Below.drew ?_ | refine Below.alloc ?_ (by have hq_ := B1.out.size; first | omega | (simp <;> omega)) _ | refine Below.setCell ?_ (by have hq_ := B1.out.size; first | omega | (simp <;> omega)) _))⟩
/-! ## LongOfWay -/
def longOk (x y z : Nat) : Bool := finW x y z && fin .f32 (longC x y z)
def longV (x y z : Nat) : Nat := if longOk x y z then longC x y z else 0
theorem long_no {x y z : Nat} (h : longOk x y z = false) : longOk x y z = false ∧ longV x y z = 0 := ⟨h, by unfold longV; rw [h]; rfl⟩
theorem long_yes {x y z : Nat} (h : longOk x y z = true) : longOk x y z = true ∧ longV x y z = longC x y z := ⟨h, by unfold longV; rw [h]; rfl⟩
abbrev flT (c : Nat) (b : Bool) : Value := .tuple #[.float .f32 c, .bool b]
theorem long_fl (x y z : Nat) : Fl .f32 (longV x y z) (longV x y z) := by
  cases h : longOk x y z
  · rw [(long_no h).2]; exact fl0
  · rw [(long_yes h).2]
    unfold longOk at h
    rw [Bool.and_eq_true] at h
    exact Fl.not (fin_notN h.2) (wf_fcv _)
/-! ## DotWays -/
def dotOk (a b c x y z : Nat) : Bool := finW a b c && (finW x y z && fin .f32 (dotC a b c x y z))
def dotV (a b c x y z : Nat) : Nat := if dotOk a b c x y z then dotC a b c x y z else 0
end Go.Proofs.YtenekhckmglobaaGreat
