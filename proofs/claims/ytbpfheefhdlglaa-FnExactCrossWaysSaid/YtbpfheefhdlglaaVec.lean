/-
  Ways as vectors: dots, crosses and longs, of the program and of its model; the exact laws DotWays, CrossWays and LongOfWay. No condition.
-/
import Derived.Test.YtbpfheefhdlglaaWay
namespace Go.Proofs.Ytbpfheefhdlglaa
open Go Go.RowKit
set_option maxRecDepth 100000

def finW (a b c : Nat) : Bool := fin .f32 a && (fin .f32 b && fin .f32 c)
def dotC (a b c x y z : Nat) : Nat := fop .add .f32 (fop .add .f32 (fop .mul .f32 a x) (fop .mul .f32 b y)) (fop .mul .f32 c z)
/-- one part of a cross -/
def crC (a b x y : Nat) : Nat := fop .sub .f32 (fop .mul .f32 a y) (fop .mul .f32 b x)
def longC (a b c : Nat) : Nat := rootC (dotC a b c a b c)
def RFB (c : Nat) (w : World) (e : Ending) (w' : World) : Prop := ∃ r, e = .returned (.float .f32 r) ∧ Fl .f32 c r ∧ Below w.heap.size w w'
def RWB (cx cy cz : Nat) (w : World) (e : Ending) (w' : World) : Prop := ∃ x y z, e = .returned (wy x y z) ∧ Fl .f32 cx x ∧ Fl .f32 cy y ∧ Fl .f32 cz z ∧ Below w.heap.size w w'
theorem wayFin_any {x y z a b c : Nat} (h1 : Fl .f32 x a) (h2 : Fl .f32 y b) (h3 : Fl .f32 z c) (w : World) : Calls Try.prog 74 #[wy a b c] w (RS (.bool (finW x y z)) w) := by
  cases g1 : fin .f32 x
  · have K := Hb.mk g1
    have KV := Hb.mk (show finW x y z = false by unfold finW; rw [g1]; rfl)
    clear g1
    go_enter Try.func74, Try.ntmps74
    go_wp2_with (go_at_call 84; refine (iIsFinite_any h1 _).mono ?_; rw [K.out]; rintro e w' ⟨rfl, n, rfl⟩)
    go_ret
    rw [KV.out]
    exact ⟨rfl, (by repeat (first | exact Below.refl _ _ | with_reducible assumption | refine Below.drews ?_ | refine Below.drew ?_ | refine Below.alloc ?_ (by simp <;> omega) _ | refine Below.setCell ?_ (by simp <;> omega) _))⟩
  · cases g2 : fin .f32 y
    · have K := Hb.mk g1
      have K2 := Hb.mk g2
      have KV := Hb.mk (show finW x y z = false by unfold finW; rw [g1, g2]; rfl)
      clear g1 g2
      go_enter Try.func74, Try.ntmps74
      have tk_a : True := trivial; have tk_b : True := trivial
      go_wp2_with (first | (go_at_call 84; clear tk_a; refine (iIsFinite_any h1 _).mono ?_; rw [K.out]; rintro e w' ⟨rfl, n, rfl⟩) | (go_at_call 84; clear tk_b; refine (iIsFinite_any h2 _).mono ?_; rw [K2.out]; rintro e w' ⟨rfl, n, rfl⟩))
      go_ret
      rw [KV.out]
      exact ⟨rfl, (by repeat (first | exact Below.refl _ _ | with_reducible assumption | refine Below.drews ?_ | refine Below.drew ?_ | refine Below.alloc ?_ (by simp <;> omega) _ | refine Below.setCell ?_ (by simp <;> omega) _))⟩
    · have K := Hb.mk g1
      have K2 := Hb.mk g2
      have KV := Hb.mk (show finW x y z = fin .f32 z by unfold finW; rw [g1, g2]; rfl)
      clear g1 g2
      go_enter Try.func74, Try.ntmps74
      have tk_a : True := trivial; have tk_b : True := trivial; have tk_c : True := trivial
      go_wp2_with (first | (go_at_call 84; clear tk_a; refine (iIsFinite_any h1 _).mono ?_; rw [K.out]; rintro e w' ⟨rfl, n, rfl⟩) | (go_at_call 84; clear tk_b; refine (iIsFinite_any h2 _).mono ?_; rw [K2.out]; rintro e w' ⟨rfl, n, rfl⟩) | (go_at_call 84; clear tk_c; refine (iIsFinite_any h3 _).mono ?_; rintro e w' ⟨rfl, n, rfl⟩))
      go_ret
      rw [KV.out]
      exact ⟨rfl, (by repeat (first | exact Below.refl _ _ | with_reducible assumption | refine Below.drews ?_ | refine Below.drew ?_ | refine Below.alloc ?_ (by simp <;> omega) _ | refine Below.setCell ?_ (by simp <;> omega) _))⟩
theorem l02Ways_any {x y z a b c : Nat} (h1 : Fl .f32 x a) (h2 : Fl .f32 y b) (h3 : Fl .f32 z c) (w : World) : Calls Try.prog 110 #[wy a b c] w (RS (.bool (finW x y z)) w) := by
  cases g1 : fin .f32 x
  · have K := Hb.mk g1
    have KV := Hb.mk (show finW x y z = false by unfold finW; rw [g1]; rfl)
    clear g1
    go_enter Try.func110, Try.ntmps110
    go_wp2_with (go_at_call 132; refine (l01Finite_any h1 _).mono ?_; rw [K.out]; rintro e w' ⟨rfl, n, rfl⟩)
    go_ret
    rw [KV.out]
    exact ⟨rfl, (by repeat (first | exact Below.refl _ _ | with_reducible assumption | refine Below.drews ?_ | refine Below.drew ?_ | refine Below.alloc ?_ (by simp <;> omega) _ | refine Below.setCell ?_ (by simp <;> omega) _))⟩
  · cases g2 : fin .f32 y
    · have K := Hb.mk g1
      have K2 := Hb.mk g2
      have KV := Hb.mk (show finW x y z = false by unfold finW; rw [g1, g2]; rfl)
      clear g1 g2
      go_enter Try.func110, Try.ntmps110
      have tk_a : True := trivial; have tk_b : True := trivial
      go_wp2_with (first | (go_at_call 132; clear tk_a; refine (l01Finite_any h1 _).mono ?_; rw [K.out]; rintro e w' ⟨rfl, n, rfl⟩) | (go_at_call 132; clear tk_b; refine (l01Finite_any h2 _).mono ?_; rw [K2.out]; rintro e w' ⟨rfl, n, rfl⟩))
      go_ret
      rw [KV.out]
      exact ⟨rfl, (by repeat (first | exact Below.refl _ _ | with_reducible assumption | refine Below.drews ?_ | refine Below.drew ?_ | refine Below.alloc ?_ (by simp <;> omega) _ | refine Below.setCell ?_ (by simp <;> omega) _))⟩
    · have K := Hb.mk g1
      have K2 := Hb.mk g2
      have KV := Hb.mk (show finW x y z = fin .f32 z by unfold finW; rw [g1, g2]; rfl)
      clear g1 g2
      go_enter Try.func110, Try.ntmps110
      have tk_a : True := trivial; have tk_b : True := trivial; have tk_c : True := trivial
      go_wp2_with (first | (go_at_call 132; clear tk_a; refine (l01Finite_any h1 _).mono ?_; rw [K.out]; rintro e w' ⟨rfl, n, rfl⟩) | (go_at_call 132; clear tk_b; refine (l01Finite_any h2 _).mono ?_; rw [K2.out]; rintro e w' ⟨rfl, n, rfl⟩) | (go_at_call 132; clear tk_c; refine (l01Finite_any h3 _).mono ?_; rintro e w' ⟨rfl, n, rfl⟩))
      go_ret
      rw [KV.out]
      exact ⟨rfl, (by repeat (first | exact Below.refl _ _ | with_reducible assumption | refine Below.drews ?_ | refine Below.drew ?_ | refine Below.alloc ?_ (by simp <;> omega) _ | refine Below.setCell ?_ (by simp <;> omega) _))⟩
theorem wayDot_any {x y z a b c x' y' z' a' b' c' : Nat} (h1 : Fl .f32 x a) (h2 : Fl .f32 y b) (h3 : Fl .f32 z c) (h4 : Fl .f32 x' a') (h5 : Fl .f32 y' b') (h6 : Fl .f32 z' c') (w : World) : Calls Try.prog 83 #[wy a b c, wy a' b' c'] w (RFB (dotC x y z x' y' z') w) := by
  go_enter Try.func83, Try.ntmps83
  have tk_m : True := trivial; have tk_n : True := trivial; have tk_o : True := trivial; have tk_p : True := trivial; have tk_q : True := trivial
  go_wp2_with (first | (clear tk_m; refine wpList_fop rfl rfl rfl rfl rfl h1 h4 ?_; intro m n_m h_m; simp only [Act.put, List.setIfInBounds_toArray, List.set_cons_succ, List.set_cons_zero]) | (clear tk_n; refine wpList_fop rfl rfl rfl rfl rfl h2 h5 ?_; intro n n_n h_n; simp only [Act.put, List.setIfInBounds_toArray, List.set_cons_succ, List.set_cons_zero]) | (clear tk_o; refine wpList_fop rfl rfl rfl rfl rfl h_m h_n ?_; intro o n_o h_o; simp only [Act.put, List.setIfInBounds_toArray, List.set_cons_succ, List.set_cons_zero]) | (clear tk_p; refine wpList_fop rfl rfl rfl rfl rfl h3 h6 ?_; intro p n_p h_p; simp only [Act.put, List.setIfInBounds_toArray, List.set_cons_succ, List.set_cons_zero]) | (clear tk_q; refine wpList_fop rfl rfl rfl rfl rfl h_o h_p ?_; intro q n_q h_q; simp only [Act.put, List.setIfInBounds_toArray, List.set_cons_succ, List.set_cons_zero]))
  go_ret
  exact ⟨_, rfl, h_q, (by repeat (first | exact Below.refl _ _ | with_reducible assumption | refine Below.drews ?_ | refine Below.drew ?_ | refine Below.alloc ?_ (by simp <;> omega) _ | refine Below.setCell ?_ (by simp <;> omega) _))⟩
theorem l02Dot_any {x y z a b c x' y' z' a' b' c' : Nat} (h1 : Fl .f32 x a) (h2 : Fl .f32 y b) (h3 : Fl .f32 z c) (h4 : Fl .f32 x' a') (h5 : Fl .f32 y' b') (h6 : Fl .f32 z' c') (w : World) : Calls Try.prog 112 #[wy a b c, wy a' b' c'] w (RFB (dotC x y z x' y' z') w) := by
  go_enter Try.func112, Try.ntmps112
  have tk_m : True := trivial; have tk_n : True := trivial; have tk_o : True := trivial; have tk_p : True := trivial; have tk_q : True := trivial
  go_wp2_with (first | (clear tk_m; refine wpList_fop rfl rfl rfl rfl rfl h1 h4 ?_; intro m n_m h_m; simp only [Act.put, List.setIfInBounds_toArray, List.set_cons_succ, List.set_cons_zero]) | (clear tk_n; refine wpList_fop rfl rfl rfl rfl rfl h2 h5 ?_; intro n n_n h_n; simp only [Act.put, List.setIfInBounds_toArray, List.set_cons_succ, List.set_cons_zero]) | (clear tk_o; refine wpList_fop rfl rfl rfl rfl rfl h_m h_n ?_; intro o n_o h_o; simp only [Act.put, List.setIfInBounds_toArray, List.set_cons_succ, List.set_cons_zero]) | (clear tk_p; refine wpList_fop rfl rfl rfl rfl rfl h3 h6 ?_; intro p n_p h_p; simp only [Act.put, List.setIfInBounds_toArray, List.set_cons_succ, List.set_cons_zero]) | (clear tk_q; refine wpList_fop rfl rfl rfl rfl rfl h_o h_p ?_; intro q n_q h_q; simp only [Act.put, List.setIfInBounds_toArray, List.set_cons_succ, List.set_cons_zero]))
  go_ret
  exact ⟨_, rfl, h_q, (by repeat (first | exact Below.refl _ _ | with_reducible assumption | refine Below.drews ?_ | refine Below.drew ?_ | refine Below.alloc ?_ (by simp <;> omega) _ | refine Below.setCell ?_ (by simp <;> omega) _))⟩
theorem wayLong_any {x y z a b c : Nat} (h1 : Fl .f32 x a) (h2 : Fl .f32 y b) (h3 : Fl .f32 z c) (w : World) : Calls Try.prog 76 #[wy a b c] w (RFB (longC x y z) w) := by
  have B0 := Hb.mk (Below.refl w.heap.size w)
  go_enter Try.func76, Try.ntmps76
  go_wp2_with (first | (go_at_call 83; refine (wayDot_any h1 h2 h3 h1 h2 h3 _).mono ?_; rintro e1 w1 ⟨r1, rfl, hr1, b1⟩; have B1 := Hb.mk (Below.on (B := w.heap.size) (a := w) (by repeat (first | exact B0.out | refine Below.drews ?_ | refine Below.drew ?_ | refine Below.alloc ?_ (by have hq_ := B0.out.size; first | omega | (simp <;> omega)) _ | refine Below.setCell ?_ (by have hq_ := B0.out.size; first | omega | (simp <;> omega)) _)) b1 (by have hq_ := B0.out.size; first | omega | (simp <;> omega))); clear b1) | (go_at_call 77; refine (iRoot_any hr1 _).mono ?_; rintro e2 w2 ⟨r2, n2, rfl, hr2, rfl⟩))
  go_ret
  exact ⟨_, rfl, hr2, (by repeat (first | exact B1.out | refine Below.drews ?_ | refine Below.drew ?_ | refine Below.alloc ?_ (by have hq_ := B1.out.size; first | omega | (simp <;> omega)) _ | refine Below.setCell ?_ (by have hq_ := B1.out.size; first | omega | (simp <;> omega)) _))⟩
theorem l02Long_any {x y z a b c : Nat} (h1 : Fl .f32 x a) (h2 : Fl .f32 y b) (h3 : Fl .f32 z c) (w : World) : Calls Try.prog 114 #[wy a b c] w (RFB (longC x y z) w) := by
  have B0 := Hb.mk (Below.refl w.heap.size w)
  go_enter Try.func114, Try.ntmps114
  go_wp2_with (first | (go_at_call 112; refine (l02Dot_any h1 h2 h3 h1 h2 h3 _).mono ?_; rintro e1 w1 ⟨r1, rfl, hr1, b1⟩; have B1 := Hb.mk (Below.on (B := w.heap.size) (a := w) (by repeat (first | exact B0.out | refine Below.drews ?_ | refine Below.drew ?_ | refine Below.alloc ?_ (by have hq_ := B0.out.size; first | omega | (simp <;> omega)) _ | refine Below.setCell ?_ (by have hq_ := B0.out.size; first | omega | (simp <;> omega)) _)) b1 (by have hq_ := B0.out.size; first | omega | (simp <;> omega))); clear b1) | (go_at_call 133; refine (l01Sqrt_any hr1 _).mono ?_; rintro e2 w2 ⟨r2, n2, rfl, hr2, rfl⟩))
  go_ret
  exact ⟨_, rfl, hr2, (by repeat (first | exact B1.out | refine Below.drews ?_ | refine Below.drew ?_ | refine Below.alloc ?_ (by have hq_ := B1.out.size; first | omega | (simp <;> omega)) _ | refine Below.setCell ?_ (by have hq_ := B1.out.size; first | omega | (simp <;> omega)) _))⟩
/-! ## LongOfWay -/
def longOk (x y z : Nat) : Bool := finW x y z && fin .f32 (longC x y z)
def longV (x y z : Nat) : Nat := if longOk x y z then longC x y z else 0
theorem long_no {x y z : Nat} (h : longOk x y z = false) : longOk x y z = false ∧ longV x y z = 0 := ⟨h, by unfold longV; rw [h]; rfl⟩
theorem long_yes {x y z : Nat} (h : longOk x y z = true) : longOk x y z = true ∧ longV x y z = longC x y z := ⟨h, by unfold longV; rw [h]; rfl⟩
abbrev flT (c : Nat) (b : Bool) : Value := .tuple #[.float .f32 c, .bool b]
theorem iLongOfWay_any {x y z a b c : Nat} (h1 : Fl .f32 x a) (h2 : Fl .f32 y b) (h3 : Fl .f32 z c) (w : World) : Calls Try.prog 18 #[wy a b c] w (RS (flT (longV x y z) (longOk x y z)) w) := by
  have KF := wayFin_any h1 h2 h3
  have B0 := Hb.mk (Below.refl w.heap.size w)
  cases g1 : finW x y z
  · rw [g1] at KF
    have HF := Hb.mk KF
    have KV := Hb.mk (long_no (x := x) (y := y) (z := z) (by unfold longOk; rw [g1]; rfl))
    clear KF g1
    go_enter Try.func18, Try.ntmps18
    go_wp2_with (first | (go_at_call 74; refine (HF.out _).mono ?_; rintro e1 w1 ⟨rfl, b1⟩; have B1 := Hb.mk (Below.on (B := w.heap.size) (a := w) (by repeat (first | exact B0.out | refine Below.drews ?_ | refine Below.drew ?_ | refine Below.alloc ?_ (by have hq_ := B0.out.size; first | omega | (simp <;> omega)) _ | refine Below.setCell ?_ (by have hq_ := B0.out.size; first | omega | (simp <;> omega)) _)) b1 (by have hq_ := B0.out.size; first | omega | (simp <;> omega))); clear b1))
    go_ret2
    rw [KV.out.1, KV.out.2]
    exact ⟨rfl, (by repeat (first | exact B1.out | refine Below.drews ?_ | refine Below.drew ?_ | refine Below.alloc ?_ (by have hq_ := B1.out.size; first | omega | (simp <;> omega)) _ | refine Below.setCell ?_ (by have hq_ := B1.out.size; first | omega | (simp <;> omega)) _))⟩
  · rw [g1] at KF
    have HF := Hb.mk KF
    clear KF
    cases g2 : fin .f32 (longC x y z)
    · have KV := Hb.mk (long_no (x := x) (y := y) (z := z) (by unfold longOk; rw [g1, g2]; rfl))
      have K2 := Hb.mk g2
      clear g1 g2
      go_enter Try.func18, Try.ntmps18
      go_wp2_with (first | (go_at_call 74; refine (HF.out _).mono ?_; rintro e1 w1 ⟨rfl, b1⟩; have B1 := Hb.mk (Below.on (B := w.heap.size) (a := w) (by repeat (first | exact B0.out | refine Below.drews ?_ | refine Below.drew ?_ | refine Below.alloc ?_ (by have hq_ := B0.out.size; first | omega | (simp <;> omega)) _ | refine Below.setCell ?_ (by have hq_ := B0.out.size; first | omega | (simp <;> omega)) _)) b1 (by have hq_ := B0.out.size; first | omega | (simp <;> omega))); have p0 := Hb.mk (At.keep b1 (p := ⟨w.heap.size, 0, none⟩) (v := .float .f32 a) (by simp [go_sem]) (by simp [go_sem])); obtain ⟨p0c, p0z, p0l⟩ := p0.out; have p1 := Hb.mk (At.keep b1 (p := ⟨w.heap.size, 1, none⟩) (v := .float .f32 b) (by simp [go_sem]) (by simp [go_sem])); obtain ⟨p1c, p1z, p1l⟩ := p1.out; have p2 := Hb.mk (At.keep b1 (p := ⟨w.heap.size, 2, none⟩) (v := .float .f32 c) (by simp [go_sem]) (by simp [go_sem])); obtain ⟨p2c, p2z, p2l⟩ := p2.out; clear b1) | (go_at_call 76; refine (wayLong_any h1 h2 h3 _).mono ?_; rintro e2 w2 ⟨r2, rfl, hr2, b2⟩; have B2 := Hb.mk (Below.on (B := w.heap.size) (a := w) (by repeat (first | exact B1.out | refine Below.drews ?_ | refine Below.drew ?_ | refine Below.alloc ?_ (by have hq_ := B1.out.size; first | omega | (simp <;> omega)) _ | refine Below.setCell ?_ (by have hq_ := B1.out.size; first | omega | (simp <;> omega)) _)) b2 (by have hq_ := B1.out.size; first | omega | (simp <;> omega))); clear b2) | (go_at_call 75; refine (finiteOne_no hr2 K2.out _).mono ?_; rintro e3 w3 ⟨r3, n3, rfl, hr3, rfl⟩; obtain rfl := hr3.word (by decide +kernel)))
      go_ret2
      rw [KV.out.1, KV.out.2]
      exact ⟨rfl, (by repeat (first | exact B2.out | refine Below.drews ?_ | refine Below.drew ?_ | refine Below.alloc ?_ (by have hq_ := B2.out.size; first | omega | (simp <;> omega)) _ | refine Below.setCell ?_ (by have hq_ := B2.out.size; first | omega | (simp <;> omega)) _))⟩
    · have KV := Hb.mk (long_yes (x := x) (y := y) (z := z) (by unfold longOk; rw [g1, g2]; rfl))
      have K2 := Hb.mk g2
      clear g1 g2
      go_enter Try.func18, Try.ntmps18
      go_wp2_with (first | (go_at_call 74; refine (HF.out _).mono ?_; rintro e1 w1 ⟨rfl, b1⟩; have B1 := Hb.mk (Below.on (B := w.heap.size) (a := w) (by repeat (first | exact B0.out | refine Below.drews ?_ | refine Below.drew ?_ | refine Below.alloc ?_ (by have hq_ := B0.out.size; first | omega | (simp <;> omega)) _ | refine Below.setCell ?_ (by have hq_ := B0.out.size; first | omega | (simp <;> omega)) _)) b1 (by have hq_ := B0.out.size; first | omega | (simp <;> omega))); have p0 := Hb.mk (At.keep b1 (p := ⟨w.heap.size, 0, none⟩) (v := .float .f32 a) (by simp [go_sem]) (by simp [go_sem])); obtain ⟨p0c, p0z, p0l⟩ := p0.out; have p1 := Hb.mk (At.keep b1 (p := ⟨w.heap.size, 1, none⟩) (v := .float .f32 b) (by simp [go_sem]) (by simp [go_sem])); obtain ⟨p1c, p1z, p1l⟩ := p1.out; have p2 := Hb.mk (At.keep b1 (p := ⟨w.heap.size, 2, none⟩) (v := .float .f32 c) (by simp [go_sem]) (by simp [go_sem])); obtain ⟨p2c, p2z, p2l⟩ := p2.out; clear b1) | (go_at_call 76; refine (wayLong_any h1 h2 h3 _).mono ?_; rintro e2 w2 ⟨r2, rfl, hr2, b2⟩; have B2 := Hb.mk (Below.on (B := w.heap.size) (a := w) (by repeat (first | exact B1.out | refine Below.drews ?_ | refine Below.drew ?_ | refine Below.alloc ?_ (by have hq_ := B1.out.size; first | omega | (simp <;> omega)) _ | refine Below.setCell ?_ (by have hq_ := B1.out.size; first | omega | (simp <;> omega)) _)) b2 (by have hq_ := B1.out.size; first | omega | (simp <;> omega))); clear b2) | (go_at_call 75; refine (finiteOne_yes hr2 K2.out _).mono ?_; rintro e3 w3 ⟨r3, n3, rfl, hr3, rfl⟩; have e4 := Hb.mk (hr3.word (fin_notN K2.out))))
      go_ret2
      rw [KV.out.1, KV.out.2, ← e4.out]
      exact ⟨rfl, (by repeat (first | exact B2.out | refine Below.drews ?_ | refine Below.drew ?_ | refine Below.alloc ?_ (by have hq_ := B2.out.size; first | omega | (simp <;> omega)) _ | refine Below.setCell ?_ (by have hq_ := B2.out.size; first | omega | (simp <;> omega)) _))⟩
theorem sLongOfWay_any {x y z a b c : Nat} (h1 : Fl .f32 x a) (h2 : Fl .f32 y b) (h3 : Fl .f32 z c) (w : World) : Calls Try.prog 68 #[wy a b c] w (RS (flT (longV x y z) (longOk x y z)) w) := by
  have KF := l02Ways_any h1 h2 h3
  have B0 := Hb.mk (Below.refl w.heap.size w)
  cases g1 : finW x y z
  · rw [g1] at KF
    have HF := Hb.mk KF
    have KV := Hb.mk (long_no (x := x) (y := y) (z := z) (by unfold longOk; rw [g1]; rfl))
    clear KF g1
    go_enter Try.func68, Try.ntmps68
    go_wp2_with (first | (go_at_call 110; refine (HF.out _).mono ?_; rintro e1 w1 ⟨rfl, b1⟩; have B1 := Hb.mk (Below.on (B := w.heap.size) (a := w) (by repeat (first | exact B0.out | refine Below.drews ?_ | refine Below.drew ?_ | refine Below.alloc ?_ (by have hq_ := B0.out.size; first | omega | (simp <;> omega)) _ | refine Below.setCell ?_ (by have hq_ := B0.out.size; first | omega | (simp <;> omega)) _)) b1 (by have hq_ := B0.out.size; first | omega | (simp <;> omega))); clear b1))
    go_ret2
    rw [KV.out.1, KV.out.2]
    exact ⟨rfl, (by repeat (first | exact B1.out | refine Below.drews ?_ | refine Below.drew ?_ | refine Below.alloc ?_ (by have hq_ := B1.out.size; first | omega | (simp <;> omega)) _ | refine Below.setCell ?_ (by have hq_ := B1.out.size; first | omega | (simp <;> omega)) _))⟩
  · rw [g1] at KF
    have HF := Hb.mk KF
    clear KF
    cases g2 : fin .f32 (longC x y z)
    · have KV := Hb.mk (long_no (x := x) (y := y) (z := z) (by unfold longOk; rw [g1, g2]; rfl))
      have K2 := Hb.mk g2
      clear g1 g2
      go_enter Try.func68, Try.ntmps68
      go_wp2_with (first | (go_at_call 110; refine (HF.out _).mono ?_; rintro e1 w1 ⟨rfl, b1⟩; have B1 := Hb.mk (Below.on (B := w.heap.size) (a := w) (by repeat (first | exact B0.out | refine Below.drews ?_ | refine Below.drew ?_ | refine Below.alloc ?_ (by have hq_ := B0.out.size; first | omega | (simp <;> omega)) _ | refine Below.setCell ?_ (by have hq_ := B0.out.size; first | omega | (simp <;> omega)) _)) b1 (by have hq_ := B0.out.size; first | omega | (simp <;> omega))); have p0 := Hb.mk (At.keep b1 (p := ⟨w.heap.size, 0, none⟩) (v := .float .f32 a) (by simp [go_sem]) (by simp [go_sem])); obtain ⟨p0c, p0z, p0l⟩ := p0.out; have p1 := Hb.mk (At.keep b1 (p := ⟨w.heap.size, 1, none⟩) (v := .float .f32 b) (by simp [go_sem]) (by simp [go_sem])); obtain ⟨p1c, p1z, p1l⟩ := p1.out; have p2 := Hb.mk (At.keep b1 (p := ⟨w.heap.size, 2, none⟩) (v := .float .f32 c) (by simp [go_sem]) (by simp [go_sem])); obtain ⟨p2c, p2z, p2l⟩ := p2.out; clear b1) | (go_at_call 114; refine (l02Long_any h1 h2 h3 _).mono ?_; rintro e2 w2 ⟨r2, rfl, hr2, b2⟩; have B2 := Hb.mk (Below.on (B := w.heap.size) (a := w) (by repeat (first | exact B1.out | refine Below.drews ?_ | refine Below.drew ?_ | refine Below.alloc ?_ (by have hq_ := B1.out.size; first | omega | (simp <;> omega)) _ | refine Below.setCell ?_ (by have hq_ := B1.out.size; first | omega | (simp <;> omega)) _)) b2 (by have hq_ := B1.out.size; first | omega | (simp <;> omega))); clear b2) | (go_at_call 111; refine (l02Number_no hr2 K2.out _).mono ?_; rintro e3 w3 ⟨r3, n3, rfl, hr3, rfl⟩; obtain rfl := hr3.word (by decide +kernel)))
      go_ret2
      rw [KV.out.1, KV.out.2]
      exact ⟨rfl, (by repeat (first | exact B2.out | refine Below.drews ?_ | refine Below.drew ?_ | refine Below.alloc ?_ (by have hq_ := B2.out.size; first | omega | (simp <;> omega)) _ | refine Below.setCell ?_ (by have hq_ := B2.out.size; first | omega | (simp <;> omega)) _))⟩
    · have KV := Hb.mk (long_yes (x := x) (y := y) (z := z) (by unfold longOk; rw [g1, g2]; rfl))
      have K2 := Hb.mk g2
      clear g1 g2
      go_enter Try.func68, Try.ntmps68
      go_wp2_with (first | (go_at_call 110; refine (HF.out _).mono ?_; rintro e1 w1 ⟨rfl, b1⟩; have B1 := Hb.mk (Below.on (B := w.heap.size) (a := w) (by repeat (first | exact B0.out | refine Below.drews ?_ | refine Below.drew ?_ | refine Below.alloc ?_ (by have hq_ := B0.out.size; first | omega | (simp <;> omega)) _ | refine Below.setCell ?_ (by have hq_ := B0.out.size; first | omega | (simp <;> omega)) _)) b1 (by have hq_ := B0.out.size; first | omega | (simp <;> omega))); have p0 := Hb.mk (At.keep b1 (p := ⟨w.heap.size, 0, none⟩) (v := .float .f32 a) (by simp [go_sem]) (by simp [go_sem])); obtain ⟨p0c, p0z, p0l⟩ := p0.out; have p1 := Hb.mk (At.keep b1 (p := ⟨w.heap.size, 1, none⟩) (v := .float .f32 b) (by simp [go_sem]) (by simp [go_sem])); obtain ⟨p1c, p1z, p1l⟩ := p1.out; have p2 := Hb.mk (At.keep b1 (p := ⟨w.heap.size, 2, none⟩) (v := .float .f32 c) (by simp [go_sem]) (by simp [go_sem])); obtain ⟨p2c, p2z, p2l⟩ := p2.out; clear b1) | (go_at_call 114; refine (l02Long_any h1 h2 h3 _).mono ?_; rintro e2 w2 ⟨r2, rfl, hr2, b2⟩; have B2 := Hb.mk (Below.on (B := w.heap.size) (a := w) (by repeat (first | exact B1.out | refine Below.drews ?_ | refine Below.drew ?_ | refine Below.alloc ?_ (by have hq_ := B1.out.size; first | omega | (simp <;> omega)) _ | refine Below.setCell ?_ (by have hq_ := B1.out.size; first | omega | (simp <;> omega)) _)) b2 (by have hq_ := B1.out.size; first | omega | (simp <;> omega))); clear b2) | (go_at_call 111; refine (l02Number_yes hr2 K2.out _).mono ?_; rintro e3 w3 ⟨r3, n3, rfl, hr3, rfl⟩; have e4 := Hb.mk (hr3.word (fin_notN K2.out))))
      go_ret2
      rw [KV.out.1, KV.out.2, ← e4.out]
      exact ⟨rfl, (by repeat (first | exact B2.out | refine Below.drews ?_ | refine Below.drew ?_ | refine Below.alloc ?_ (by have hq_ := B2.out.size; first | omega | (simp <;> omega)) _ | refine Below.setCell ?_ (by have hq_ := B2.out.size; first | omega | (simp <;> omega)) _))⟩
theorem long_fl (x y z : Nat) : Fl .f32 (longV x y z) (longV x y z) := by
  cases h : longOk x y z
  · rw [(long_no h).2]; exact fl0
  · rw [(long_yes h).2]
    unfold longOk at h
    rw [Bool.and_eq_true] at h
    exact Fl.not (fin_notN h.2) (wf_fcv _)
set_option maxHeartbeats 1000000 in
theorem law_LongOfWay {a b c : Nat} (wa : (Lit.float .f32 a).wf = true) (wb : (Lit.float .f32 b).wf = true) (wc : (Lit.float .f32 c).wf = true) (w : World) : Calls Try.prog 13 #[wy a b c] w (RS (.bool true) w) := by
  have KS := Hb.mk (sLongOfWay_any (Fl.own wa) (Fl.own wb) (Fl.own wc))
  have KG := Hb.mk (iLongOfWay_any (Fl.own wa) (Fl.own wb) (Fl.own wc))
  have hf := long_fl (nrm .f32 a) (nrm .f32 b) (nrm .f32 c)
  generalize longV (nrm .f32 a) (nrm .f32 b) (nrm .f32 c) = V at *
  generalize longOk (nrm .f32 a) (nrm .f32 b) (nrm .f32 c) = ok at *
  have B0 := Hb.mk (Below.refl w.heap.size w)
  cases ok
  all_goals
    go_enter Try.func13, Try.ntmps13
    have tk_a : True := trivial; have tk_b : True := trivial
    go_wp2_with (first
      | (go_at_call 66; clear tk_a; refine (toWay_any _ _ _ _).mono ?_; rintro e w1 ⟨rfl, b1⟩; have B1 := Hb.mk (Below.on (B := w.heap.size) (a := w) (by repeat (first | exact B0.out | refine Below.drews ?_ | refine Below.drew ?_ | refine Below.alloc ?_ (by have hq_ := B0.out.size; first | omega | (simp <;> omega)) _ | refine Below.setCell ?_ (by have hq_ := B0.out.size; first | omega | (simp <;> omega)) _)) b1 (by have hq_ := B0.out.size; first | omega | (simp <;> omega))); have p0 := Hb.mk (At.keep b1 (p := ⟨w.heap.size, 0, none⟩) (v := .float .f32 a) (by simp [go_sem]) (by simp [go_sem])); obtain ⟨p0c, p0z, p0l⟩ := p0.out; have p1 := Hb.mk (At.keep b1 (p := ⟨w.heap.size, 1, none⟩) (v := .float .f32 b) (by simp [go_sem]) (by simp [go_sem])); obtain ⟨p1c, p1z, p1l⟩ := p1.out; have p2 := Hb.mk (At.keep b1 (p := ⟨w.heap.size, 2, none⟩) (v := .float .f32 c) (by simp [go_sem]) (by simp [go_sem])); obtain ⟨p2c, p2z, p2l⟩ := p2.out; clear b1)
      | (go_at_call 68; refine (KS.out _).mono ?_; rintro e w2 ⟨rfl, b2⟩; have B2 := Hb.mk (Below.on (B := w.heap.size) (a := w) (by repeat (first | exact B1.out | refine Below.drews ?_ | refine Below.drew ?_ | refine Below.alloc ?_ (by have hq_ := B1.out.size; first | omega | (simp <;> omega)) _ | refine Below.setCell ?_ (by have hq_ := B1.out.size; first | omega | (simp <;> omega)) _)) b2 (by have hq_ := B1.out.size; first | omega | (simp <;> omega))); have p0 := Hb.mk (At.re p0.out b2 (by first | exact p0c | simp [go_sem, p0c, p0l]) (by first | exact p0z | simp [go_sem, p0z, p0l])); obtain ⟨p0c, p0z, p0l⟩ := p0.out; have p1 := Hb.mk (At.re p1.out b2 (by first | exact p1c | simp [go_sem, p1c, p1l]) (by first | exact p1z | simp [go_sem, p1z, p1l])); obtain ⟨p1c, p1z, p1l⟩ := p1.out; have p2 := Hb.mk (At.re p2.out b2 (by first | exact p2c | simp [go_sem, p2c, p2l]) (by first | exact p2z | simp [go_sem, p2z, p2l])); obtain ⟨p2c, p2z, p2l⟩ := p2.out; clear b2)
      | (go_at_call 66; clear tk_b; refine (toWay_any _ _ _ _).mono ?_; rintro e w3 ⟨rfl, b3⟩; have B3 := Hb.mk (Below.on (B := w.heap.size) (a := w) (by repeat (first | exact B2.out | refine Below.drews ?_ | refine Below.drew ?_ | refine Below.alloc ?_ (by have hq_ := B2.out.size; first | omega | (simp <;> omega)) _ | refine Below.setCell ?_ (by have hq_ := B2.out.size; first | omega | (simp <;> omega)) _)) b3 (by have hq_ := B2.out.size; first | omega | (simp <;> omega))); clear b3)
      | (go_at_call 18; refine (KG.out _).mono ?_; rintro e w4 ⟨rfl, b4⟩; have B4 := Hb.mk (Below.on (B := w.heap.size) (a := w) (by repeat (first | exact B3.out | refine Below.drews ?_ | refine Below.drew ?_ | refine Below.alloc ?_ (by have hq_ := B3.out.size; first | omega | (simp <;> omega)) _ | refine Below.setCell ?_ (by have hq_ := B3.out.size; first | omega | (simp <;> omega)) _)) b4 (by have hq_ := B3.out.size; first | omega | (simp <;> omega))); clear b4)
      | (refine wpList_fcv rfl rfl rfl (by kernel_rfl) Try.underlying39 (by decide) (by first | (with_reducible assumption) | (with_reducible exact Fl.ofInt _ _) | exact Fl.not (by decide +kernel) (by decide +kernel)) (fits_wide _) ?_; intro r n hr; simp only [Act.put, List.setIfInBounds_toArray, List.set_cons_succ, List.set_cons_zero]) | (go_at_call 62; refine (sameFloat_any (by assumption) (by assumption) _).mono ?_; rintro e w' ⟨rfl, n, rfl⟩))
    go_ret
    exact ⟨rfl, (by repeat (first | exact B4.out | refine Below.drews ?_ | refine Below.drew ?_ | refine Below.alloc ?_ (by have hq_ := B4.out.size; first | omega | (simp <;> omega)) _ | refine Below.setCell ?_ (by have hq_ := B4.out.size; first | omega | (simp <;> omega)) _))⟩
/-! ## DotWays -/
def dotOk (a b c x y z : Nat) : Bool := finW a b c && (finW x y z && fin .f32 (dotC a b c x y z))
def dotV (a b c x y z : Nat) : Nat := if dotOk a b c x y z then dotC a b c x y z else 0
theorem iDotWays_no1 {x y z a b c x' y' z' a' b' c' : Nat} (h1 : Fl .f32 x a) (h2 : Fl .f32 y b) (h3 : Fl .f32 z c) (_h4 : Fl .f32 x' a') (_h5 : Fl .f32 y' b') (_h6 : Fl .f32 z' c') (g1 : finW x y z = false) (w : World) : Calls Try.prog 21 #[wy a b c, wy a' b' c'] w (RS (flT 0 false) w) := by
  have KF := wayFin_any h1 h2 h3
  rw [g1] at KF
  have HF := Hb.mk KF
  clear KF g1
  have B0 := Hb.mk (Below.refl w.heap.size w)
  go_enter Try.func21, Try.ntmps21
  have tk_a : True := trivial; have tk_b : True := trivial
  go_wp2_with (first
    | (go_at_call 82; go_in)
    | (go_at_call 74; clear tk_a; refine (HF.out _).mono ?_; rintro e1 w1 ⟨rfl, b1⟩; have B1 := Hb.mk (Below.on (B := w.heap.size) (a := w) (by repeat (first | exact B0.out | refine Below.drews ?_ | refine Below.drew ?_ | refine Below.alloc ?_ (by have hq_ := B0.out.size; first | omega | (simp <;> omega)) _ | refine Below.setCell ?_ (by have hq_ := B0.out.size; first | omega | (simp <;> omega)) _)) b1 (by have hq_ := B0.out.size; first | omega | (simp <;> omega))); have p0 := Hb.mk (At.keep b1 (p := ⟨w.heap.size + 2, 0, none⟩) (v := .float .f32 a) (by simp [go_sem]) (by simp [go_sem])); obtain ⟨p0c, p0z, p0l⟩ := p0.out; have p1 := Hb.mk (At.keep b1 (p := ⟨w.heap.size + 2, 1, none⟩) (v := .float .f32 b) (by simp [go_sem]) (by simp [go_sem])); obtain ⟨p1c, p1z, p1l⟩ := p1.out; have p2 := Hb.mk (At.keep b1 (p := ⟨w.heap.size + 2, 2, none⟩) (v := .float .f32 c) (by simp [go_sem]) (by simp [go_sem])); obtain ⟨p2c, p2z, p2l⟩ := p2.out; have q0 := Hb.mk (At.keep b1 (p := ⟨w.heap.size + 3, 0, none⟩) (v := .float .f32 a') (by simp [go_sem]) (by simp [go_sem])); obtain ⟨q0c, q0z, q0l⟩ := q0.out; have q1 := Hb.mk (At.keep b1 (p := ⟨w.heap.size + 3, 1, none⟩) (v := .float .f32 b') (by simp [go_sem]) (by simp [go_sem])); obtain ⟨q1c, q1z, q1l⟩ := q1.out; have q2 := Hb.mk (At.keep b1 (p := ⟨w.heap.size + 3, 2, none⟩) (v := .float .f32 c') (by simp [go_sem]) (by simp [go_sem])); obtain ⟨q2c, q2z, q2l⟩ := q2.out; clear b1))
  go_ret2
  exact ⟨rfl, (by repeat (first | exact B1.out | refine Below.drews ?_ | refine Below.drew ?_ | refine Below.alloc ?_ (by have hq_ := B1.out.size; first | omega | (simp <;> omega)) _ | refine Below.setCell ?_ (by have hq_ := B1.out.size; first | omega | (simp <;> omega)) _))⟩
theorem iDotWays_no2 {x y z a b c x' y' z' a' b' c' : Nat} (h1 : Fl .f32 x a) (h2 : Fl .f32 y b) (h3 : Fl .f32 z c) (h4 : Fl .f32 x' a') (h5 : Fl .f32 y' b') (h6 : Fl .f32 z' c') (g1 : finW x y z = true) (g2 : finW x' y' z' = false) (w : World) : Calls Try.prog 21 #[wy a b c, wy a' b' c'] w (RS (flT 0 false) w) := by
  have KF := wayFin_any h1 h2 h3
  rw [g1] at KF
  have HF := Hb.mk KF
  clear KF g1
  have KG := wayFin_any h4 h5 h6
  rw [g2] at KG
  have HG := Hb.mk KG
  clear KG g2
  have B0 := Hb.mk (Below.refl w.heap.size w)
  go_enter Try.func21, Try.ntmps21
  have tk_a : True := trivial; have tk_b : True := trivial
  go_wp2_with (first
    | (go_at_call 82; go_in)
    | (go_at_call 74; clear tk_a; refine (HF.out _).mono ?_; rintro e1 w1 ⟨rfl, b1⟩; have B1 := Hb.mk (Below.on (B := w.heap.size) (a := w) (by repeat (first | exact B0.out | refine Below.drews ?_ | refine Below.drew ?_ | refine Below.alloc ?_ (by have hq_ := B0.out.size; first | omega | (simp <;> omega)) _ | refine Below.setCell ?_ (by have hq_ := B0.out.size; first | omega | (simp <;> omega)) _)) b1 (by have hq_ := B0.out.size; first | omega | (simp <;> omega))); have p0 := Hb.mk (At.keep b1 (p := ⟨w.heap.size + 2, 0, none⟩) (v := .float .f32 a) (by simp [go_sem]) (by simp [go_sem])); obtain ⟨p0c, p0z, p0l⟩ := p0.out; have p1 := Hb.mk (At.keep b1 (p := ⟨w.heap.size + 2, 1, none⟩) (v := .float .f32 b) (by simp [go_sem]) (by simp [go_sem])); obtain ⟨p1c, p1z, p1l⟩ := p1.out; have p2 := Hb.mk (At.keep b1 (p := ⟨w.heap.size + 2, 2, none⟩) (v := .float .f32 c) (by simp [go_sem]) (by simp [go_sem])); obtain ⟨p2c, p2z, p2l⟩ := p2.out; have q0 := Hb.mk (At.keep b1 (p := ⟨w.heap.size + 3, 0, none⟩) (v := .float .f32 a') (by simp [go_sem]) (by simp [go_sem])); obtain ⟨q0c, q0z, q0l⟩ := q0.out; have q1 := Hb.mk (At.keep b1 (p := ⟨w.heap.size + 3, 1, none⟩) (v := .float .f32 b') (by simp [go_sem]) (by simp [go_sem])); obtain ⟨q1c, q1z, q1l⟩ := q1.out; have q2 := Hb.mk (At.keep b1 (p := ⟨w.heap.size + 3, 2, none⟩) (v := .float .f32 c') (by simp [go_sem]) (by simp [go_sem])); obtain ⟨q2c, q2z, q2l⟩ := q2.out; clear b1)
    | (go_at_call 74; clear tk_b; refine (HG.out _).mono ?_; rintro e2 w2 ⟨rfl, b2⟩; have B2 := Hb.mk (Below.on (B := w.heap.size) (a := w) (by repeat (first | exact B1.out | refine Below.drews ?_ | refine Below.drew ?_ | refine Below.alloc ?_ (by have hq_ := B1.out.size; first | omega | (simp <;> omega)) _ | refine Below.setCell ?_ (by have hq_ := B1.out.size; first | omega | (simp <;> omega)) _)) b2 (by have hq_ := B1.out.size; first | omega | (simp <;> omega))); have p0 := Hb.mk (At.re p0.out b2 (by first | exact p0c | simp [go_sem, p0c, p0l]) (by first | exact p0z | simp [go_sem, p0z, p0l])); obtain ⟨p0c, p0z, p0l⟩ := p0.out; have p1 := Hb.mk (At.re p1.out b2 (by first | exact p1c | simp [go_sem, p1c, p1l]) (by first | exact p1z | simp [go_sem, p1z, p1l])); obtain ⟨p1c, p1z, p1l⟩ := p1.out; have p2 := Hb.mk (At.re p2.out b2 (by first | exact p2c | simp [go_sem, p2c, p2l]) (by first | exact p2z | simp [go_sem, p2z, p2l])); obtain ⟨p2c, p2z, p2l⟩ := p2.out; have q0 := Hb.mk (At.re q0.out b2 (by first | exact q0c | simp [go_sem, q0c, q0l]) (by first | exact q0z | simp [go_sem, q0z, q0l])); obtain ⟨q0c, q0z, q0l⟩ := q0.out; have q1 := Hb.mk (At.re q1.out b2 (by first | exact q1c | simp [go_sem, q1c, q1l]) (by first | exact q1z | simp [go_sem, q1z, q1l])); obtain ⟨q1c, q1z, q1l⟩ := q1.out; have q2 := Hb.mk (At.re q2.out b2 (by first | exact q2c | simp [go_sem, q2c, q2l]) (by first | exact q2z | simp [go_sem, q2z, q2l])); obtain ⟨q2c, q2z, q2l⟩ := q2.out; clear b2))
  go_ret2
  exact ⟨rfl, (by repeat (first | exact B2.out | refine Below.drews ?_ | refine Below.drew ?_ | refine Below.alloc ?_ (by have hq_ := B2.out.size; first | omega | (simp <;> omega)) _ | refine Below.setCell ?_ (by have hq_ := B2.out.size; first | omega | (simp <;> omega)) _))⟩
theorem iDotWays_no3 {x y z a b c x' y' z' a' b' c' : Nat} (h1 : Fl .f32 x a) (h2 : Fl .f32 y b) (h3 : Fl .f32 z c) (h4 : Fl .f32 x' a') (h5 : Fl .f32 y' b') (h6 : Fl .f32 z' c') (g1 : finW x y z = true) (g2 : finW x' y' z' = true) (g3 : fin .f32 (dotC x y z x' y' z') = false) (w : World) : Calls Try.prog 21 #[wy a b c, wy a' b' c'] w (RS (flT 0 false) w) := by
  have KF := wayFin_any h1 h2 h3
  rw [g1] at KF
  have HF := Hb.mk KF
  clear KF g1
  have KG := wayFin_any h4 h5 h6
  rw [g2] at KG
  have HG := Hb.mk KG
  clear KG g2
  have G3 := Hb.mk g3
  clear g3
  have B0 := Hb.mk (Below.refl w.heap.size w)
  go_enter Try.func21, Try.ntmps21
  have tk_a : True := trivial; have tk_b : True := trivial
  go_wp2_with (first
    | (go_at_call 82; go_in)
    | (go_at_call 74; clear tk_a; refine (HF.out _).mono ?_; rintro e1 w1 ⟨rfl, b1⟩; have B1 := Hb.mk (Below.on (B := w.heap.size) (a := w) (by repeat (first | exact B0.out | refine Below.drews ?_ | refine Below.drew ?_ | refine Below.alloc ?_ (by have hq_ := B0.out.size; first | omega | (simp <;> omega)) _ | refine Below.setCell ?_ (by have hq_ := B0.out.size; first | omega | (simp <;> omega)) _)) b1 (by have hq_ := B0.out.size; first | omega | (simp <;> omega))); have p0 := Hb.mk (At.keep b1 (p := ⟨w.heap.size + 2, 0, none⟩) (v := .float .f32 a) (by simp [go_sem]) (by simp [go_sem])); obtain ⟨p0c, p0z, p0l⟩ := p0.out; have p1 := Hb.mk (At.keep b1 (p := ⟨w.heap.size + 2, 1, none⟩) (v := .float .f32 b) (by simp [go_sem]) (by simp [go_sem])); obtain ⟨p1c, p1z, p1l⟩ := p1.out; have p2 := Hb.mk (At.keep b1 (p := ⟨w.heap.size + 2, 2, none⟩) (v := .float .f32 c) (by simp [go_sem]) (by simp [go_sem])); obtain ⟨p2c, p2z, p2l⟩ := p2.out; have q0 := Hb.mk (At.keep b1 (p := ⟨w.heap.size + 3, 0, none⟩) (v := .float .f32 a') (by simp [go_sem]) (by simp [go_sem])); obtain ⟨q0c, q0z, q0l⟩ := q0.out; have q1 := Hb.mk (At.keep b1 (p := ⟨w.heap.size + 3, 1, none⟩) (v := .float .f32 b') (by simp [go_sem]) (by simp [go_sem])); obtain ⟨q1c, q1z, q1l⟩ := q1.out; have q2 := Hb.mk (At.keep b1 (p := ⟨w.heap.size + 3, 2, none⟩) (v := .float .f32 c') (by simp [go_sem]) (by simp [go_sem])); obtain ⟨q2c, q2z, q2l⟩ := q2.out; clear b1)
    | (go_at_call 74; clear tk_b; refine (HG.out _).mono ?_; rintro e2 w2 ⟨rfl, b2⟩; have B2 := Hb.mk (Below.on (B := w.heap.size) (a := w) (by repeat (first | exact B1.out | refine Below.drews ?_ | refine Below.drew ?_ | refine Below.alloc ?_ (by have hq_ := B1.out.size; first | omega | (simp <;> omega)) _ | refine Below.setCell ?_ (by have hq_ := B1.out.size; first | omega | (simp <;> omega)) _)) b2 (by have hq_ := B1.out.size; first | omega | (simp <;> omega))); have p0 := Hb.mk (At.re p0.out b2 (by first | exact p0c | simp [go_sem, p0c, p0l]) (by first | exact p0z | simp [go_sem, p0z, p0l])); obtain ⟨p0c, p0z, p0l⟩ := p0.out; have p1 := Hb.mk (At.re p1.out b2 (by first | exact p1c | simp [go_sem, p1c, p1l]) (by first | exact p1z | simp [go_sem, p1z, p1l])); obtain ⟨p1c, p1z, p1l⟩ := p1.out; have p2 := Hb.mk (At.re p2.out b2 (by first | exact p2c | simp [go_sem, p2c, p2l]) (by first | exact p2z | simp [go_sem, p2z, p2l])); obtain ⟨p2c, p2z, p2l⟩ := p2.out; have q0 := Hb.mk (At.re q0.out b2 (by first | exact q0c | simp [go_sem, q0c, q0l]) (by first | exact q0z | simp [go_sem, q0z, q0l])); obtain ⟨q0c, q0z, q0l⟩ := q0.out; have q1 := Hb.mk (At.re q1.out b2 (by first | exact q1c | simp [go_sem, q1c, q1l]) (by first | exact q1z | simp [go_sem, q1z, q1l])); obtain ⟨q1c, q1z, q1l⟩ := q1.out; have q2 := Hb.mk (At.re q2.out b2 (by first | exact q2c | simp [go_sem, q2c, q2l]) (by first | exact q2z | simp [go_sem, q2z, q2l])); obtain ⟨q2c, q2z, q2l⟩ := q2.out; clear b2)
    | (go_at_call 83; refine (wayDot_any h1 h2 h3 h4 h5 h6 _).mono ?_; rintro e3 w3 ⟨r3, rfl, hr3, b3⟩; have B3 := Hb.mk (Below.on (B := w.heap.size) (a := w) (by repeat (first | exact B2.out | refine Below.drews ?_ | refine Below.drew ?_ | refine Below.alloc ?_ (by have hq_ := B2.out.size; first | omega | (simp <;> omega)) _ | refine Below.setCell ?_ (by have hq_ := B2.out.size; first | omega | (simp <;> omega)) _)) b3 (by have hq_ := B2.out.size; first | omega | (simp <;> omega))); clear b3)
    | (go_at_call 84; refine (iIsFinite_any hr3 _).mono ?_; rw [G3.out]; rintro e4 w4 ⟨rfl, n4, rfl⟩))
  go_ret2
  exact ⟨rfl, (by repeat (first | exact B3.out | refine Below.drews ?_ | refine Below.drew ?_ | refine Below.alloc ?_ (by have hq_ := B3.out.size; first | omega | (simp <;> omega)) _ | refine Below.setCell ?_ (by have hq_ := B3.out.size; first | omega | (simp <;> omega)) _))⟩
theorem iDotWays_yes {x y z a b c x' y' z' a' b' c' : Nat} (h1 : Fl .f32 x a) (h2 : Fl .f32 y b) (h3 : Fl .f32 z c) (h4 : Fl .f32 x' a') (h5 : Fl .f32 y' b') (h6 : Fl .f32 z' c') (g1 : finW x y z = true) (g2 : finW x' y' z' = true) (g3 : fin .f32 (dotC x y z x' y' z') = true) (w : World) : Calls Try.prog 21 #[wy a b c, wy a' b' c'] w (RS (flT (dotC x y z x' y' z') true) w) := by
  have KF := wayFin_any h1 h2 h3
  rw [g1] at KF
  have HF := Hb.mk KF
  clear KF g1
  have KG := wayFin_any h4 h5 h6
  rw [g2] at KG
  have HG := Hb.mk KG
  clear KG g2
  have G3 := Hb.mk g3
  clear g3
  have B0 := Hb.mk (Below.refl w.heap.size w)
  go_enter Try.func21, Try.ntmps21
  have tk_a : True := trivial; have tk_b : True := trivial
  go_wp2_with (first
    | (go_at_call 82; go_in)
    | (go_at_call 74; clear tk_a; refine (HF.out _).mono ?_; rintro e1 w1 ⟨rfl, b1⟩; have B1 := Hb.mk (Below.on (B := w.heap.size) (a := w) (by repeat (first | exact B0.out | refine Below.drews ?_ | refine Below.drew ?_ | refine Below.alloc ?_ (by have hq_ := B0.out.size; first | omega | (simp <;> omega)) _ | refine Below.setCell ?_ (by have hq_ := B0.out.size; first | omega | (simp <;> omega)) _)) b1 (by have hq_ := B0.out.size; first | omega | (simp <;> omega))); have p0 := Hb.mk (At.keep b1 (p := ⟨w.heap.size + 2, 0, none⟩) (v := .float .f32 a) (by simp [go_sem]) (by simp [go_sem])); obtain ⟨p0c, p0z, p0l⟩ := p0.out; have p1 := Hb.mk (At.keep b1 (p := ⟨w.heap.size + 2, 1, none⟩) (v := .float .f32 b) (by simp [go_sem]) (by simp [go_sem])); obtain ⟨p1c, p1z, p1l⟩ := p1.out; have p2 := Hb.mk (At.keep b1 (p := ⟨w.heap.size + 2, 2, none⟩) (v := .float .f32 c) (by simp [go_sem]) (by simp [go_sem])); obtain ⟨p2c, p2z, p2l⟩ := p2.out; have q0 := Hb.mk (At.keep b1 (p := ⟨w.heap.size + 3, 0, none⟩) (v := .float .f32 a') (by simp [go_sem]) (by simp [go_sem])); obtain ⟨q0c, q0z, q0l⟩ := q0.out; have q1 := Hb.mk (At.keep b1 (p := ⟨w.heap.size + 3, 1, none⟩) (v := .float .f32 b') (by simp [go_sem]) (by simp [go_sem])); obtain ⟨q1c, q1z, q1l⟩ := q1.out; have q2 := Hb.mk (At.keep b1 (p := ⟨w.heap.size + 3, 2, none⟩) (v := .float .f32 c') (by simp [go_sem]) (by simp [go_sem])); obtain ⟨q2c, q2z, q2l⟩ := q2.out; clear b1)
    | (go_at_call 74; clear tk_b; refine (HG.out _).mono ?_; rintro e2 w2 ⟨rfl, b2⟩; have B2 := Hb.mk (Below.on (B := w.heap.size) (a := w) (by repeat (first | exact B1.out | refine Below.drews ?_ | refine Below.drew ?_ | refine Below.alloc ?_ (by have hq_ := B1.out.size; first | omega | (simp <;> omega)) _ | refine Below.setCell ?_ (by have hq_ := B1.out.size; first | omega | (simp <;> omega)) _)) b2 (by have hq_ := B1.out.size; first | omega | (simp <;> omega))); have p0 := Hb.mk (At.re p0.out b2 (by first | exact p0c | simp [go_sem, p0c, p0l]) (by first | exact p0z | simp [go_sem, p0z, p0l])); obtain ⟨p0c, p0z, p0l⟩ := p0.out; have p1 := Hb.mk (At.re p1.out b2 (by first | exact p1c | simp [go_sem, p1c, p1l]) (by first | exact p1z | simp [go_sem, p1z, p1l])); obtain ⟨p1c, p1z, p1l⟩ := p1.out; have p2 := Hb.mk (At.re p2.out b2 (by first | exact p2c | simp [go_sem, p2c, p2l]) (by first | exact p2z | simp [go_sem, p2z, p2l])); obtain ⟨p2c, p2z, p2l⟩ := p2.out; have q0 := Hb.mk (At.re q0.out b2 (by first | exact q0c | simp [go_sem, q0c, q0l]) (by first | exact q0z | simp [go_sem, q0z, q0l])); obtain ⟨q0c, q0z, q0l⟩ := q0.out; have q1 := Hb.mk (At.re q1.out b2 (by first | exact q1c | simp [go_sem, q1c, q1l]) (by first | exact q1z | simp [go_sem, q1z, q1l])); obtain ⟨q1c, q1z, q1l⟩ := q1.out; have q2 := Hb.mk (At.re q2.out b2 (by first | exact q2c | simp [go_sem, q2c, q2l]) (by first | exact q2z | simp [go_sem, q2z, q2l])); obtain ⟨q2c, q2z, q2l⟩ := q2.out; clear b2)
    | (go_at_call 83; refine (wayDot_any h1 h2 h3 h4 h5 h6 _).mono ?_; rintro e3 w3 ⟨r3, rfl, hr3, b3⟩; have B3 := Hb.mk (Below.on (B := w.heap.size) (a := w) (by repeat (first | exact B2.out | refine Below.drews ?_ | refine Below.drew ?_ | refine Below.alloc ?_ (by have hq_ := B2.out.size; first | omega | (simp <;> omega)) _ | refine Below.setCell ?_ (by have hq_ := B2.out.size; first | omega | (simp <;> omega)) _)) b3 (by have hq_ := B2.out.size; first | omega | (simp <;> omega))); clear b3)
    | (go_at_call 84; refine (iIsFinite_any hr3 _).mono ?_; rw [G3.out]; rintro e4 w4 ⟨rfl, n4, rfl⟩))
  go_ret2
  have e5 := hr3.word (fin_notN G3.out)
  rw [← e5]
  exact ⟨rfl, (by repeat (first | exact B3.out | refine Below.drews ?_ | refine Below.drew ?_ | refine Below.alloc ?_ (by have hq_ := B3.out.size; first | omega | (simp <;> omega)) _ | refine Below.setCell ?_ (by have hq_ := B3.out.size; first | omega | (simp <;> omega)) _))⟩
theorem sDotWays_no1 {x y z a b c x' y' z' a' b' c' : Nat} (h1 : Fl .f32 x a) (h2 : Fl .f32 y b) (h3 : Fl .f32 z c) (_h4 : Fl .f32 x' a') (_h5 : Fl .f32 y' b') (_h6 : Fl .f32 z' c') (g1 : finW x y z = false) (w : World) : Calls Try.prog 65 #[wy a b c, wy a' b' c'] w (RS (flT 0 false) w) := by
  have KF := l02Ways_any h1 h2 h3
  rw [g1] at KF
  have HF := Hb.mk KF
  clear KF g1
  have B0 := Hb.mk (Below.refl w.heap.size w)
  go_enter Try.func65, Try.ntmps65
  have tk_a : True := trivial; have tk_b : True := trivial
  go_wp2_with (first
    | (go_at_call 110; clear tk_a; refine (HF.out _).mono ?_; rintro e1 w1 ⟨rfl, b1⟩; have B1 := Hb.mk (Below.on (B := w.heap.size) (a := w) (by repeat (first | exact B0.out | refine Below.drews ?_ | refine Below.drew ?_ | refine Below.alloc ?_ (by have hq_ := B0.out.size; first | omega | (simp <;> omega)) _ | refine Below.setCell ?_ (by have hq_ := B0.out.size; first | omega | (simp <;> omega)) _)) b1 (by have hq_ := B0.out.size; first | omega | (simp <;> omega))); have p0 := Hb.mk (At.keep b1 (p := ⟨w.heap.size, 0, none⟩) (v := .float .f32 a) (by simp [go_sem]) (by simp [go_sem])); obtain ⟨p0c, p0z, p0l⟩ := p0.out; have p1 := Hb.mk (At.keep b1 (p := ⟨w.heap.size, 1, none⟩) (v := .float .f32 b) (by simp [go_sem]) (by simp [go_sem])); obtain ⟨p1c, p1z, p1l⟩ := p1.out; have p2 := Hb.mk (At.keep b1 (p := ⟨w.heap.size, 2, none⟩) (v := .float .f32 c) (by simp [go_sem]) (by simp [go_sem])); obtain ⟨p2c, p2z, p2l⟩ := p2.out; have q0 := Hb.mk (At.keep b1 (p := ⟨w.heap.size + 1, 0, none⟩) (v := .float .f32 a') (by simp [go_sem]) (by simp [go_sem])); obtain ⟨q0c, q0z, q0l⟩ := q0.out; have q1 := Hb.mk (At.keep b1 (p := ⟨w.heap.size + 1, 1, none⟩) (v := .float .f32 b') (by simp [go_sem]) (by simp [go_sem])); obtain ⟨q1c, q1z, q1l⟩ := q1.out; have q2 := Hb.mk (At.keep b1 (p := ⟨w.heap.size + 1, 2, none⟩) (v := .float .f32 c') (by simp [go_sem]) (by simp [go_sem])); obtain ⟨q2c, q2z, q2l⟩ := q2.out; clear b1))
  go_ret2
  exact ⟨rfl, (by repeat (first | exact B1.out | refine Below.drews ?_ | refine Below.drew ?_ | refine Below.alloc ?_ (by have hq_ := B1.out.size; first | omega | (simp <;> omega)) _ | refine Below.setCell ?_ (by have hq_ := B1.out.size; first | omega | (simp <;> omega)) _))⟩
theorem sDotWays_no2 {x y z a b c x' y' z' a' b' c' : Nat} (h1 : Fl .f32 x a) (h2 : Fl .f32 y b) (h3 : Fl .f32 z c) (h4 : Fl .f32 x' a') (h5 : Fl .f32 y' b') (h6 : Fl .f32 z' c') (g1 : finW x y z = true) (g2 : finW x' y' z' = false) (w : World) : Calls Try.prog 65 #[wy a b c, wy a' b' c'] w (RS (flT 0 false) w) := by
  have KF := l02Ways_any h1 h2 h3
  rw [g1] at KF
  have HF := Hb.mk KF
  clear KF g1
  have KG := l02Ways_any h4 h5 h6
  rw [g2] at KG
  have HG := Hb.mk KG
  clear KG g2
  have B0 := Hb.mk (Below.refl w.heap.size w)
  go_enter Try.func65, Try.ntmps65
  have tk_a : True := trivial; have tk_b : True := trivial
  go_wp2_with (first
    | (go_at_call 110; clear tk_a; refine (HF.out _).mono ?_; rintro e1 w1 ⟨rfl, b1⟩; have B1 := Hb.mk (Below.on (B := w.heap.size) (a := w) (by repeat (first | exact B0.out | refine Below.drews ?_ | refine Below.drew ?_ | refine Below.alloc ?_ (by have hq_ := B0.out.size; first | omega | (simp <;> omega)) _ | refine Below.setCell ?_ (by have hq_ := B0.out.size; first | omega | (simp <;> omega)) _)) b1 (by have hq_ := B0.out.size; first | omega | (simp <;> omega))); have p0 := Hb.mk (At.keep b1 (p := ⟨w.heap.size, 0, none⟩) (v := .float .f32 a) (by simp [go_sem]) (by simp [go_sem])); obtain ⟨p0c, p0z, p0l⟩ := p0.out; have p1 := Hb.mk (At.keep b1 (p := ⟨w.heap.size, 1, none⟩) (v := .float .f32 b) (by simp [go_sem]) (by simp [go_sem])); obtain ⟨p1c, p1z, p1l⟩ := p1.out; have p2 := Hb.mk (At.keep b1 (p := ⟨w.heap.size, 2, none⟩) (v := .float .f32 c) (by simp [go_sem]) (by simp [go_sem])); obtain ⟨p2c, p2z, p2l⟩ := p2.out; have q0 := Hb.mk (At.keep b1 (p := ⟨w.heap.size + 1, 0, none⟩) (v := .float .f32 a') (by simp [go_sem]) (by simp [go_sem])); obtain ⟨q0c, q0z, q0l⟩ := q0.out; have q1 := Hb.mk (At.keep b1 (p := ⟨w.heap.size + 1, 1, none⟩) (v := .float .f32 b') (by simp [go_sem]) (by simp [go_sem])); obtain ⟨q1c, q1z, q1l⟩ := q1.out; have q2 := Hb.mk (At.keep b1 (p := ⟨w.heap.size + 1, 2, none⟩) (v := .float .f32 c') (by simp [go_sem]) (by simp [go_sem])); obtain ⟨q2c, q2z, q2l⟩ := q2.out; clear b1)
    | (go_at_call 110; clear tk_b; refine (HG.out _).mono ?_; rintro e2 w2 ⟨rfl, b2⟩; have B2 := Hb.mk (Below.on (B := w.heap.size) (a := w) (by repeat (first | exact B1.out | refine Below.drews ?_ | refine Below.drew ?_ | refine Below.alloc ?_ (by have hq_ := B1.out.size; first | omega | (simp <;> omega)) _ | refine Below.setCell ?_ (by have hq_ := B1.out.size; first | omega | (simp <;> omega)) _)) b2 (by have hq_ := B1.out.size; first | omega | (simp <;> omega))); have p0 := Hb.mk (At.re p0.out b2 (by first | exact p0c | simp [go_sem, p0c, p0l]) (by first | exact p0z | simp [go_sem, p0z, p0l])); obtain ⟨p0c, p0z, p0l⟩ := p0.out; have p1 := Hb.mk (At.re p1.out b2 (by first | exact p1c | simp [go_sem, p1c, p1l]) (by first | exact p1z | simp [go_sem, p1z, p1l])); obtain ⟨p1c, p1z, p1l⟩ := p1.out; have p2 := Hb.mk (At.re p2.out b2 (by first | exact p2c | simp [go_sem, p2c, p2l]) (by first | exact p2z | simp [go_sem, p2z, p2l])); obtain ⟨p2c, p2z, p2l⟩ := p2.out; have q0 := Hb.mk (At.re q0.out b2 (by first | exact q0c | simp [go_sem, q0c, q0l]) (by first | exact q0z | simp [go_sem, q0z, q0l])); obtain ⟨q0c, q0z, q0l⟩ := q0.out; have q1 := Hb.mk (At.re q1.out b2 (by first | exact q1c | simp [go_sem, q1c, q1l]) (by first | exact q1z | simp [go_sem, q1z, q1l])); obtain ⟨q1c, q1z, q1l⟩ := q1.out; have q2 := Hb.mk (At.re q2.out b2 (by first | exact q2c | simp [go_sem, q2c, q2l]) (by first | exact q2z | simp [go_sem, q2z, q2l])); obtain ⟨q2c, q2z, q2l⟩ := q2.out; clear b2))
  go_ret2
  exact ⟨rfl, (by repeat (first | exact B2.out | refine Below.drews ?_ | refine Below.drew ?_ | refine Below.alloc ?_ (by have hq_ := B2.out.size; first | omega | (simp <;> omega)) _ | refine Below.setCell ?_ (by have hq_ := B2.out.size; first | omega | (simp <;> omega)) _))⟩
theorem sDotWays_no3 {x y z a b c x' y' z' a' b' c' : Nat} (h1 : Fl .f32 x a) (h2 : Fl .f32 y b) (h3 : Fl .f32 z c) (h4 : Fl .f32 x' a') (h5 : Fl .f32 y' b') (h6 : Fl .f32 z' c') (g1 : finW x y z = true) (g2 : finW x' y' z' = true) (g3 : fin .f32 (dotC x y z x' y' z') = false) (w : World) : Calls Try.prog 65 #[wy a b c, wy a' b' c'] w (RS (flT 0 false) w) := by
  have KF := l02Ways_any h1 h2 h3
  rw [g1] at KF
  have HF := Hb.mk KF
  clear KF g1
  have KG := l02Ways_any h4 h5 h6
  rw [g2] at KG
  have HG := Hb.mk KG
  clear KG g2
  have G3 := Hb.mk g3
  clear g3
  have B0 := Hb.mk (Below.refl w.heap.size w)
  go_enter Try.func65, Try.ntmps65
  have tk_a : True := trivial; have tk_b : True := trivial
  go_wp2_with (first
    | (go_at_call 110; clear tk_a; refine (HF.out _).mono ?_; rintro e1 w1 ⟨rfl, b1⟩; have B1 := Hb.mk (Below.on (B := w.heap.size) (a := w) (by repeat (first | exact B0.out | refine Below.drews ?_ | refine Below.drew ?_ | refine Below.alloc ?_ (by have hq_ := B0.out.size; first | omega | (simp <;> omega)) _ | refine Below.setCell ?_ (by have hq_ := B0.out.size; first | omega | (simp <;> omega)) _)) b1 (by have hq_ := B0.out.size; first | omega | (simp <;> omega))); have p0 := Hb.mk (At.keep b1 (p := ⟨w.heap.size, 0, none⟩) (v := .float .f32 a) (by simp [go_sem]) (by simp [go_sem])); obtain ⟨p0c, p0z, p0l⟩ := p0.out; have p1 := Hb.mk (At.keep b1 (p := ⟨w.heap.size, 1, none⟩) (v := .float .f32 b) (by simp [go_sem]) (by simp [go_sem])); obtain ⟨p1c, p1z, p1l⟩ := p1.out; have p2 := Hb.mk (At.keep b1 (p := ⟨w.heap.size, 2, none⟩) (v := .float .f32 c) (by simp [go_sem]) (by simp [go_sem])); obtain ⟨p2c, p2z, p2l⟩ := p2.out; have q0 := Hb.mk (At.keep b1 (p := ⟨w.heap.size + 1, 0, none⟩) (v := .float .f32 a') (by simp [go_sem]) (by simp [go_sem])); obtain ⟨q0c, q0z, q0l⟩ := q0.out; have q1 := Hb.mk (At.keep b1 (p := ⟨w.heap.size + 1, 1, none⟩) (v := .float .f32 b') (by simp [go_sem]) (by simp [go_sem])); obtain ⟨q1c, q1z, q1l⟩ := q1.out; have q2 := Hb.mk (At.keep b1 (p := ⟨w.heap.size + 1, 2, none⟩) (v := .float .f32 c') (by simp [go_sem]) (by simp [go_sem])); obtain ⟨q2c, q2z, q2l⟩ := q2.out; clear b1)
    | (go_at_call 110; clear tk_b; refine (HG.out _).mono ?_; rintro e2 w2 ⟨rfl, b2⟩; have B2 := Hb.mk (Below.on (B := w.heap.size) (a := w) (by repeat (first | exact B1.out | refine Below.drews ?_ | refine Below.drew ?_ | refine Below.alloc ?_ (by have hq_ := B1.out.size; first | omega | (simp <;> omega)) _ | refine Below.setCell ?_ (by have hq_ := B1.out.size; first | omega | (simp <;> omega)) _)) b2 (by have hq_ := B1.out.size; first | omega | (simp <;> omega))); have p0 := Hb.mk (At.re p0.out b2 (by first | exact p0c | simp [go_sem, p0c, p0l]) (by first | exact p0z | simp [go_sem, p0z, p0l])); obtain ⟨p0c, p0z, p0l⟩ := p0.out; have p1 := Hb.mk (At.re p1.out b2 (by first | exact p1c | simp [go_sem, p1c, p1l]) (by first | exact p1z | simp [go_sem, p1z, p1l])); obtain ⟨p1c, p1z, p1l⟩ := p1.out; have p2 := Hb.mk (At.re p2.out b2 (by first | exact p2c | simp [go_sem, p2c, p2l]) (by first | exact p2z | simp [go_sem, p2z, p2l])); obtain ⟨p2c, p2z, p2l⟩ := p2.out; have q0 := Hb.mk (At.re q0.out b2 (by first | exact q0c | simp [go_sem, q0c, q0l]) (by first | exact q0z | simp [go_sem, q0z, q0l])); obtain ⟨q0c, q0z, q0l⟩ := q0.out; have q1 := Hb.mk (At.re q1.out b2 (by first | exact q1c | simp [go_sem, q1c, q1l]) (by first | exact q1z | simp [go_sem, q1z, q1l])); obtain ⟨q1c, q1z, q1l⟩ := q1.out; have q2 := Hb.mk (At.re q2.out b2 (by first | exact q2c | simp [go_sem, q2c, q2l]) (by first | exact q2z | simp [go_sem, q2z, q2l])); obtain ⟨q2c, q2z, q2l⟩ := q2.out; clear b2)
    | (go_at_call 112; refine (l02Dot_any h1 h2 h3 h4 h5 h6 _).mono ?_; rintro e3 w3 ⟨r3, rfl, hr3, b3⟩; have B3 := Hb.mk (Below.on (B := w.heap.size) (a := w) (by repeat (first | exact B2.out | refine Below.drews ?_ | refine Below.drew ?_ | refine Below.alloc ?_ (by have hq_ := B2.out.size; first | omega | (simp <;> omega)) _ | refine Below.setCell ?_ (by have hq_ := B2.out.size; first | omega | (simp <;> omega)) _)) b3 (by have hq_ := B2.out.size; first | omega | (simp <;> omega))); clear b3)
    | (go_at_call 111; refine (l02Number_no hr3 G3.out _).mono ?_; rintro e4 w4 ⟨r4, n4, rfl, hr4, rfl⟩; obtain rfl := hr4.word (by decide +kernel)))
  go_ret2
  exact ⟨rfl, (by repeat (first | exact B3.out | refine Below.drews ?_ | refine Below.drew ?_ | refine Below.alloc ?_ (by have hq_ := B3.out.size; first | omega | (simp <;> omega)) _ | refine Below.setCell ?_ (by have hq_ := B3.out.size; first | omega | (simp <;> omega)) _))⟩
theorem sDotWays_yes {x y z a b c x' y' z' a' b' c' : Nat} (h1 : Fl .f32 x a) (h2 : Fl .f32 y b) (h3 : Fl .f32 z c) (h4 : Fl .f32 x' a') (h5 : Fl .f32 y' b') (h6 : Fl .f32 z' c') (g1 : finW x y z = true) (g2 : finW x' y' z' = true) (g3 : fin .f32 (dotC x y z x' y' z') = true) (w : World) : Calls Try.prog 65 #[wy a b c, wy a' b' c'] w (RS (flT (dotC x y z x' y' z') true) w) := by
  have KF := l02Ways_any h1 h2 h3
  rw [g1] at KF
  have HF := Hb.mk KF
  clear KF g1
  have KG := l02Ways_any h4 h5 h6
  rw [g2] at KG
  have HG := Hb.mk KG
  clear KG g2
  have G3 := Hb.mk g3
  clear g3
  have B0 := Hb.mk (Below.refl w.heap.size w)
  go_enter Try.func65, Try.ntmps65
  have tk_a : True := trivial; have tk_b : True := trivial
  go_wp2_with (first
    | (go_at_call 110; clear tk_a; refine (HF.out _).mono ?_; rintro e1 w1 ⟨rfl, b1⟩; have B1 := Hb.mk (Below.on (B := w.heap.size) (a := w) (by repeat (first | exact B0.out | refine Below.drews ?_ | refine Below.drew ?_ | refine Below.alloc ?_ (by have hq_ := B0.out.size; first | omega | (simp <;> omega)) _ | refine Below.setCell ?_ (by have hq_ := B0.out.size; first | omega | (simp <;> omega)) _)) b1 (by have hq_ := B0.out.size; first | omega | (simp <;> omega))); have p0 := Hb.mk (At.keep b1 (p := ⟨w.heap.size, 0, none⟩) (v := .float .f32 a) (by simp [go_sem]) (by simp [go_sem])); obtain ⟨p0c, p0z, p0l⟩ := p0.out; have p1 := Hb.mk (At.keep b1 (p := ⟨w.heap.size, 1, none⟩) (v := .float .f32 b) (by simp [go_sem]) (by simp [go_sem])); obtain ⟨p1c, p1z, p1l⟩ := p1.out; have p2 := Hb.mk (At.keep b1 (p := ⟨w.heap.size, 2, none⟩) (v := .float .f32 c) (by simp [go_sem]) (by simp [go_sem])); obtain ⟨p2c, p2z, p2l⟩ := p2.out; have q0 := Hb.mk (At.keep b1 (p := ⟨w.heap.size + 1, 0, none⟩) (v := .float .f32 a') (by simp [go_sem]) (by simp [go_sem])); obtain ⟨q0c, q0z, q0l⟩ := q0.out; have q1 := Hb.mk (At.keep b1 (p := ⟨w.heap.size + 1, 1, none⟩) (v := .float .f32 b') (by simp [go_sem]) (by simp [go_sem])); obtain ⟨q1c, q1z, q1l⟩ := q1.out; have q2 := Hb.mk (At.keep b1 (p := ⟨w.heap.size + 1, 2, none⟩) (v := .float .f32 c') (by simp [go_sem]) (by simp [go_sem])); obtain ⟨q2c, q2z, q2l⟩ := q2.out; clear b1)
    | (go_at_call 110; clear tk_b; refine (HG.out _).mono ?_; rintro e2 w2 ⟨rfl, b2⟩; have B2 := Hb.mk (Below.on (B := w.heap.size) (a := w) (by repeat (first | exact B1.out | refine Below.drews ?_ | refine Below.drew ?_ | refine Below.alloc ?_ (by have hq_ := B1.out.size; first | omega | (simp <;> omega)) _ | refine Below.setCell ?_ (by have hq_ := B1.out.size; first | omega | (simp <;> omega)) _)) b2 (by have hq_ := B1.out.size; first | omega | (simp <;> omega))); have p0 := Hb.mk (At.re p0.out b2 (by first | exact p0c | simp [go_sem, p0c, p0l]) (by first | exact p0z | simp [go_sem, p0z, p0l])); obtain ⟨p0c, p0z, p0l⟩ := p0.out; have p1 := Hb.mk (At.re p1.out b2 (by first | exact p1c | simp [go_sem, p1c, p1l]) (by first | exact p1z | simp [go_sem, p1z, p1l])); obtain ⟨p1c, p1z, p1l⟩ := p1.out; have p2 := Hb.mk (At.re p2.out b2 (by first | exact p2c | simp [go_sem, p2c, p2l]) (by first | exact p2z | simp [go_sem, p2z, p2l])); obtain ⟨p2c, p2z, p2l⟩ := p2.out; have q0 := Hb.mk (At.re q0.out b2 (by first | exact q0c | simp [go_sem, q0c, q0l]) (by first | exact q0z | simp [go_sem, q0z, q0l])); obtain ⟨q0c, q0z, q0l⟩ := q0.out; have q1 := Hb.mk (At.re q1.out b2 (by first | exact q1c | simp [go_sem, q1c, q1l]) (by first | exact q1z | simp [go_sem, q1z, q1l])); obtain ⟨q1c, q1z, q1l⟩ := q1.out; have q2 := Hb.mk (At.re q2.out b2 (by first | exact q2c | simp [go_sem, q2c, q2l]) (by first | exact q2z | simp [go_sem, q2z, q2l])); obtain ⟨q2c, q2z, q2l⟩ := q2.out; clear b2)
    | (go_at_call 112; refine (l02Dot_any h1 h2 h3 h4 h5 h6 _).mono ?_; rintro e3 w3 ⟨r3, rfl, hr3, b3⟩; have B3 := Hb.mk (Below.on (B := w.heap.size) (a := w) (by repeat (first | exact B2.out | refine Below.drews ?_ | refine Below.drew ?_ | refine Below.alloc ?_ (by have hq_ := B2.out.size; first | omega | (simp <;> omega)) _ | refine Below.setCell ?_ (by have hq_ := B2.out.size; first | omega | (simp <;> omega)) _)) b3 (by have hq_ := B2.out.size; first | omega | (simp <;> omega))); clear b3)
    | (go_at_call 111; refine (l02Number_yes hr3 G3.out _).mono ?_; rintro e4 w4 ⟨r4, n4, rfl, hr4, rfl⟩))
  go_ret2
  have e5 := hr4.word (fin_notN G3.out)
  rw [← e5]
  exact ⟨rfl, (by repeat (first | exact B3.out | refine Below.drews ?_ | refine Below.drew ?_ | refine Below.alloc ?_ (by have hq_ := B3.out.size; first | omega | (simp <;> omega)) _ | refine Below.setCell ?_ (by have hq_ := B3.out.size; first | omega | (simp <;> omega)) _))⟩
theorem pair_DotWays {a b c a' b' c' : Nat} (wa : (Lit.float .f32 a).wf = true) (wb : (Lit.float .f32 b).wf = true) (wc : (Lit.float .f32 c).wf = true) (wa' : (Lit.float .f32 a').wf = true) (wb' : (Lit.float .f32 b').wf = true) (wc' : (Lit.float .f32 c').wf = true) :
    ∃ V ok, Hb (∀ w, Calls Try.prog 65 #[wy a b c, wy a' b' c'] w (RS (flT V ok) w)) ∧ Hb (∀ w, Calls Try.prog 21 #[wy a b c, wy a' b' c'] w (RS (flT V ok) w)) ∧ Fl .f32 V V := by
  have h1 := Fl.own wa
  have h2 := Fl.own wb
  have h3 := Fl.own wc
  have h4 := Fl.own wa'
  have h5 := Fl.own wb'
  have h6 := Fl.own wc'
  cases g1 : finW (nrm .f32 a) (nrm .f32 b) (nrm .f32 c)
  · exact ⟨_, _, ⟨sDotWays_no1 h1 h2 h3 h4 h5 h6 g1⟩, ⟨iDotWays_no1 h1 h2 h3 h4 h5 h6 g1⟩, fl0⟩
  · cases g2 : finW (nrm .f32 a') (nrm .f32 b') (nrm .f32 c')
    · exact ⟨_, _, ⟨sDotWays_no2 h1 h2 h3 h4 h5 h6 g1 g2⟩, ⟨iDotWays_no2 h1 h2 h3 h4 h5 h6 g1 g2⟩, fl0⟩
    · cases g3 : fin .f32 (dotC (nrm .f32 a) (nrm .f32 b) (nrm .f32 c) (nrm .f32 a') (nrm .f32 b') (nrm .f32 c'))
      · exact ⟨_, _, ⟨sDotWays_no3 h1 h2 h3 h4 h5 h6 g1 g2 g3⟩, ⟨iDotWays_no3 h1 h2 h3 h4 h5 h6 g1 g2 g3⟩, fl0⟩
      · exact ⟨_, _, ⟨sDotWays_yes h1 h2 h3 h4 h5 h6 g1 g2 g3⟩, ⟨iDotWays_yes h1 h2 h3 h4 h5 h6 g1 g2 g3⟩, fop_fl g3⟩
set_option maxHeartbeats 2000000 in
theorem law_DotWays {a0 b0 c0 a1 b1 c1 : Nat} (wa0 : (Lit.float .f32 a0).wf = true) (wb0 : (Lit.float .f32 b0).wf = true) (wc0 : (Lit.float .f32 c0).wf = true) (wa1 : (Lit.float .f32 a1).wf = true) (wb1 : (Lit.float .f32 b1).wf = true) (wc1 : (Lit.float .f32 c1).wf = true) (w : World) : Calls Try.prog 11 #[wy a0 b0 c0, wy a1 b1 c1] w (RS (.bool true) w) := by
  obtain ⟨V, ok, KS, KG, hf⟩ := pair_DotWays wa0 wb0 wc0 wa1 wb1 wc1
  have B0 := Hb.mk (Below.refl w.heap.size w)
  cases ok
  all_goals
    go_enter Try.func11, Try.ntmps11
    go_wp2
    refine region_all (by kernel_rfl) (by kernel_rfl) (fun I1 F1 hne1 HB1 hcl => ?_)
    have p1_0_0 := keepF HB1 (p := ⟨w.heap.size, 0, none⟩) (v := .float .f32 a0) (by simp)
    have p1_0_1 := keepF HB1 (p := ⟨w.heap.size, 1, none⟩) (v := .float .f32 b0) (by simp)
    have p1_0_2 := keepF HB1 (p := ⟨w.heap.size, 2, none⟩) (v := .float .f32 c0) (by simp)
    have p1_1_0 := keepF HB1 (p := ⟨w.heap.size + 1, 0, none⟩) (v := .float .f32 a1) (by simp)
    have p1_1_1 := keepF HB1 (p := ⟨w.heap.size + 1, 1, none⟩) (v := .float .f32 b1) (by simp)
    have p1_1_2 := keepF HB1 (p := ⟨w.heap.size + 1, 2, none⟩) (v := .float .f32 c1) (by simp)
    repeat (quiet_step (first | (go_at_call 66; exact callS hcl (toWay_any _ _ _ _)) | (go_at_call 65; exact callS hcl (KS.out _)) | (go_at_call 21; exact callS hcl (KG.out _))))
    refine wpQuiet_nil ?_
    intro _ hw'
    obtain ⟨i1, rfl⟩ := hw'
    clear hcl
    go_wp2
    refine region_all (by kernel_rfl) (by kernel_rfl) (fun I2 F2 hne2 HB2 hcl => ?_)
    have p2_0_0 := keepF HB2 (p := ⟨w.heap.size, 0, none⟩) (v := .float .f32 a0) (p1_0_0 i1)
    have p2_0_1 := keepF HB2 (p := ⟨w.heap.size, 1, none⟩) (v := .float .f32 b0) (p1_0_1 i1)
    have p2_0_2 := keepF HB2 (p := ⟨w.heap.size, 2, none⟩) (v := .float .f32 c0) (p1_0_2 i1)
    have p2_1_0 := keepF HB2 (p := ⟨w.heap.size + 1, 0, none⟩) (v := .float .f32 a1) (p1_1_0 i1)
    have p2_1_1 := keepF HB2 (p := ⟨w.heap.size + 1, 1, none⟩) (v := .float .f32 b1) (p1_1_1 i1)
    have p2_1_2 := keepF HB2 (p := ⟨w.heap.size + 1, 2, none⟩) (v := .float .f32 c1) (p1_1_2 i1)
    repeat (quiet_step (first | (go_at_call 66; exact callS hcl (toWay_any _ _ _ _)) | (go_at_call 65; exact callS hcl (KS.out _)) | (go_at_call 21; exact callS hcl (KG.out _))))
    refine wpQuiet_nil ?_
    intro _ hw'
    obtain ⟨i2, rfl⟩ := hw'
    clear hcl
    go_wp2_with (first | (refine wpList_fcv rfl rfl rfl (by kernel_rfl) Try.underlying39 (by decide) (by first | (with_reducible assumption) | (with_reducible exact Fl.ofInt _ _) | exact Fl.not (by decide +kernel) (by decide +kernel)) (fits_wide _) ?_; intro r n hr; simp only [Act.put, List.setIfInBounds_toArray, List.set_cons_succ, List.set_cons_zero]) | (go_at_call 62; refine (sameFloat_any (by assumption) (by assumption) _).mono ?_; rintro e w' ⟨rfl, n, rfl⟩))
    go_ret
    refine ⟨rfl, ?_⟩
    have E1 := HB1.out i1
    have E2 := HB2.out i2
    exact Below.drews (Below.on (Below.on (by repeat (first | exact Below.refl _ _ | with_reducible assumption | refine Below.drews ?_ | refine Below.drew ?_ | refine Below.alloc ?_ (by simp <;> omega) _ | refine Below.setCell ?_ (by simp <;> omega) _)) E1 (by simp <;> omega)) E2 (by have := E1.size; simp at this; omega))
end Go.Proofs.Ytbpfheefhdlglaa
