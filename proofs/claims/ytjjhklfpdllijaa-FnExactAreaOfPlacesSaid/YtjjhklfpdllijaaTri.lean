/-
  The area of a triangle, of the program and of its model; the exact law AreaOfTriangle. No condition.
-/
import Derived.Test.YtjjhklfpdllijaaSid
namespace Go.Proofs.Ytjjhklfpdllijaa
open Go Go.RowKit
set_option maxRecDepth 100000

def triR1 (a b c x y z : Nat) : Nat := fop .add .f32 1065353216 (dotC a b c x y z)
def triR2 (a b c x y z p q r : Nat) : Nat := fop .add .f32 (triR1 a b c x y z) (dotC x y z p q r)
def triR3 (a b c x y z p q r : Nat) : Nat := fop .add .f32 (triR2 a b c x y z p q r) (dotC p q r a b c)
def triD (a b c x y z p q r : Nat) : Nat := dotC a b c (crX x y z p q r) (crY x y z p q r) (crZ x y z p q r)
def triA (a b c x y z p q r : Nat) : Nat := angleC (triD a b c x y z p q r) (triR3 a b c x y z p q r)
def triC (a b c x y z p q r : Nat) : Nat := fop .mul .f32 1073741824 (triA a b c x y z p q r)
structure Tri (a b c x y z p q r : Nat) : Prop where
  d1 : Ab .f32 (dotC a b c x y z) 1115684864
  d2 : Ab .f32 (dotC x y z p q r) 1115684864
  d3 : Ab .f32 (dotC p q r a b c) 1115684864
  r1 : Ab .f32 (triR1 a b c x y z) 1124073472
  r2 : Ab .f32 (triR2 a b c x y z p q r) 1132462080
  r3 : Ab .f32 (triR3 a b c x y z p q r) 1140850688
  cr : Wb (crX x y z p q r) (crY x y z p q r) (crZ x y z p q r) 1107296256
  D : Ab .f32 (triD a b c x y z p q r) 1140850688
  A : Ab .f32 (triA a b c x y z p q r) 1056964608
  T : Ab .f32 (triC a b c x y z p q r) 1065353216
theorem Tri.of {a b c x y z p q r : Nat} (h : Wb a b c 1082130432) (g : Wb x y z 1082130432) (k : Wb p q r 1082130432) : Tri a b c x y z p q r := by
  have d : ∀ {a b c x y z : Nat}, Wb a b c 1082130432 → Wb x y z 1082130432 → Ab .f32 (dotC a b c x y z) 1115684864 := fun h g => h.dot (m := 1098907648) (s := 1107296256) (t := 1115684864) g (by decide +kernel) (by decide +kernel) (by decide +kernel) (by decide +kernel) (by decide +kernel) (by decide +kernel)
  have hc := g.cross (m := 1098907648) (s := 1107296256) k (by decide +kernel) (by decide +kernel) (by decide +kernel) (by decide +kernel)
  have hD : Ab .f32 (triD a b c x y z p q r) 1140850688 := h.dot (m := 1124073472) (s := 1132462080) (t := 1140850688) hc (by decide +kernel) (by decide +kernel) (by decide +kernel) (by decide +kernel) (by decide +kernel) (by decide +kernel)
  have r1 : Ab .f32 (triR1 a b c x y z) 1124073472 := add_ab (ab_self (c := 1065353216) (by decide +kernel)) (d h g) (by decide +kernel) (by decide +kernel)
  have r2 : Ab .f32 (triR2 a b c x y z p q r) 1132462080 := add_ab r1 (d g k) (by decide +kernel) (by decide +kernel)
  have r3 : Ab .f32 (triR3 a b c x y z p q r) 1140850688 := add_ab r2 (d k h) (by decide +kernel) (by decide +kernel)
  have hA : Ab .f32 (triA a b c x y z p q r) 1056964608 := (angle_ab hD.fin r3.fin).1
  exact ⟨d h g, d g k, d k h, r1, r2, r3, hc, hD, hA, mul_ab (ab_self (c := 1073741824) (by decide +kernel)) hA (by decide +kernel) (by decide +kernel)⟩
set_option maxHeartbeats 4000000 in
theorem triangleOf_any {a b c x y z p q r : Nat} (hw : Wb a b c 1082130432) (gw : Wb x y z 1082130432) (kw : Wb p q r 1082130432) (w : World) : Calls Try.prog 96 #[wy a b c, wy x y z, wy p q r] w (RS (.float .f32 (triC a b c x y z p q r)) w) := by
  have ht := Tri.of hw gw kw
  have fr3 : Fl .f32 (triR3 a b c x y z p q r) (triR3 a b c x y z p q r) := fop_fl (op := .add) ht.r3.fin
  have fD : Fl .f32 (triD a b c x y z p q r) (triD a b c x y z p q r) := fop_fl (op := .add) ht.D.fin
  have K1 := Hb.mk (fun w => exactB (wayDot_any hw.fx hw.fy hw.fz gw.fx gw.fy gw.fz w) ht.d1.fin)
  have K2 := Hb.mk (fun w => exactB (wayDot_any gw.fx gw.fy gw.fz kw.fx kw.fy kw.fz w) ht.d2.fin)
  have K3 := Hb.mk (fun w => exactB (wayDot_any kw.fx kw.fy kw.fz hw.fx hw.fy hw.fz w) ht.d3.fin)
  have KC := Hb.mk (fun w => exactW (wayCross_any gw.fx gw.fy gw.fz kw.fx kw.fy kw.fz w) ht.cr.ax.fin ht.cr.ay.fin ht.cr.az.fin)
  have KD := Hb.mk (fun w => exactB (c := triD a b c x y z p q r) (wayDot_any hw.fx hw.fy hw.fz ht.cr.fx ht.cr.fy ht.cr.fz w) ht.D.fin)
  have KA := Hb.mk (fun w => exactF (c := triA a b c x y z p q r) (iAngleTurns_any fD fr3 w) ht.A.fin)
  have M1 : Hb (∀ w, (binOp .add 22 (.float .f32 1065353216) (.float .f32 (dotC a b c x y z))).run Try.prog w = .ok (.float .f32 (triR1 a b c x y z)) w) := ⟨fop_exact _ ht.r1.fin⟩
  have M2 : Hb (∀ w, (binOp .add 22 (.float .f32 (triR1 a b c x y z)) (.float .f32 (dotC x y z p q r))).run Try.prog w = .ok (.float .f32 (triR2 a b c x y z p q r)) w) := ⟨fop_exact _ ht.r2.fin⟩
  have M3 : Hb (∀ w, (binOp .add 22 (.float .f32 (triR2 a b c x y z p q r)) (.float .f32 (dotC p q r a b c))).run Try.prog w = .ok (.float .f32 (triR3 a b c x y z p q r)) w) := ⟨fop_exact _ ht.r3.fin⟩
  have M4 : Hb (∀ w, (binOp .mul 22 (.float .f32 1073741824) (.float .f32 (triA a b c x y z p q r))).run Try.prog w = .ok (.float .f32 (triC a b c x y z p q r)) w) := ⟨fop_exact _ ht.T.fin⟩
  clear ht hw gw kw fr3 fD
  generalize triC a b c x y z p q r = T at *
  generalize triA a b c x y z p q r = A at *
  generalize triR3 a b c x y z p q r = R3 at *
  generalize triR2 a b c x y z p q r = R2 at *
  generalize triR1 a b c x y z = R1 at *
  generalize triD a b c x y z p q r = D at *
  generalize crX x y z p q r = X at *
  generalize crY x y z p q r = Y at *
  generalize crZ x y z p q r = Z at *
  generalize dotC a b c x y z = d1 at *
  generalize dotC x y z p q r = d2 at *
  generalize dotC p q r a b c = d3 at *
  go_enter Try.func96, Try.ntmps96
  go_wp2
  refine region_all (by kernel_rfl) (by kernel_rfl) (fun I1 F1 hne1 HB1 hcl => ?_)
  have u00 := keepF HB1 (p := ⟨w.heap.size, 0, none⟩) (v := .float .f32 a) (by simp [go_sem])
  have u01 := keepF HB1 (p := ⟨w.heap.size, 1, none⟩) (v := .float .f32 b) (by simp [go_sem])
  have u02 := keepF HB1 (p := ⟨w.heap.size, 2, none⟩) (v := .float .f32 c) (by simp [go_sem])
  have u10 := keepF HB1 (p := ⟨w.heap.size + 1, 0, none⟩) (v := .float .f32 x) (by simp [go_sem])
  have u11 := keepF HB1 (p := ⟨w.heap.size + 1, 1, none⟩) (v := .float .f32 y) (by simp [go_sem])
  have u12 := keepF HB1 (p := ⟨w.heap.size + 1, 2, none⟩) (v := .float .f32 z) (by simp [go_sem])
  have u20 := keepF HB1 (p := ⟨w.heap.size + 2, 0, none⟩) (v := .float .f32 p) (by simp [go_sem])
  have u21 := keepF HB1 (p := ⟨w.heap.size + 2, 1, none⟩) (v := .float .f32 q) (by simp [go_sem])
  have u22 := keepF HB1 (p := ⟨w.heap.size + 2, 2, none⟩) (v := .float .f32 r) (by simp [go_sem])
  have m1 := M1.out
  have m2 := M2.out
  have m3 := M3.out
  repeat (quiet_step (first | (go_at_call_of 53 (Value.agg #[Value.float .f32 a, Value.float .f32 b, Value.float .f32 c]); go_at_call_of 53 (Value.agg #[Value.float .f32 x, Value.float .f32 y, Value.float .f32 z]); exact callS hcl (K1.out _)) | (go_at_call_of 53 (Value.agg #[Value.float .f32 x, Value.float .f32 y, Value.float .f32 z]); go_at_call_of 53 (Value.agg #[Value.float .f32 p, Value.float .f32 q, Value.float .f32 r]); exact callS hcl (K2.out _)) | (go_at_call_of 53 (Value.agg #[Value.float .f32 p, Value.float .f32 q, Value.float .f32 r]); go_at_call_of 53 (Value.agg #[Value.float .f32 a, Value.float .f32 b, Value.float .f32 c]); exact callS hcl (K3.out _))))
  refine wpQuiet_nil ?_
  intro _ hw'
  obtain ⟨i1, rfl⟩ := hw'
  clear hcl m1 m2 m3
  have E1 := Hb.mk (HB1.out i1)
  go_wp2
  refine region_all (by kernel_rfl) (by kernel_rfl) (fun I2 F2 hne2 HB2 hcl => ?_)
  have v00 := keepF HB2 (p := ⟨w.heap.size, 0, none⟩) (v := .float .f32 a) (by first | exact u00 i1 | simp [go_sem, u00 i1])
  have v01 := keepF HB2 (p := ⟨w.heap.size, 1, none⟩) (v := .float .f32 b) (by first | exact u01 i1 | simp [go_sem, u01 i1])
  have v02 := keepF HB2 (p := ⟨w.heap.size, 2, none⟩) (v := .float .f32 c) (by first | exact u02 i1 | simp [go_sem, u02 i1])
  have v10 := keepF HB2 (p := ⟨w.heap.size + 1, 0, none⟩) (v := .float .f32 x) (by first | exact u10 i1 | simp [go_sem, u10 i1])
  have v11 := keepF HB2 (p := ⟨w.heap.size + 1, 1, none⟩) (v := .float .f32 y) (by first | exact u11 i1 | simp [go_sem, u11 i1])
  have v12 := keepF HB2 (p := ⟨w.heap.size + 1, 2, none⟩) (v := .float .f32 z) (by first | exact u12 i1 | simp [go_sem, u12 i1])
  have v20 := keepF HB2 (p := ⟨w.heap.size + 2, 0, none⟩) (v := .float .f32 p) (by first | exact u20 i1 | simp [go_sem, u20 i1])
  have v21 := keepF HB2 (p := ⟨w.heap.size + 2, 1, none⟩) (v := .float .f32 q) (by first | exact u21 i1 | simp [go_sem, u21 i1])
  have v22 := keepF HB2 (p := ⟨w.heap.size + 2, 2, none⟩) (v := .float .f32 r) (by first | exact u22 i1 | simp [go_sem, u22 i1])
  have m4 := M4.out
  repeat (quiet_step (first | (go_at_call 52; exact callS hcl (KC.out _)) | (go_at_call 53; exact callS hcl (KD.out _)) | (go_at_call 74; exact callD hcl (KA.out _))))
  refine wpQuiet_nil ?_
  intro _ hw'
  obtain ⟨i2, rfl⟩ := hw'
  clear hcl m4
  have E2 := Hb.mk (HB2.out i2)
  have y1 := E1.out.size
  try simp at y1
  go_wp2
  go_ret
  exact ⟨rfl, (by repeat (first | exact Below.refl _ _ | refine Below.on ?_ E2.out (by first | omega | (simp <;> omega)) | refine Below.on ?_ E1.out (by first | omega | (simp <;> omega)) | refine Below.drews ?_ | refine Below.drew ?_ | refine Below.alloc ?_ (by first | omega | (simp <;> omega)) _ | refine Below.setCell ?_ (by first | omega | (simp <;> omega)) _))⟩
set_option maxHeartbeats 4000000 in
theorem l02Triangle_any {n0 e0 n1 e1 n2 e2 : Nat} (f0 : Fl .f32 n0 n0) (h0 : Fl .f32 e0 e0) (f1 : Fl .f32 n1 n1) (h1 : Fl .f32 e1 e1) (f2 : Fl .f32 n2 n2) (h2 : Fl .f32 e2 e2) (tn0 : Turn n0) (te0 : Turn e0) (tn1 : Turn n1) (te1 : Turn e1) (tn2 : Turn n2) (te2 : Turn e2) (w : World) : Calls Try.prog 94 #[pl n0 e0, pl n1 e1, pl n2 e2] w (RS (.float .f32 (triC (wxC n0 e0) (wyC n0 e0) (sineC n0) (wxC n1 e1) (wyC n1 e1) (sineC n1) (wxC n2 e2) (wyC n2 e2) (sineC n2))) w) := by
  have KW0 := Hb.mk (l02Way_any f0 h0 tn0 te0)
  have hw := Wb.way tn0 te0
  have KW1 := Hb.mk (l02Way_any f1 h1 tn1 te1)
  have gw := Wb.way tn1 te1
  have KW2 := Hb.mk (l02Way_any f2 h2 tn2 te2)
  have kw := Wb.way tn2 te2
  clear tn0 te0 tn1 te1 tn2 te2
  generalize wxC n0 e0 = a at *
  generalize wyC n0 e0 = b at *
  generalize sineC n0 = c at *
  generalize wxC n1 e1 = x at *
  generalize wyC n1 e1 = y at *
  generalize sineC n1 = z at *
  generalize wxC n2 e2 = p at *
  generalize wyC n2 e2 = q at *
  generalize sineC n2 = r at *
  have ht := Tri.of hw gw kw
  have fr3 : Fl .f32 (triR3 a b c x y z p q r) (triR3 a b c x y z p q r) := fop_fl (op := .add) ht.r3.fin
  have fD : Fl .f32 (triD a b c x y z p q r) (triD a b c x y z p q r) := fop_fl (op := .add) ht.D.fin
  have K1 := Hb.mk (fun w => exactB (l02Dot_any hw.fx hw.fy hw.fz gw.fx gw.fy gw.fz w) ht.d1.fin)
  have K2 := Hb.mk (fun w => exactB (l02Dot_any gw.fx gw.fy gw.fz kw.fx kw.fy kw.fz w) ht.d2.fin)
  have K3 := Hb.mk (fun w => exactB (l02Dot_any kw.fx kw.fy kw.fz hw.fx hw.fy hw.fz w) ht.d3.fin)
  have KC := Hb.mk (fun w => exactW (l02Cross_any gw.fx gw.fy gw.fz kw.fx kw.fy kw.fz w) ht.cr.ax.fin ht.cr.ay.fin ht.cr.az.fin)
  have KD := Hb.mk (fun w => exactB (c := triD a b c x y z p q r) (l02Dot_any hw.fx hw.fy hw.fz ht.cr.fx ht.cr.fy ht.cr.fz w) ht.D.fin)
  have KA := Hb.mk (fun w => exactF (c := triA a b c x y z p q r) (l01Angle_any fD fr3 w) ht.A.fin)
  have M1 : Hb (∀ w, (binOp .add 22 (.float .f32 1065353216) (.float .f32 (dotC a b c x y z))).run Try.prog w = .ok (.float .f32 (triR1 a b c x y z)) w) := ⟨fop_exact _ ht.r1.fin⟩
  have M2 : Hb (∀ w, (binOp .add 22 (.float .f32 (triR1 a b c x y z)) (.float .f32 (dotC x y z p q r))).run Try.prog w = .ok (.float .f32 (triR2 a b c x y z p q r)) w) := ⟨fop_exact _ ht.r2.fin⟩
  have M3 : Hb (∀ w, (binOp .add 22 (.float .f32 (triR2 a b c x y z p q r)) (.float .f32 (dotC p q r a b c))).run Try.prog w = .ok (.float .f32 (triR3 a b c x y z p q r)) w) := ⟨fop_exact _ ht.r3.fin⟩
  have M4 : Hb (∀ w, (binOp .mul 22 (.float .f32 1073741824) (.float .f32 (triA a b c x y z p q r))).run Try.prog w = .ok (.float .f32 (triC a b c x y z p q r)) w) := ⟨fop_exact _ ht.T.fin⟩
  clear ht hw gw kw fr3 fD
  generalize triC a b c x y z p q r = T at *
  generalize triA a b c x y z p q r = A at *
  generalize triR3 a b c x y z p q r = R3 at *
  generalize triR2 a b c x y z p q r = R2 at *
  generalize triR1 a b c x y z = R1 at *
  generalize triD a b c x y z p q r = D at *
  generalize crX x y z p q r = X at *
  generalize crY x y z p q r = Y at *
  generalize crZ x y z p q r = Z at *
  generalize dotC a b c x y z = d1 at *
  generalize dotC x y z p q r = d2 at *
  generalize dotC p q r a b c = d3 at *
  have B0 := Hb.mk (Below.refl w.heap.size w)
  go_enter Try.func94, Try.ntmps94
  have tk_k : True := trivial; have tk_l : True := trivial; have tk_m : True := trivial
  go_wp2_with (first
    | (go_at_call 47; clear tk_k; refine (KW0.out _).mono ?_; rintro ex w1 ⟨rfl, b1⟩; have B1 := Hb.mk (Below.on (B := w.heap.size) (a := w) (by repeat (first | exact B0.out | refine Below.drews ?_ | refine Below.drew ?_ | refine Below.alloc ?_ (by have hq_ := B0.out.size; first | omega | (simp <;> omega)) _ | refine Below.setCell ?_ (by have hq_ := B0.out.size; first | omega | (simp <;> omega)) _)) b1 (by have hq_ := B0.out.size; first | omega | (simp <;> omega))); have s0 := Hb.mk (At.keep b1 (p := ⟨w.heap.size + 1, 0, none⟩) (v := .float .f32 n1) (by simp [go_sem]) (by simp [go_sem])); obtain ⟨s0c, s0z, s0l⟩ := s0.out; have s1 := Hb.mk (At.keep b1 (p := ⟨w.heap.size + 1, 1, none⟩) (v := .float .f32 e1) (by simp [go_sem]) (by simp [go_sem])); obtain ⟨s1c, s1z, s1l⟩ := s1.out; have t0 := Hb.mk (At.keep b1 (p := ⟨w.heap.size + 2, 0, none⟩) (v := .float .f32 n2) (by simp [go_sem]) (by simp [go_sem])); obtain ⟨t0c, t0z, t0l⟩ := t0.out; have t1 := Hb.mk (At.keep b1 (p := ⟨w.heap.size + 2, 1, none⟩) (v := .float .f32 e2) (by simp [go_sem]) (by simp [go_sem])); obtain ⟨t1c, t1z, t1l⟩ := t1.out; clear b1)
    | (go_at_call 47; clear tk_l; refine (KW1.out _).mono ?_; rintro ex w2 ⟨rfl, b2⟩; have B2 := Hb.mk (Below.on (B := w.heap.size) (a := w) (by repeat (first | exact B1.out | refine Below.drews ?_ | refine Below.drew ?_ | refine Below.alloc ?_ (by have hq_ := B1.out.size; first | omega | (simp <;> omega)) _ | refine Below.setCell ?_ (by have hq_ := B1.out.size; first | omega | (simp <;> omega)) _)) b2 (by have hq_ := B1.out.size; first | omega | (simp <;> omega))); have g0 := Hb.mk (At.keep b2 (p := ⟨w1.heap.size, 0, none⟩) (v := .float .f32 a) (by simp [go_sem]) (by simp [go_sem])); obtain ⟨g0c, g0z, g0l⟩ := g0.out; have g1 := Hb.mk (At.keep b2 (p := ⟨w1.heap.size, 1, none⟩) (v := .float .f32 b) (by simp [go_sem]) (by simp [go_sem])); obtain ⟨g1c, g1z, g1l⟩ := g1.out; have g2 := Hb.mk (At.keep b2 (p := ⟨w1.heap.size, 2, none⟩) (v := .float .f32 c) (by simp [go_sem]) (by simp [go_sem])); obtain ⟨g2c, g2z, g2l⟩ := g2.out; have t0 := Hb.mk (At.re t0.out b2 (by first | exact t0c | simp [go_sem, t0c, t0l]) (by first | exact t0z | simp [go_sem, t0z, t0l])); obtain ⟨t0c, t0z, t0l⟩ := t0.out; have t1 := Hb.mk (At.re t1.out b2 (by first | exact t1c | simp [go_sem, t1c, t1l]) (by first | exact t1z | simp [go_sem, t1z, t1l])); obtain ⟨t1c, t1z, t1l⟩ := t1.out; clear b2)
    | (go_at_call 47; clear tk_m; refine (KW2.out _).mono ?_; rintro ex w3 ⟨rfl, b3⟩; have B3 := Hb.mk (Below.on (B := w.heap.size) (a := w) (by repeat (first | exact B2.out | refine Below.drews ?_ | refine Below.drew ?_ | refine Below.alloc ?_ (by have hq_ := B2.out.size; first | omega | (simp <;> omega)) _ | refine Below.setCell ?_ (by have hq_ := B2.out.size; first | omega | (simp <;> omega)) _)) b3 (by have hq_ := B2.out.size; first | omega | (simp <;> omega))); have h0 := Hb.mk (At.keep b3 (p := ⟨w2.heap.size, 0, none⟩) (v := .float .f32 x) (by simp [go_sem]) (by simp [go_sem])); obtain ⟨h0c, h0z, h0l⟩ := h0.out; have h1 := Hb.mk (At.keep b3 (p := ⟨w2.heap.size, 1, none⟩) (v := .float .f32 y) (by simp [go_sem]) (by simp [go_sem])); obtain ⟨h1c, h1z, h1l⟩ := h1.out; have h2 := Hb.mk (At.keep b3 (p := ⟨w2.heap.size, 2, none⟩) (v := .float .f32 z) (by simp [go_sem]) (by simp [go_sem])); obtain ⟨h2c, h2z, h2l⟩ := h2.out; have g0 := Hb.mk (At.re g0.out b3 (by first | exact g0c | simp [go_sem, g0c, g0l]) (by first | exact g0z | simp [go_sem, g0z, g0l])); obtain ⟨g0c, g0z, g0l⟩ := g0.out; have g1 := Hb.mk (At.re g1.out b3 (by first | exact g1c | simp [go_sem, g1c, g1l]) (by first | exact g1z | simp [go_sem, g1z, g1l])); obtain ⟨g1c, g1z, g1l⟩ := g1.out; have g2 := Hb.mk (At.re g2.out b3 (by first | exact g2c | simp [go_sem, g2c, g2l]) (by first | exact g2z | simp [go_sem, g2z, g2l])); obtain ⟨g2c, g2z, g2l⟩ := g2.out; clear b3))
  refine region_all (by kernel_rfl) (by kernel_rfl) (fun I1 F1 hne1 HB1 hcl => ?_)
  have u00 := keepF HB1 (p := ⟨w1.heap.size, 0, none⟩) (v := .float .f32 a) (by simp [go_sem, g0c, g0l])
  have u01 := keepF HB1 (p := ⟨w1.heap.size, 1, none⟩) (v := .float .f32 b) (by simp [go_sem, g1c, g1l])
  have u02 := keepF HB1 (p := ⟨w1.heap.size, 2, none⟩) (v := .float .f32 c) (by simp [go_sem, g2c, g2l])
  have u10 := keepF HB1 (p := ⟨w2.heap.size, 0, none⟩) (v := .float .f32 x) (by simp [go_sem, h0c, h0l])
  have u11 := keepF HB1 (p := ⟨w2.heap.size, 1, none⟩) (v := .float .f32 y) (by simp [go_sem, h1c, h1l])
  have u12 := keepF HB1 (p := ⟨w2.heap.size, 2, none⟩) (v := .float .f32 z) (by simp [go_sem, h2c, h2l])
  have u20 := keepF HB1 (p := ⟨w3.heap.size, 0, none⟩) (v := .float .f32 p) (by simp [go_sem])
  have u21 := keepF HB1 (p := ⟨w3.heap.size, 1, none⟩) (v := .float .f32 q) (by simp [go_sem])
  have u22 := keepF HB1 (p := ⟨w3.heap.size, 2, none⟩) (v := .float .f32 r) (by simp [go_sem])
  have m1 := M1.out
  have m2 := M2.out
  have m3 := M3.out
  repeat (quiet_step (first | (go_at_call_of 48 (Value.agg #[Value.float .f32 a, Value.float .f32 b, Value.float .f32 c]); go_at_call_of 48 (Value.agg #[Value.float .f32 x, Value.float .f32 y, Value.float .f32 z]); exact callS hcl (K1.out _)) | (go_at_call_of 48 (Value.agg #[Value.float .f32 x, Value.float .f32 y, Value.float .f32 z]); go_at_call_of 48 (Value.agg #[Value.float .f32 p, Value.float .f32 q, Value.float .f32 r]); exact callS hcl (K2.out _)) | (go_at_call_of 48 (Value.agg #[Value.float .f32 p, Value.float .f32 q, Value.float .f32 r]); go_at_call_of 48 (Value.agg #[Value.float .f32 a, Value.float .f32 b, Value.float .f32 c]); exact callS hcl (K3.out _))))
  refine wpQuiet_nil ?_
  intro _ hw'
  obtain ⟨i1, rfl⟩ := hw'
  clear hcl m1 m2 m3
  have E1 := Hb.mk (HB1.out i1)
  go_wp2
  refine region_all (by kernel_rfl) (by kernel_rfl) (fun I2 F2 hne2 HB2 hcl => ?_)
  have v00 := keepF HB2 (p := ⟨w1.heap.size, 0, none⟩) (v := .float .f32 a) (by first | exact u00 i1 | simp [go_sem, u00 i1])
  have v01 := keepF HB2 (p := ⟨w1.heap.size, 1, none⟩) (v := .float .f32 b) (by first | exact u01 i1 | simp [go_sem, u01 i1])
  have v02 := keepF HB2 (p := ⟨w1.heap.size, 2, none⟩) (v := .float .f32 c) (by first | exact u02 i1 | simp [go_sem, u02 i1])
  have v10 := keepF HB2 (p := ⟨w2.heap.size, 0, none⟩) (v := .float .f32 x) (by first | exact u10 i1 | simp [go_sem, u10 i1])
  have v11 := keepF HB2 (p := ⟨w2.heap.size, 1, none⟩) (v := .float .f32 y) (by first | exact u11 i1 | simp [go_sem, u11 i1])
  have v12 := keepF HB2 (p := ⟨w2.heap.size, 2, none⟩) (v := .float .f32 z) (by first | exact u12 i1 | simp [go_sem, u12 i1])
  have v20 := keepF HB2 (p := ⟨w3.heap.size, 0, none⟩) (v := .float .f32 p) (by first | exact u20 i1 | simp [go_sem, u20 i1])
  have v21 := keepF HB2 (p := ⟨w3.heap.size, 1, none⟩) (v := .float .f32 q) (by first | exact u21 i1 | simp [go_sem, u21 i1])
  have v22 := keepF HB2 (p := ⟨w3.heap.size, 2, none⟩) (v := .float .f32 r) (by first | exact u22 i1 | simp [go_sem, u22 i1])
  have m4 := M4.out
  repeat (quiet_step (first | (go_at_call 46; exact callS hcl (KC.out _)) | (go_at_call 48; exact callS hcl (KD.out _)) | (go_at_call 71; exact callD hcl (KA.out _))))
  refine wpQuiet_nil ?_
  intro _ hw'
  obtain ⟨i2, rfl⟩ := hw'
  clear hcl m4
  have E2 := Hb.mk (HB2.out i2)
  have y1 := E1.out.size
  try simp at y1
  go_wp2
  go_ret
  have y3 := B3.out.size
  exact ⟨rfl, (by repeat (first | exact Below.refl _ _ | refine Below.on ?_ E2.out (by first | omega | (simp <;> omega)) | refine Below.on ?_ E1.out (by first | omega | (simp <;> omega)) | exact B3.out | refine Below.drews ?_ | refine Below.drew ?_ | refine Below.alloc ?_ (by first | omega | (simp <;> omega)) _ | refine Below.setCell ?_ (by first | omega | (simp <;> omega)) _))⟩
end Go.Proofs.Ytjjhklfpdllijaa
