/-
  On which side of a line a place is, and the area of a triangle, of the program and of its model; the exact laws SideOf and AreaOfTriangle. No condition.
-/
import Derived.Test.YtbpfheefhdlglabApt
namespace Go.Proofs.Ytbpfheefhdlglab
open Go Go.RowKit
set_option maxRecDepth 100000

theorem Wb.widen {x y z b d : Nat} (h : Wb x y z b) (hd : rung .f32 b ≤ rung .f32 d) (hf : fin .f32 d = true) : Wb x y z d := ⟨h.ax.mono hd hf, h.ay.mono hd hf, h.az.mono hd hf, h.fx, h.fy, h.fz⟩
def sideC (a b c x y z p q r : Nat) : Nat := dotC (crX a b c x y z) (crY a b c x y z) (crZ a b c x y z) p q r
structure Sid (a b c x y z p q r : Nat) : Prop where
  cr : Wb (crX a b c x y z) (crY a b c x y z) (crZ a b c x y z) 1107296256
  s : Ab .f32 (sideC a b c x y z p q r) 1140850688
  fs : Fl .f32 (sideC a b c x y z p q r) (sideC a b c x y z p q r)
theorem Sid.of {a b c x y z p q r : Nat} (h : Wb a b c 1082130432) (g : Wb x y z 1082130432) (k : Wb p q r 1082130432) : Sid a b c x y z p q r := by
  have hc := h.cross (m := 1098907648) (s := 1107296256) g (by decide +kernel) (by decide +kernel) (by decide +kernel) (by decide +kernel)
  have hs : Ab .f32 (sideC a b c x y z p q r) 1140850688 := hc.dot (m := 1124073472) (s := 1132462080) (t := 1140850688) k (by decide +kernel) (by decide +kernel) (by decide +kernel) (by decide +kernel) (by decide +kernel) (by decide +kernel)
  exact ⟨hc, hs, fop_fl (op := .add) hs.fin⟩
set_option maxHeartbeats 2000000 in
theorem iSideOf_yes {n0 e0 n1 e1 n2 e2 : Nat} (f0 : Fl .f32 n0 n0) (h0 : Fl .f32 e0 e0) (f1 : Fl .f32 n1 n1) (h1 : Fl .f32 e1 e1) (f2 : Fl .f32 n2 n2) (h2 : Fl .f32 e2 e2) (v0 : validC n0 e0 = true) (v1 : validC n1 e1 = true) (v2 : validC n2 e2 = true) (w : World) : Calls Try.prog 31 #[pl n0 e0, pl n1 e1, pl n2 e2] w (RS (flT2 (sideC (wxC n0 e0) (wyC n0 e0) (sineC n0) (wxC n1 e1) (wyC n1 e1) (sineC n1) (wxC n2 e2) (wyC n2 e2) (sineC n2)) true) w) := by
  obtain ⟨tn0, te0⟩ := turns_of v0
  obtain ⟨tn1, te1⟩ := turns_of v1
  obtain ⟨tn2, te2⟩ := turns_of v2
  have KS := Hb.mk (fun (g : Nat) => ws3 (g := g) f0 h0 f1 h1 f2 h2 v0 v1 v2)
  have wb0 := Wb.way tn0 te0
  have wb1 := Wb.way tn1 te1
  have wb2 := Wb.way tn2 te2
  have hs := Sid.of wb0 wb1 wb2
  have KC := Hb.mk (fun w => exactW (wayCross_any wb0.fx wb0.fy wb0.fz wb1.fx wb1.fy wb1.fz w) hs.cr.ax.fin hs.cr.ay.fin hs.cr.az.fin)
  have KD := Hb.mk (fun w => exactB (c := sideC (wxC n0 e0) (wyC n0 e0) (sineC n0) (wxC n1 e1) (wyC n1 e1) (sineC n1) (wxC n2 e2) (wyC n2 e2) (sineC n2)) (wayDot_any hs.cr.fx hs.cr.fy hs.cr.fz wb2.fx wb2.fy wb2.fz w) hs.s.fin)
  clear hs
  clear v0 v1 v2 tn0 te0 tn1 te1 tn2 te2 wb0 wb1 wb2
  generalize sideC (wxC n0 e0) (wyC n0 e0) (sineC n0) (wxC n1 e1) (wyC n1 e1) (sineC n1) (wxC n2 e2) (wyC n2 e2) (sineC n2) = V at *
  generalize crX (wxC n0 e0) (wyC n0 e0) (sineC n0) (wxC n1 e1) (wyC n1 e1) (sineC n1) = X at *
  generalize crY (wxC n0 e0) (wyC n0 e0) (sineC n0) (wxC n1 e1) (wyC n1 e1) (sineC n1) = Y at *
  generalize crZ (wxC n0 e0) (wyC n0 e0) (sineC n0) (wxC n1 e1) (wyC n1 e1) (sineC n1) = Z at *
  generalize wxC n0 e0 = a at *
  generalize wyC n0 e0 = b at *
  generalize sineC n0 = c at *
  generalize wxC n1 e1 = x at *
  generalize wyC n1 e1 = y at *
  generalize sineC n1 = z at *
  generalize wxC n2 e2 = p at *
  generalize wyC n2 e2 = q at *
  generalize sineC n2 = r at *
  have B0 := Hb.mk (Below.refl w.heap.size w)
  go_enter Try.func31, Try.ntmps31
  go_wp2_with (first | (go_at_call 48; refine (KS.out _ _ (by simp [go_sem]) (by simp [go_sem]) (by simp [go_sem]) (by simp [go_sem]) (by simp [go_sem]) (by simp [go_sem])).mono ?_; rintro ex w1 ⟨rfl, b1, l1, k1⟩; have B1 := Hb.mk (Below.on (B := w.heap.size) (a := w) (by repeat (first | exact B0.out | refine Below.drews ?_ | refine Below.drew ?_ | refine Below.alloc ?_ (by have hq_ := B0.out.size; first | omega | (simp <;> omega)) _ | refine Below.setCell ?_ (by have hq_ := B0.out.size; first | omega | (simp <;> omega)) _)) b1 (by have hq_ := B0.out.size; first | omega | (simp <;> omega))); have q0 := k1 0 (by decide); have q1 := k1 1 (by decide); have q2 := k1 2 (by decide); have q3 := k1 3 (by decide); have q4 := k1 4 (by decide); have q5 := k1 5 (by decide); have q6 := k1 6 (by decide); have q7 := k1 7 (by decide); have q8 := k1 8 (by decide); simp at q0 q1 q2 q3 q4 q5 q6 q7 q8 l1; clear k1 b1))
  refine region_all (by kernel_rfl) (by kernel_rfl) (fun I F hne HB hcl => ?_)
  have p0 := keepF HB (p := ⟨w.heap.size + 4, 0, none⟩) (v := .float .f32 a) q0
  have p1 := keepF HB (p := ⟨w.heap.size + 4, 1, none⟩) (v := .float .f32 b) q1
  have p2 := keepF HB (p := ⟨w.heap.size + 4, 2, none⟩) (v := .float .f32 c) q2
  have p3 := keepF HB (p := ⟨w.heap.size + 4, 3, none⟩) (v := .float .f32 x) q3
  have p4 := keepF HB (p := ⟨w.heap.size + 4, 4, none⟩) (v := .float .f32 y) q4
  have p5 := keepF HB (p := ⟨w.heap.size + 4, 5, none⟩) (v := .float .f32 z) q5
  have p6 := keepF HB (p := ⟨w.heap.size + 4, 6, none⟩) (v := .float .f32 p) q6
  have p7 := keepF HB (p := ⟨w.heap.size + 4, 7, none⟩) (v := .float .f32 q) q7
  have p8 := keepF HB (p := ⟨w.heap.size + 4, 8, none⟩) (v := .float .f32 r) q8
  repeat (quiet_step (first | (go_at_call 68; exact callS hcl (KC.out _)) | (go_at_call 69; exact callS hcl (KD.out _))))
  refine wpQuiet_nil ?_
  intro _ hw'
  obtain ⟨iq, rfl⟩ := hw'
  clear hcl
  have E1 := Hb.mk (HB.out iq)
  have y1 := B1.out.size
  go_wp2
  go_ret2
  exact ⟨rfl, (by repeat (first | exact Below.refl _ _ | refine Below.on ?_ E1.out (by first | omega | (simp <;> omega)) | exact B1.out | refine Below.drews ?_ | refine Below.drew ?_ | refine Below.alloc ?_ (by first | omega | (simp <;> omega)) _ | refine Below.setCell ?_ (by first | omega | (simp <;> omega)) _))⟩
theorem iSideOf_no0 {n0 e0 n1 e1 n2 e2 cn ce : Nat} (f0 : Fl .f32 cn n0) (h0 : Fl .f32 ce e0) (v0 : validC cn ce = false) (w : World) : Calls Try.prog 31 #[pl n0 e0, pl n1 e1, pl n2 e2] w (RS (flT2 0 false) w) := by
  have KS := Hb.mk (fun (g : Nat) => ws3_no0 (g := g) (n0 := n0) (e0 := e0) (n1 := n1) (e1 := e1) (n2 := n2) (e2 := e2) f0 h0 v0)
  clear v0
  have B0 := Hb.mk (Below.refl w.heap.size w)
  go_enter Try.func31, Try.ntmps31
  go_wp2_with (first | (go_at_call 48; refine (KS.out _ _ (by simp [go_sem]) (by simp [go_sem]) (by simp [go_sem]) (by simp [go_sem]) (by simp [go_sem]) (by simp [go_sem])).mono ?_; rintro ex w1 ⟨rfl, b1⟩; have B1 := Hb.mk (Below.on (B := w.heap.size) (a := w) (by repeat (first | exact B0.out | refine Below.drews ?_ | refine Below.drew ?_ | refine Below.alloc ?_ (by have hq_ := B0.out.size; first | omega | (simp <;> omega)) _ | refine Below.setCell ?_ (by have hq_ := B0.out.size; first | omega | (simp <;> omega)) _)) b1 (by have hq_ := B0.out.size; first | omega | (simp <;> omega))); clear b1))
  go_ret2
  exact ⟨rfl, (by repeat (first | exact Below.refl _ _ | exact B1.out | refine Below.drews ?_ | refine Below.drew ?_ | refine Below.alloc ?_ (by first | omega | (simp <;> omega)) _ | refine Below.setCell ?_ (by first | omega | (simp <;> omega)) _))⟩
theorem iSideOf_no1 {n0 e0 n1 e1 n2 e2 cn ce : Nat} (f0 : Fl .f32 n0 n0) (h0 : Fl .f32 e0 e0) (f1 : Fl .f32 cn n1) (h1 : Fl .f32 ce e1) (v0 : validC n0 e0 = true) (v1 : validC cn ce = false) (w : World) : Calls Try.prog 31 #[pl n0 e0, pl n1 e1, pl n2 e2] w (RS (flT2 0 false) w) := by
  have KS := Hb.mk (fun (g : Nat) => ws3_no1 (g := g) (n0 := n0) (e0 := e0) (n1 := n1) (e1 := e1) (n2 := n2) (e2 := e2) f0 h0 f1 h1 v0 v1)
  clear v0 v1
  have B0 := Hb.mk (Below.refl w.heap.size w)
  go_enter Try.func31, Try.ntmps31
  go_wp2_with (first | (go_at_call 48; refine (KS.out _ _ (by simp [go_sem]) (by simp [go_sem]) (by simp [go_sem]) (by simp [go_sem]) (by simp [go_sem]) (by simp [go_sem])).mono ?_; rintro ex w1 ⟨rfl, b1⟩; have B1 := Hb.mk (Below.on (B := w.heap.size) (a := w) (by repeat (first | exact B0.out | refine Below.drews ?_ | refine Below.drew ?_ | refine Below.alloc ?_ (by have hq_ := B0.out.size; first | omega | (simp <;> omega)) _ | refine Below.setCell ?_ (by have hq_ := B0.out.size; first | omega | (simp <;> omega)) _)) b1 (by have hq_ := B0.out.size; first | omega | (simp <;> omega))); clear b1))
  go_ret2
  exact ⟨rfl, (by repeat (first | exact Below.refl _ _ | exact B1.out | refine Below.drews ?_ | refine Below.drew ?_ | refine Below.alloc ?_ (by first | omega | (simp <;> omega)) _ | refine Below.setCell ?_ (by first | omega | (simp <;> omega)) _))⟩
theorem iSideOf_no2 {n0 e0 n1 e1 n2 e2 cn ce : Nat} (f0 : Fl .f32 n0 n0) (h0 : Fl .f32 e0 e0) (f1 : Fl .f32 n1 n1) (h1 : Fl .f32 e1 e1) (f2 : Fl .f32 cn n2) (h2 : Fl .f32 ce e2) (v0 : validC n0 e0 = true) (v1 : validC n1 e1 = true) (v2 : validC cn ce = false) (w : World) : Calls Try.prog 31 #[pl n0 e0, pl n1 e1, pl n2 e2] w (RS (flT2 0 false) w) := by
  have KS := Hb.mk (fun (g : Nat) => ws3_no2 (g := g) (n0 := n0) (e0 := e0) (n1 := n1) (e1 := e1) (n2 := n2) (e2 := e2) f0 h0 f1 h1 f2 h2 v0 v1 v2)
  clear v0 v1 v2
  have B0 := Hb.mk (Below.refl w.heap.size w)
  go_enter Try.func31, Try.ntmps31
  go_wp2_with (first | (go_at_call 48; refine (KS.out _ _ (by simp [go_sem]) (by simp [go_sem]) (by simp [go_sem]) (by simp [go_sem]) (by simp [go_sem]) (by simp [go_sem])).mono ?_; rintro ex w1 ⟨rfl, b1⟩; have B1 := Hb.mk (Below.on (B := w.heap.size) (a := w) (by repeat (first | exact B0.out | refine Below.drews ?_ | refine Below.drew ?_ | refine Below.alloc ?_ (by have hq_ := B0.out.size; first | omega | (simp <;> omega)) _ | refine Below.setCell ?_ (by have hq_ := B0.out.size; first | omega | (simp <;> omega)) _)) b1 (by have hq_ := B0.out.size; first | omega | (simp <;> omega))); clear b1))
  go_ret2
  exact ⟨rfl, (by repeat (first | exact Below.refl _ _ | exact B1.out | refine Below.drews ?_ | refine Below.drew ?_ | refine Below.alloc ?_ (by first | omega | (simp <;> omega)) _ | refine Below.setCell ?_ (by first | omega | (simp <;> omega)) _))⟩
set_option maxHeartbeats 2000000 in
theorem l02Side_any {n0 e0 n1 e1 n2 e2 : Nat} (f0 : Fl .f32 n0 n0) (h0 : Fl .f32 e0 e0) (f1 : Fl .f32 n1 n1) (h1 : Fl .f32 e1 e1) (f2 : Fl .f32 n2 n2) (h2 : Fl .f32 e2 e2) (tn0 : Turn n0) (te0 : Turn e0) (tn1 : Turn n1) (te1 : Turn e1) (tn2 : Turn n2) (te2 : Turn e2) (w : World) : Calls Try.prog 67 #[pl n0 e0, pl n1 e1, pl n2 e2] w (RS (.float .f32 (sideC (wxC n0 e0) (wyC n0 e0) (sineC n0) (wxC n1 e1) (wyC n1 e1) (sineC n1) (wxC n2 e2) (wyC n2 e2) (sineC n2))) w) := by
  have KW0 := Hb.mk (l02Way_any f0 h0 tn0 te0)
  have wb0 := Wb.way tn0 te0
  have KW1 := Hb.mk (l02Way_any f1 h1 tn1 te1)
  have wb1 := Wb.way tn1 te1
  have KW2 := Hb.mk (l02Way_any f2 h2 tn2 te2)
  have wb2 := Wb.way tn2 te2
  have hs := Sid.of wb0 wb1 wb2
  have KC := Hb.mk (fun w => exactW (l02Cross_any wb0.fx wb0.fy wb0.fz wb1.fx wb1.fy wb1.fz w) hs.cr.ax.fin hs.cr.ay.fin hs.cr.az.fin)
  have KD := Hb.mk (fun w => exactB (c := sideC (wxC n0 e0) (wyC n0 e0) (sineC n0) (wxC n1 e1) (wyC n1 e1) (sineC n1) (wxC n2 e2) (wyC n2 e2) (sineC n2)) (l02Dot_any hs.cr.fx hs.cr.fy hs.cr.fz wb2.fx wb2.fy wb2.fz w) hs.s.fin)
  clear hs
  clear tn0 te0 tn1 te1 tn2 te2 wb0 wb1 wb2
  generalize sideC (wxC n0 e0) (wyC n0 e0) (sineC n0) (wxC n1 e1) (wyC n1 e1) (sineC n1) (wxC n2 e2) (wyC n2 e2) (sineC n2) = V at *
  generalize crX (wxC n0 e0) (wyC n0 e0) (sineC n0) (wxC n1 e1) (wyC n1 e1) (sineC n1) = X at *
  generalize crY (wxC n0 e0) (wyC n0 e0) (sineC n0) (wxC n1 e1) (wyC n1 e1) (sineC n1) = Y at *
  generalize crZ (wxC n0 e0) (wyC n0 e0) (sineC n0) (wxC n1 e1) (wyC n1 e1) (sineC n1) = Z at *
  generalize wxC n0 e0 = a at *
  generalize wyC n0 e0 = b at *
  generalize sineC n0 = c at *
  generalize wxC n1 e1 = x at *
  generalize wyC n1 e1 = y at *
  generalize sineC n1 = z at *
  generalize wxC n2 e2 = p at *
  generalize wyC n2 e2 = q at *
  generalize sineC n2 = r at *
  go_enter Try.func67, Try.ntmps67
  go_wp2
  refine region_all (by kernel_rfl) (by kernel_rfl) (fun I F hne HB hcl => ?_)
  have p00 := keepF HB (p := ⟨w.heap.size, 0, none⟩) (v := .float .f32 n0) (by simp [go_sem])
  have p01 := keepF HB (p := ⟨w.heap.size, 1, none⟩) (v := .float .f32 e0) (by simp [go_sem])
  have p10 := keepF HB (p := ⟨w.heap.size + 1, 0, none⟩) (v := .float .f32 n1) (by simp [go_sem])
  have p11 := keepF HB (p := ⟨w.heap.size + 1, 1, none⟩) (v := .float .f32 e1) (by simp [go_sem])
  have p20 := keepF HB (p := ⟨w.heap.size + 2, 0, none⟩) (v := .float .f32 n2) (by simp [go_sem])
  have p21 := keepF HB (p := ⟨w.heap.size + 2, 1, none⟩) (v := .float .f32 e2) (by simp [go_sem])
  repeat (quiet_step (first | (go_at_call_of 62 (Value.agg #[Value.float .f32 n0, Value.float .f32 e0]); exact callS hcl (KW0.out _)) | (go_at_call_of 62 (Value.agg #[Value.float .f32 n1, Value.float .f32 e1]); exact callS hcl (KW1.out _)) | (go_at_call_of 62 (Value.agg #[Value.float .f32 n2, Value.float .f32 e2]); exact callS hcl (KW2.out _)) | (go_at_call 71; exact callS hcl (KC.out _)) | (go_at_call 78; exact callS hcl (KD.out _))))
  refine wpQuiet_nil ?_
  intro _ hw'
  obtain ⟨iq, rfl⟩ := hw'
  clear hcl
  have E1 := Hb.mk (HB.out iq)
  go_wp2
  go_ret
  exact ⟨rfl, (by repeat (first | exact Below.refl _ _ | refine Below.on ?_ E1.out (by first | omega | (simp <;> omega)) | refine Below.drews ?_ | refine Below.drew ?_ | refine Below.alloc ?_ (by first | omega | (simp <;> omega)) _ | refine Below.setCell ?_ (by first | omega | (simp <;> omega)) _))⟩
theorem sSideOf_yes {n0 e0 n1 e1 n2 e2 : Nat} (f0 : Fl .f32 n0 n0) (h0 : Fl .f32 e0 e0) (f1 : Fl .f32 n1 n1) (h1 : Fl .f32 e1 e1) (f2 : Fl .f32 n2 n2) (h2 : Fl .f32 e2 e2) (v0 : validC n0 e0 = true) (v1 : validC n1 e1 = true) (v2 : validC n2 e2 = true) (w : World) : Calls Try.prog 30 #[pl n0 e0, pl n1 e1, pl n2 e2] w (RS (flT2 (sideC (wxC n0 e0) (wyC n0 e0) (sineC n0) (wxC n1 e1) (wyC n1 e1) (sineC n1) (wxC n2 e2) (wyC n2 e2) (sineC n2)) true) w) := by
  obtain ⟨tn0, te0⟩ := turns_of v0
  obtain ⟨tn1, te1⟩ := turns_of v1
  obtain ⟨tn2, te2⟩ := turns_of v2
  have wb0 := Wb.way tn0 te0
  have wb1 := Wb.way tn1 te1
  have wb2 := Wb.way tn2 te2
  have hs := Sid.of wb0 wb1 wb2
  have hp := And.intro hs.fs hs.s.fin
  have KV := l02Two_any f0 h0 f1 h1
  rw [v0, v1] at KV
  have V := Hb.mk KV
  have HV2 := Hb.mk v2
  have K := Hb.mk (l02Side_any f0 h0 f1 h1 f2 h2 tn0 te0 tn1 te1 tn2 te2)
  have KN := Hb.mk (l02Number_yes hp.1 hp.2)
  have nG := Hb.mk (fin_notN hp.2)
  clear KV v0 v1 v2 tn0 te0 tn1 te1 tn2 te2 wb0 wb1 wb2
  generalize sideC (wxC n0 e0) (wyC n0 e0) (sineC n0) (wxC n1 e1) (wyC n1 e1) (sineC n1) (wxC n2 e2) (wyC n2 e2) (sineC n2) = G at *
  have B0 := Hb.mk (Below.refl w.heap.size w)
  go_enter Try.func30, Try.ntmps30
  go_wp2_with (first
    | (go_at_call 45; refine (V.out _).mono ?_; rintro ex w1 ⟨rfl, b1⟩; have B1 := Hb.mk (Below.on (B := w.heap.size) (a := w) (by repeat (first | exact B0.out | refine Below.drews ?_ | refine Below.drew ?_ | refine Below.alloc ?_ (by have hq_ := B0.out.size; first | omega | (simp <;> omega)) _ | refine Below.setCell ?_ (by have hq_ := B0.out.size; first | omega | (simp <;> omega)) _)) b1 (by have hq_ := B0.out.size; first | omega | (simp <;> omega))); have p0 := Hb.mk (At.keep b1 (p := ⟨w.heap.size, 0, none⟩) (v := .float .f32 n0) (by simp [go_sem]) (by simp [go_sem])); obtain ⟨p0c, p0z, p0l⟩ := p0.out; have p1 := Hb.mk (At.keep b1 (p := ⟨w.heap.size, 1, none⟩) (v := .float .f32 e0) (by simp [go_sem]) (by simp [go_sem])); obtain ⟨p1c, p1z, p1l⟩ := p1.out; have q0 := Hb.mk (At.keep b1 (p := ⟨w.heap.size + 1, 0, none⟩) (v := .float .f32 n1) (by simp [go_sem]) (by simp [go_sem])); obtain ⟨q0c, q0z, q0l⟩ := q0.out; have q1 := Hb.mk (At.keep b1 (p := ⟨w.heap.size + 1, 1, none⟩) (v := .float .f32 e1) (by simp [go_sem]) (by simp [go_sem])); obtain ⟨q1c, q1z, q1l⟩ := q1.out; have r0 := Hb.mk (At.keep b1 (p := ⟨w.heap.size + 2, 0, none⟩) (v := .float .f32 n2) (by simp [go_sem]) (by simp [go_sem])); obtain ⟨r0c, r0z, r0l⟩ := r0.out; have r1 := Hb.mk (At.keep b1 (p := ⟨w.heap.size + 2, 1, none⟩) (v := .float .f32 e2) (by simp [go_sem]) (by simp [go_sem])); obtain ⟨r1c, r1z, r1l⟩ := r1.out; clear b1)
    | (go_at_call 55; refine (l02Is_any f2 h2 _ (by first | exact r0c | simp [go_sem, r0c]) (by first | exact r1c | simp [go_sem, r1c])).mono ?_; rw [HV2.out]; rintro ex w' ⟨rfl, nn, rfl⟩)
    | (go_at_call 67; refine (K.out _).mono ?_; rintro ex w2 ⟨rfl, b2⟩; have E2 := Hb.mk b2; clear b2)
    | (go_at_call 46; refine (KN.out _).mono ?_; rintro ex w3 ⟨r3, n3, rfl, hr3, rfl⟩; obtain rfl := (hr3.word nG.out).symm))
  have y1 := B1.out.size
  go_ret2
  exact ⟨rfl, (by repeat (first | exact Below.refl _ _ | refine Below.on ?_ E2.out (by first | omega | (simp <;> omega)) | exact B1.out | refine Below.drews ?_ | refine Below.drew ?_ | refine Below.alloc ?_ (by first | omega | (simp <;> omega)) _ | refine Below.setCell ?_ (by first | omega | (simp <;> omega)) _))⟩
theorem sSideOf_no1 {n0 e0 n1 e1 n2 e2 a b c d p q : Nat} (f0 : Fl .f32 n0 a) (h0 : Fl .f32 e0 b) (f1 : Fl .f32 n1 c) (h1 : Fl .f32 e1 d) (_f2 : Fl .f32 n2 p) (_h2 : Fl .f32 e2 q) (v : (validC n0 e0 && validC n1 e1) = false) (w : World) : Calls Try.prog 30 #[pl a b, pl c d, pl p q] w (RS (flT2 0 false) w) := by
  have KV := l02Two_any f0 h0 f1 h1
  rw [v] at KV
  have V := Hb.mk KV
  clear KV v
  have B0 := Hb.mk (Below.refl w.heap.size w)
  go_enter Try.func30, Try.ntmps30
  go_wp2_with (first
    | (go_at_call 45; refine (V.out _).mono ?_; rintro ex w1 ⟨rfl, b1⟩; have B1 := Hb.mk (Below.on (B := w.heap.size) (a := w) (by repeat (first | exact B0.out | refine Below.drews ?_ | refine Below.drew ?_ | refine Below.alloc ?_ (by have hq_ := B0.out.size; first | omega | (simp <;> omega)) _ | refine Below.setCell ?_ (by have hq_ := B0.out.size; first | omega | (simp <;> omega)) _)) b1 (by have hq_ := B0.out.size; first | omega | (simp <;> omega))); clear b1))
  go_ret2
  exact ⟨rfl, (by repeat (first | exact Below.refl _ _ | exact B1.out | refine Below.drews ?_ | refine Below.drew ?_ | refine Below.alloc ?_ (by first | omega | (simp <;> omega)) _ | refine Below.setCell ?_ (by first | omega | (simp <;> omega)) _))⟩
theorem sSideOf_no2 {n0 e0 n1 e1 n2 e2 a b c d p q : Nat} (f0 : Fl .f32 n0 a) (h0 : Fl .f32 e0 b) (f1 : Fl .f32 n1 c) (h1 : Fl .f32 e1 d) (f2 : Fl .f32 n2 p) (h2 : Fl .f32 e2 q) (v : (validC n0 e0 && validC n1 e1) = true) (v2 : validC n2 e2 = false) (w : World) : Calls Try.prog 30 #[pl a b, pl c d, pl p q] w (RS (flT2 0 false) w) := by
  have KV := l02Two_any f0 h0 f1 h1
  rw [v] at KV
  have V := Hb.mk KV
  have HV2 := Hb.mk v2
  clear KV v v2
  have B0 := Hb.mk (Below.refl w.heap.size w)
  go_enter Try.func30, Try.ntmps30
  go_wp2_with (first
    | (go_at_call 45; refine (V.out _).mono ?_; rintro ex w1 ⟨rfl, b1⟩; have B1 := Hb.mk (Below.on (B := w.heap.size) (a := w) (by repeat (first | exact B0.out | refine Below.drews ?_ | refine Below.drew ?_ | refine Below.alloc ?_ (by have hq_ := B0.out.size; first | omega | (simp <;> omega)) _ | refine Below.setCell ?_ (by have hq_ := B0.out.size; first | omega | (simp <;> omega)) _)) b1 (by have hq_ := B0.out.size; first | omega | (simp <;> omega))); have r0 := Hb.mk (At.keep b1 (p := ⟨w.heap.size + 2, 0, none⟩) (v := .float .f32 p) (by simp [go_sem]) (by simp [go_sem])); obtain ⟨r0c, r0z, r0l⟩ := r0.out; have r1 := Hb.mk (At.keep b1 (p := ⟨w.heap.size + 2, 1, none⟩) (v := .float .f32 q) (by simp [go_sem]) (by simp [go_sem])); obtain ⟨r1c, r1z, r1l⟩ := r1.out; clear b1)
    | (go_at_call 55; refine (l02Is_any f2 h2 _ (by first | exact r0c | simp [go_sem, r0c]) (by first | exact r1c | simp [go_sem, r1c])).mono ?_; rw [HV2.out]; rintro ex w' ⟨rfl, nn, rfl⟩))
  go_ret2
  exact ⟨rfl, (by repeat (first | exact Below.refl _ _ | exact B1.out | refine Below.drews ?_ | refine Below.drew ?_ | refine Below.alloc ?_ (by first | omega | (simp <;> omega)) _ | refine Below.setCell ?_ (by first | omega | (simp <;> omega)) _))⟩
theorem pair_SideOf {a0 b0 a1 b1 a2 b2 : Nat} (wa0 : (Lit.float .f32 a0).wf = true) (wb0 : (Lit.float .f32 b0).wf = true) (wa1 : (Lit.float .f32 a1).wf = true) (wb1 : (Lit.float .f32 b1).wf = true) (wa2 : (Lit.float .f32 a2).wf = true) (wb2 : (Lit.float .f32 b2).wf = true) :
    ∃ V ok, Hb (∀ w, Calls Try.prog 30 #[pl a0 b0, pl a1 b1, pl a2 b2] w (RS (flT2 V ok) w)) ∧ Hb (∀ w, Calls Try.prog 31 #[pl a0 b0, pl a1 b1, pl a2 b2] w (RS (flT2 V ok) w)) ∧ Fl .f32 V V := by
  have f0 := Fl.own wa0
  have h0 := Fl.own wb0
  have f1 := Fl.own wa1
  have h1 := Fl.own wb1
  have f2 := Fl.own wa2
  have h2 := Fl.own wb2
  cases v0 : validC (nrm .f32 a0) (nrm .f32 b0)
  · exact ⟨_, _, ⟨sSideOf_no1 f0 h0 f1 h1 f2 h2 (by rw [v0]; rfl)⟩, ⟨iSideOf_no0 f0 h0 v0⟩, fl0⟩
  · obtain ⟨tn0, te0⟩ := turns_of v0
    have xn0 := tn0.word f0
    have xe0 := te0.word h0
    rw [← xn0] at f0 v0 tn0
    rw [← xe0] at h0 v0 te0
    cases v1 : validC (nrm .f32 a1) (nrm .f32 b1)
    · exact ⟨_, _, ⟨sSideOf_no1 f0 h0 f1 h1 f2 h2 (by rw [v0, v1]; rfl)⟩, ⟨iSideOf_no1 f0 h0 f1 h1 v0 v1⟩, fl0⟩
    · obtain ⟨tn1, te1⟩ := turns_of v1
      have xn1 := tn1.word f1
      have xe1 := te1.word h1
      rw [← xn1] at f1 v1 tn1
      rw [← xe1] at h1 v1 te1
      cases v2 : validC (nrm .f32 a2) (nrm .f32 b2)
      · exact ⟨_, _, ⟨sSideOf_no2 f0 h0 f1 h1 f2 h2 (by rw [v0, v1]; rfl) v2⟩, ⟨iSideOf_no2 f0 h0 f1 h1 f2 h2 v0 v1 v2⟩, fl0⟩
      · obtain ⟨tn2, te2⟩ := turns_of v2
        have xn2 := tn2.word f2
        have xe2 := te2.word h2
        rw [← xn2] at f2 v2 tn2
        rw [← xe2] at h2 v2 te2
        exact ⟨_, _, ⟨sSideOf_yes f0 h0 f1 h1 f2 h2 v0 v1 v2⟩, ⟨iSideOf_yes f0 h0 f1 h1 f2 h2 v0 v1 v2⟩, (Sid.of (Wb.way tn0 te0) (Wb.way tn1 te1) (Wb.way tn2 te2)).fs⟩
set_option maxHeartbeats 2000000 in
theorem law_SideOf {a0 b0 a1 b1 a2 b2 : Nat} (wa0 : (Lit.float .f32 a0).wf = true) (wb0 : (Lit.float .f32 b0).wf = true) (wa1 : (Lit.float .f32 a1).wf = true) (wb1 : (Lit.float .f32 b1).wf = true) (wa2 : (Lit.float .f32 a2).wf = true) (wb2 : (Lit.float .f32 b2).wf = true) (w : World) : Calls Try.prog 9 #[pl a0 b0, pl a1 b1, pl a2 b2] w (RS (.bool true) w) := by
  obtain ⟨V, ok, KS, KG, hf⟩ := pair_SideOf wa0 wb0 wa1 wb1 wa2 wb2
  have B0 := Hb.mk (Below.refl w.heap.size w)
  cases ok
  all_goals
    go_enter Try.func9, Try.ntmps9
    go_wp2
    refine region_all (by kernel_rfl) (by kernel_rfl) (fun I1 F1 hne1 HB1 hcl => ?_)
    have p1_0_0 := keepF HB1 (p := ⟨w.heap.size, 0, none⟩) (v := .float .f32 a0) (by first | simp | simp [go_sem])
    have p1_0_1 := keepF HB1 (p := ⟨w.heap.size, 1, none⟩) (v := .float .f32 b0) (by first | simp | simp [go_sem])
    have p1_1_0 := keepF HB1 (p := ⟨w.heap.size + 1, 0, none⟩) (v := .float .f32 a1) (by first | simp | simp [go_sem])
    have p1_1_1 := keepF HB1 (p := ⟨w.heap.size + 1, 1, none⟩) (v := .float .f32 b1) (by first | simp | simp [go_sem])
    have p1_2_0 := keepF HB1 (p := ⟨w.heap.size + 2, 0, none⟩) (v := .float .f32 a2) (by first | simp | simp [go_sem])
    have p1_2_1 := keepF HB1 (p := ⟨w.heap.size + 2, 1, none⟩) (v := .float .f32 b2) (by first | simp | simp [go_sem])
    repeat (quiet_step (first | (go_at_call 16; exact callS hcl (toPlace_any _ _ _)) | (go_at_call 30; exact callS hcl (KS.out _)) | (go_at_call 31; exact callS hcl (KG.out _))))
    refine wpQuiet_nil ?_
    intro _ hw'
    obtain ⟨i1, rfl⟩ := hw'
    clear hcl
    go_wp2
    refine region_all (by kernel_rfl) (by kernel_rfl) (fun I2 F2 hne2 HB2 hcl => ?_)
    have p2_0_0 := keepF HB2 (p := ⟨w.heap.size, 0, none⟩) (v := .float .f32 a0) (p1_0_0 i1)
    have p2_0_1 := keepF HB2 (p := ⟨w.heap.size, 1, none⟩) (v := .float .f32 b0) (p1_0_1 i1)
    have p2_1_0 := keepF HB2 (p := ⟨w.heap.size + 1, 0, none⟩) (v := .float .f32 a1) (p1_1_0 i1)
    have p2_1_1 := keepF HB2 (p := ⟨w.heap.size + 1, 1, none⟩) (v := .float .f32 b1) (p1_1_1 i1)
    have p2_2_0 := keepF HB2 (p := ⟨w.heap.size + 2, 0, none⟩) (v := .float .f32 a2) (p1_2_0 i1)
    have p2_2_1 := keepF HB2 (p := ⟨w.heap.size + 2, 1, none⟩) (v := .float .f32 b2) (p1_2_1 i1)
    repeat (quiet_step (first | (go_at_call 16; exact callS hcl (toPlace_any _ _ _)) | (go_at_call 30; exact callS hcl (KS.out _)) | (go_at_call 31; exact callS hcl (KG.out _))))
    refine wpQuiet_nil ?_
    intro _ hw'
    obtain ⟨i2, rfl⟩ := hw'
    clear hcl
    go_wp2_with (first | (refine wpList_fcv rfl rfl rfl (by kernel_rfl) Try.underlying30 (by decide) (by first | (with_reducible assumption) | (with_reducible exact Fl.ofInt _ _) | exact Fl.not (by decide +kernel) (by decide +kernel)) (fits_wide _) ?_; intro r n hr; simp only [Act.put, List.setIfInBounds_toArray, List.set_cons_succ, List.set_cons_zero]) | (go_at_call 18; refine (sameFloat_any (by assumption) (by assumption) _).mono ?_; rintro e w' ⟨rfl, n, rfl⟩))
    go_ret
    refine ⟨rfl, ?_⟩
    have E1 := HB1.out i1
    have E2 := HB2.out i2
    exact Below.drews (Below.on (Below.on (by repeat (first | exact Below.refl _ _ | with_reducible assumption | refine Below.drews ?_ | refine Below.drew ?_ | refine Below.alloc ?_ (by simp <;> omega) _ | refine Below.setCell ?_ (by simp <;> omega) _)) E1 (by simp <;> omega)) E2 (by have := E1.size; simp at this; omega))
end Go.Proofs.Ytbpfheefhdlglab
