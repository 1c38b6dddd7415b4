/-
  On which side of a line a place is, and the area of a triangle, of the program and of its model; the exact laws SideOf and AreaOfTriangle. No condition.
-/
import Derived.Test.YtfmhbmehidlhiaaApt
namespace Go.Proofs.Ytfmhbmehidlhiaa
open Go Go.RowKit
set_option maxRecDepth 100000

theorem Wb.widen {x y z b d : Nat} (h : Wb x y z b) (hd : rung .f32 b ≤ rung .f32 d) (hf : fin .f32 d = true) : Wb x y z d := ⟨h.ax.mono hd hf, h.ay.mono hd hf, h.az.mono hd hf, h.fx, h.fy, h.fz⟩
def sideC (a b c x y z p q r : Nat) : Nat := dotC (crX a b c x y z) (crY a b c x y z) (crZ a b c x y z) p q r
structure Sid (a b c x y z p q r : Nat) : Prop where
  cr : Wb (crX a b c x y z) (crY a b c x y z) (crZ a b c x y z) 1107296256
  s : Ab .f32 (sideC a b c x y z p q r) 1140850688
  fs : Fl .f32 (sideC a b c x y z p q r) (sideC a b c x y z p q r)
theorem Sid.of {a b c x y z p q r : Nat} (h : Wb a b c 1082130432) (g : Wb x y z 1082130432) (k : Wb p q r 1082130432) : Sid a b c x y z p q r := by
  have hc := h.cross (m := 1098907648) (s := 1107296256) g (by decide +kernel) (by decide +kernel) (by decide +kernel) (by decide +kernel)
  have hs : Ab .f32 (sideC a b c x y z p q r) 1140850688 := hc.dot (m := 1124073472) (s := 1132462080) (t := 1140850688) k (by decide +kernel) (by decide +kernel) (by decide +kernel) (by decide +kernel) (by decide +kernel) (by decide +kernel)
  exact ⟨hc, hs, fop_fl (op := .add) hs.fin⟩
set_option maxHeartbeats 2000000 in
theorem l02Side_any {n0 e0 n1 e1 n2 e2 : Nat} (f0 : Fl .f32 n0 n0) (h0 : Fl .f32 e0 e0) (f1 : Fl .f32 n1 n1) (h1 : Fl .f32 e1 e1) (f2 : Fl .f32 n2 n2) (h2 : Fl .f32 e2 e2) (tn0 : Turn n0) (te0 : Turn e0) (tn1 : Turn n1) (te1 : Turn e1) (tn2 : Turn n2) (te2 : Turn e2) (w : World) : Calls Try.prog 77 #[pl n0 e0, pl n1 e1, pl n2 e2] w (RS (.float .f32 (sideC (wxC n0 e0) (wyC n0 e0) (sineC n0) (wxC n1 e1) (wyC n1 e1) (sineC n1) (wxC n2 e2) (wyC n2 e2) (sineC n2))) w) := by
  have KW0 := Hb.mk (l02Way_any f0 h0 tn0 te0)
  have wb0 := Wb.way tn0 te0
  have KW1 := Hb.mk (l02Way_any f1 h1 tn1 te1)
  have wb1 := Wb.way tn1 te1
  have KW2 := Hb.mk (l02Way_any f2 h2 tn2 te2)
  have wb2 := Wb.way tn2 te2
  have hs := Sid.of wb0 wb1 wb2
  have KC := Hb.mk (fun w => exactW (l02Cross_any wb0.fx wb0.fy wb0.fz wb1.fx wb1.fy wb1.fz w) hs.cr.ax.fin hs.cr.ay.fin hs.cr.az.fin)
  have KD := Hb.mk (fun w => exactB (c := sideC (wxC n0 e0) (wyC n0 e0) (sineC n0) (wxC n1 e1) (wyC n1 e1) (sineC n1) (wxC n2 e2) (wyC n2 e2) (sineC n2)) (l02Dot_any hs.cr.fx hs.cr.fy hs.cr.fz wb2.fx wb2.fy wb2.fz w) hs.s.fin)
  clear hs
  clear tn0 te0 tn1 te1 tn2 te2 wb0 wb1 wb2
  generalize sideC (wxC n0 e0) (wyC n0 e0) (sineC n0) (wxC n1 e1) (wyC n1 e1) (sineC n1) (wxC n2 e2) (wyC n2 e2) (sineC n2) = V at *
  generalize crX (wxC n0 e0) (wyC n0 e0) (sineC n0) (wxC n1 e1) (wyC n1 e1) (sineC n1) = X at *
  generalize crY (wxC n0 e0) (wyC n0 e0) (sineC n0) (wxC n1 e1) (wyC n1 e1) (sineC n1) = Y at *
  generalize crZ (wxC n0 e0) (wyC n0 e0) (sineC n0) (wxC n1 e1) (wyC n1 e1) (sineC n1) = Z at *
  generalize wxC n0 e0 = a at *
  generalize wyC n0 e0 = b at *
  generalize sineC n0 = c at *
  generalize wxC n1 e1 = x at *
  generalize wyC n1 e1 = y at *
  generalize sineC n1 = z at *
  generalize wxC n2 e2 = p at *
  generalize wyC n2 e2 = q at *
  generalize sineC n2 = r at *
  go_enter Try.func77, Try.ntmps77
  go_wp2
  refine region_all (by kernel_rfl) (by kernel_rfl) (fun I F hne HB hcl => ?_)
  have p00 := keepF HB (p := ⟨w.heap.size, 0, none⟩) (v := .float .f32 n0) (by simp [go_sem])
  have p01 := keepF HB (p := ⟨w.heap.size, 1, none⟩) (v := .float .f32 e0) (by simp [go_sem])
  have p10 := keepF HB (p := ⟨w.heap.size + 1, 0, none⟩) (v := .float .f32 n1) (by simp [go_sem])
  have p11 := keepF HB (p := ⟨w.heap.size + 1, 1, none⟩) (v := .float .f32 e1) (by simp [go_sem])
  have p20 := keepF HB (p := ⟨w.heap.size + 2, 0, none⟩) (v := .float .f32 n2) (by simp [go_sem])
  have p21 := keepF HB (p := ⟨w.heap.size + 2, 1, none⟩) (v := .float .f32 e2) (by simp [go_sem])
  repeat (quiet_step (first | (go_at_call_of 40 (Value.agg #[Value.float .f32 n0, Value.float .f32 e0]); exact callS hcl (KW0.out _)) | (go_at_call_of 40 (Value.agg #[Value.float .f32 n1, Value.float .f32 e1]); exact callS hcl (KW1.out _)) | (go_at_call_of 40 (Value.agg #[Value.float .f32 n2, Value.float .f32 e2]); exact callS hcl (KW2.out _)) | (go_at_call 39; exact callS hcl (KC.out _)) | (go_at_call 78; exact callS hcl (KD.out _))))
  refine wpQuiet_nil ?_
  intro _ hw'
  obtain ⟨iq, rfl⟩ := hw'
  clear hcl
  have E1 := Hb.mk (HB.out iq)
  go_wp2
  go_ret
  exact ⟨rfl, (by repeat (first | exact Below.refl _ _ | refine Below.on ?_ E1.out (by first | omega | (simp <;> omega)) | refine Below.drews ?_ | refine Below.drew ?_ | refine Below.alloc ?_ (by first | omega | (simp <;> omega)) _ | refine Below.setCell ?_ (by first | omega | (simp <;> omega)) _))⟩
theorem sSideOf_yes {n0 e0 n1 e1 n2 e2 : Nat} (f0 : Fl .f32 n0 n0) (h0 : Fl .f32 e0 e0) (f1 : Fl .f32 n1 n1) (h1 : Fl .f32 e1 e1) (f2 : Fl .f32 n2 n2) (h2 : Fl .f32 e2 e2) (v0 : validC n0 e0 = true) (v1 : validC n1 e1 = true) (v2 : validC n2 e2 = true) (w : World) : Calls Try.prog 37 #[pl n0 e0, pl n1 e1, pl n2 e2] w (RS (flT2 (sideC (wxC n0 e0) (wyC n0 e0) (sineC n0) (wxC n1 e1) (wyC n1 e1) (sineC n1) (wxC n2 e2) (wyC n2 e2) (sineC n2)) true) w) := by
  obtain ⟨tn0, te0⟩ := turns_of v0
  obtain ⟨tn1, te1⟩ := turns_of v1
  obtain ⟨tn2, te2⟩ := turns_of v2
  have wb0 := Wb.way tn0 te0
  have wb1 := Wb.way tn1 te1
  have wb2 := Wb.way tn2 te2
  have hs := Sid.of wb0 wb1 wb2
  have hp := And.intro hs.fs hs.s.fin
  have KV := l02Two_any f0 h0 f1 h1
  rw [v0, v1] at KV
  have V := Hb.mk KV
  have HV2 := Hb.mk v2
  have K := Hb.mk (l02Side_any f0 h0 f1 h1 f2 h2 tn0 te0 tn1 te1 tn2 te2)
  have KN := Hb.mk (l02Number_yes hp.1 hp.2)
  have nG := Hb.mk (fin_notN hp.2)
  clear KV v0 v1 v2 tn0 te0 tn1 te1 tn2 te2 wb0 wb1 wb2
  generalize sideC (wxC n0 e0) (wyC n0 e0) (sineC n0) (wxC n1 e1) (wyC n1 e1) (sineC n1) (wxC n2 e2) (wyC n2 e2) (sineC n2) = G at *
  have B0 := Hb.mk (Below.refl w.heap.size w)
  go_enter Try.func37, Try.ntmps37
  go_wp2_with (first
    | (go_at_call 74; refine (V.out _).mono ?_; rintro ex w1 ⟨rfl, b1⟩; have B1 := Hb.mk (Below.on (B := w.heap.size) (a := w) (by repeat (first | exact B0.out | refine Below.drews ?_ | refine Below.drew ?_ | refine Below.alloc ?_ (by have hq_ := B0.out.size; first | omega | (simp <;> omega)) _ | refine Below.setCell ?_ (by have hq_ := B0.out.size; first | omega | (simp <;> omega)) _)) b1 (by have hq_ := B0.out.size; first | omega | (simp <;> omega))); have p0 := Hb.mk (At.keep b1 (p := ⟨w.heap.size, 0, none⟩) (v := .float .f32 n0) (by simp [go_sem]) (by simp [go_sem])); obtain ⟨p0c, p0z, p0l⟩ := p0.out; have p1 := Hb.mk (At.keep b1 (p := ⟨w.heap.size, 1, none⟩) (v := .float .f32 e0) (by simp [go_sem]) (by simp [go_sem])); obtain ⟨p1c, p1z, p1l⟩ := p1.out; have q0 := Hb.mk (At.keep b1 (p := ⟨w.heap.size + 1, 0, none⟩) (v := .float .f32 n1) (by simp [go_sem]) (by simp [go_sem])); obtain ⟨q0c, q0z, q0l⟩ := q0.out; have q1 := Hb.mk (At.keep b1 (p := ⟨w.heap.size + 1, 1, none⟩) (v := .float .f32 e1) (by simp [go_sem]) (by simp [go_sem])); obtain ⟨q1c, q1z, q1l⟩ := q1.out; have r0 := Hb.mk (At.keep b1 (p := ⟨w.heap.size + 2, 0, none⟩) (v := .float .f32 n2) (by simp [go_sem]) (by simp [go_sem])); obtain ⟨r0c, r0z, r0l⟩ := r0.out; have r1 := Hb.mk (At.keep b1 (p := ⟨w.heap.size + 2, 1, none⟩) (v := .float .f32 e2) (by simp [go_sem]) (by simp [go_sem])); obtain ⟨r1c, r1z, r1l⟩ := r1.out; clear b1)
    | (go_at_call 27; refine (l02Is_any f2 h2 _ (by first | exact r0c | simp [go_sem, r0c]) (by first | exact r1c | simp [go_sem, r1c])).mono ?_; rw [HV2.out]; rintro ex w' ⟨rfl, nn, rfl⟩)
    | (go_at_call 77; refine (K.out _).mono ?_; rintro ex w2 ⟨rfl, b2⟩; have E2 := Hb.mk b2; clear b2)
    | (go_at_call 42; refine (KN.out _).mono ?_; rintro ex w3 ⟨r3, n3, rfl, hr3, rfl⟩; obtain rfl := (hr3.word nG.out).symm))
  have y1 := B1.out.size
  go_ret2
  exact ⟨rfl, (by repeat (first | exact Below.refl _ _ | refine Below.on ?_ E2.out (by first | omega | (simp <;> omega)) | exact B1.out | refine Below.drews ?_ | refine Below.drew ?_ | refine Below.alloc ?_ (by first | omega | (simp <;> omega)) _ | refine Below.setCell ?_ (by first | omega | (simp <;> omega)) _))⟩
theorem sSideOf_no1 {n0 e0 n1 e1 n2 e2 a b c d p q : Nat} (f0 : Fl .f32 n0 a) (h0 : Fl .f32 e0 b) (f1 : Fl .f32 n1 c) (h1 : Fl .f32 e1 d) (_f2 : Fl .f32 n2 p) (_h2 : Fl .f32 e2 q) (v : (validC n0 e0 && validC n1 e1) = false) (w : World) : Calls Try.prog 37 #[pl a b, pl c d, pl p q] w (RS (flT2 0 false) w) := by
  have KV := l02Two_any f0 h0 f1 h1
  rw [v] at KV
  have V := Hb.mk KV
  clear KV v
  have B0 := Hb.mk (Below.refl w.heap.size w)
  go_enter Try.func37, Try.ntmps37
  go_wp2_with (first
    | (go_at_call 74; refine (V.out _).mono ?_; rintro ex w1 ⟨rfl, b1⟩; have B1 := Hb.mk (Below.on (B := w.heap.size) (a := w) (by repeat (first | exact B0.out | refine Below.drews ?_ | refine Below.drew ?_ | refine Below.alloc ?_ (by have hq_ := B0.out.size; first | omega | (simp <;> omega)) _ | refine Below.setCell ?_ (by have hq_ := B0.out.size; first | omega | (simp <;> omega)) _)) b1 (by have hq_ := B0.out.size; first | omega | (simp <;> omega))); clear b1))
  go_ret2
  exact ⟨rfl, (by repeat (first | exact Below.refl _ _ | exact B1.out | refine Below.drews ?_ | refine Below.drew ?_ | refine Below.alloc ?_ (by first | omega | (simp <;> omega)) _ | refine Below.setCell ?_ (by first | omega | (simp <;> omega)) _))⟩
theorem sSideOf_no2 {n0 e0 n1 e1 n2 e2 a b c d p q : Nat} (f0 : Fl .f32 n0 a) (h0 : Fl .f32 e0 b) (f1 : Fl .f32 n1 c) (h1 : Fl .f32 e1 d) (f2 : Fl .f32 n2 p) (h2 : Fl .f32 e2 q) (v : (validC n0 e0 && validC n1 e1) = true) (v2 : validC n2 e2 = false) (w : World) : Calls Try.prog 37 #[pl a b, pl c d, pl p q] w (RS (flT2 0 false) w) := by
  have KV := l02Two_any f0 h0 f1 h1
  rw [v] at KV
  have V := Hb.mk KV
  have HV2 := Hb.mk v2
  clear KV v v2
  have B0 := Hb.mk (Below.refl w.heap.size w)
  go_enter Try.func37, Try.ntmps37
  go_wp2_with (first
    | (go_at_call 74; refine (V.out _).mono ?_; rintro ex w1 ⟨rfl, b1⟩; have B1 := Hb.mk (Below.on (B := w.heap.size) (a := w) (by repeat (first | exact B0.out | refine Below.drews ?_ | refine Below.drew ?_ | refine Below.alloc ?_ (by have hq_ := B0.out.size; first | omega | (simp <;> omega)) _ | refine Below.setCell ?_ (by have hq_ := B0.out.size; first | omega | (simp <;> omega)) _)) b1 (by have hq_ := B0.out.size; first | omega | (simp <;> omega))); have r0 := Hb.mk (At.keep b1 (p := ⟨w.heap.size + 2, 0, none⟩) (v := .float .f32 p) (by simp [go_sem]) (by simp [go_sem])); obtain ⟨r0c, r0z, r0l⟩ := r0.out; have r1 := Hb.mk (At.keep b1 (p := ⟨w.heap.size + 2, 1, none⟩) (v := .float .f32 q) (by simp [go_sem]) (by simp [go_sem])); obtain ⟨r1c, r1z, r1l⟩ := r1.out; clear b1)
    | (go_at_call 27; refine (l02Is_any f2 h2 _ (by first | exact r0c | simp [go_sem, r0c]) (by first | exact r1c | simp [go_sem, r1c])).mono ?_; rw [HV2.out]; rintro ex w' ⟨rfl, nn, rfl⟩))
  go_ret2
  exact ⟨rfl, (by repeat (first | exact Below.refl _ _ | exact B1.out | refine Below.drews ?_ | refine Below.drew ?_ | refine Below.alloc ?_ (by first | omega | (simp <;> omega)) _ | refine Below.setCell ?_ (by first | omega | (simp <;> omega)) _))⟩
end Go.Proofs.Ytfmhbmehidlhiaa
