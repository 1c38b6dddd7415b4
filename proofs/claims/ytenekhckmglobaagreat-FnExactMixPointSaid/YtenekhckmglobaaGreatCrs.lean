/-
  The course between valid places, of the program and of its model; the exact law CourseTo. No condition.
-/
import Derived.Test.YtenekhckmglobaaGreatWay
namespace Go.Proofs.YtenekhckmglobaaGreat
open Go Go.RowKit
set_option maxRecDepth 100000

abbrev flT2 (c : Nat) (b : Bool) : Value := .tuple #[.float .f32 c, .bool b]
def aboveC (c : Nat) : Nat := if fcmp .lss .f32 c 0 = true then fop .add .f32 c 1065353216 else c
theorem above_yes {c : Nat} (h : fcmp .lss .f32 c 0 = true) : aboveC c = fop .add .f32 c 1065353216 := by unfold aboveC; rw [if_pos h]
theorem above_no {c : Nat} (h : fcmp .lss .f32 c 0 = false) : aboveC c = c := by unfold aboveC; rw [if_neg (by rw [h]; decide)]
theorem above_ab {c : Nat} (h : Ab .f32 c 1056964608) : Ab .f32 (aboveC c) 1073741824 := by
  unfold aboveC; split
  · exact add_ab h (ab_self (c := 1065353216) (by decide +kernel)) (by decide +kernel) (by decide +kernel)
  · exact h.mono (by decide +kernel) (by decide +kernel)
theorem compassOf_any {cy cx y x : Nat} (hy : Fl .f32 cy y) (hx : Fl .f32 cx x) (w : World) : Calls Tryz.prog 167 #[.float .f32 y, .float .f32 x] w (RF .f32 (aboveC (angleC cy cx)) w) := by
  have KA := Hb.mk (iAngleTurns_any hy hx)
  generalize angleC cy cx = G at *
  cases hg : fcmp .lss .f32 G 0
  · have KV := Hb.mk (above_no hg)
    go_enter Tryz.func167, Tryz.ntmps167
    go_wp2_with (first | (go_at_call 85; refine (KA.out _).mono ?_; rintro e w' ⟨r, n, rfl, hr, rfl⟩) | (refine wpList_fcmp rfl rfl rfl rfl rfl (by first | (with_reducible assumption) | (with_reducible exact Fl.ofInt _ _) | exact Fl.not (by decide +kernel) (by decide +kernel)) (by first | (with_reducible assumption) | (with_reducible exact Fl.ofInt _ _) | exact Fl.not (by decide +kernel) (by decide +kernel)) ?_; simp only [Act.put, List.setIfInBounds_toArray, List.set_cons_succ, List.set_cons_zero, hg]) | (refine wpList_fop rfl rfl rfl rfl rfl (by first | (with_reducible assumption) | (with_reducible exact Fl.ofInt _ _) | exact Fl.not (by decide +kernel) (by decide +kernel)) (by first | (with_reducible assumption) | (with_reducible exact Fl.ofInt _ _) | exact Fl.not (by decide +kernel) (by decide +kernel)) ?_; intro r n hr; simp only [Act.put, List.setIfInBounds_toArray, List.set_cons_succ, List.set_cons_zero]))
    go_ret
    rw [KV.out]
    exact RF.any hr (by repeat (first | exact Drew.refl _ | refine Drew.more ?_))
  · have KV := Hb.mk (above_yes hg)
    go_enter Tryz.func167, Tryz.ntmps167
    go_wp2_with (first | (go_at_call 85; refine (KA.out _).mono ?_; rintro e w' ⟨r, n, rfl, hr, rfl⟩) | (refine wpList_fcmp rfl rfl rfl rfl rfl (by first | (with_reducible assumption) | (with_reducible exact Fl.ofInt _ _) | exact Fl.not (by decide +kernel) (by decide +kernel)) (by first | (with_reducible assumption) | (with_reducible exact Fl.ofInt _ _) | exact Fl.not (by decide +kernel) (by decide +kernel)) ?_; simp only [Act.put, List.setIfInBounds_toArray, List.set_cons_succ, List.set_cons_zero, hg]) | (refine wpList_fop rfl rfl rfl rfl rfl (by first | (with_reducible assumption) | (with_reducible exact Fl.ofInt _ _) | exact Fl.not (by decide +kernel) (by decide +kernel)) (by first | (with_reducible assumption) | (with_reducible exact Fl.ofInt _ _) | exact Fl.not (by decide +kernel) (by decide +kernel)) ?_; intro r n hr; simp only [Act.put, List.setIfInBounds_toArray, List.set_cons_succ, List.set_cons_zero]))
    go_ret
    rw [KV.out]
    exact RF.any hr (by repeat (first | exact Drew.refl _ | refine Drew.more ?_))
theorem l02Above0_any {c x : Nat} (hx : Fl .f32 c x) (w : World) : Calls Tryz.prog 102 #[.float .f32 x] w (RF .f32 (aboveC c) w) := by
  cases hg : fcmp .lss .f32 c 0
  · have KV := Hb.mk (above_no hg)
    go_enter Tryz.func102, Tryz.ntmps102
    go_wp2_with (first | (refine wpList_fcmp rfl rfl rfl rfl rfl (by first | (with_reducible assumption) | (with_reducible exact Fl.ofInt _ _) | exact Fl.not (by decide +kernel) (by decide +kernel)) (by first | (with_reducible assumption) | (with_reducible exact Fl.ofInt _ _) | exact Fl.not (by decide +kernel) (by decide +kernel)) ?_; simp only [Act.put, List.setIfInBounds_toArray, List.set_cons_succ, List.set_cons_zero, hg]) | (refine wpList_fop rfl rfl rfl rfl rfl (by first | (with_reducible assumption) | (with_reducible exact Fl.ofInt _ _) | exact Fl.not (by decide +kernel) (by decide +kernel)) (by first | (with_reducible assumption) | (with_reducible exact Fl.ofInt _ _) | exact Fl.not (by decide +kernel) (by decide +kernel)) ?_; intro r n hr; simp only [Act.put, List.setIfInBounds_toArray, List.set_cons_succ, List.set_cons_zero]))
    go_ret
    rw [KV.out]
    exact RF.any hx (by repeat (first | exact Drew.refl _ | refine Drew.more ?_))
  · have KV := Hb.mk (above_yes hg)
    go_enter Tryz.func102, Tryz.ntmps102
    go_wp2_with (first | (refine wpList_fcmp rfl rfl rfl rfl rfl (by first | (with_reducible assumption) | (with_reducible exact Fl.ofInt _ _) | exact Fl.not (by decide +kernel) (by decide +kernel)) (by first | (with_reducible assumption) | (with_reducible exact Fl.ofInt _ _) | exact Fl.not (by decide +kernel) (by decide +kernel)) ?_; simp only [Act.put, List.setIfInBounds_toArray, List.set_cons_succ, List.set_cons_zero, hg]) | (refine wpList_fop rfl rfl rfl rfl rfl (by first | (with_reducible assumption) | (with_reducible exact Fl.ofInt _ _) | exact Fl.not (by decide +kernel) (by decide +kernel)) (by first | (with_reducible assumption) | (with_reducible exact Fl.ofInt _ _) | exact Fl.not (by decide +kernel) (by decide +kernel)) ?_; intro r n hr; simp only [Act.put, List.setIfInBounds_toArray, List.set_cons_succ, List.set_cons_zero]))
    go_ret
    rw [KV.out]
    exact RF.any hr (by repeat (first | exact Drew.refl _ | refine Drew.more ?_))
def crsE (e1 e2 : Nat) : Nat := fop .sub .f32 e2 e1
def crsY (e1 n2 e2 : Nat) : Nat := fop .mul .f32 (sineC (crsE e1 e2)) (cosC n2)
def crsU (n1 n2 : Nat) : Nat := fop .mul .f32 (cosC n1) (sineC n2)
def crsV (n1 n2 : Nat) : Nat := fop .mul .f32 (sineC n1) (cosC n2)
def crsD (n1 e1 n2 e2 : Nat) : Nat := fop .mul .f32 (crsV n1 n2) (cosC (crsE e1 e2))
def crsX (n1 e1 n2 e2 : Nat) : Nat := fop .sub .f32 (crsU n1 n2) (crsD n1 e1 n2 e2)
def crsC (n1 e1 n2 e2 : Nat) : Nat := aboveC (angleC (crsY e1 n2 e2) (crsX n1 e1 n2 e2))
structure Crs (n1 e1 n2 e2 : Nat) : Prop where
  E : Ab .f32 (crsE e1 e2) 1065353216
  sE : Ab .f32 (sineC (crsE e1 e2)) 1073741824
  cE : Ab .f32 (cosC (crsE e1 e2)) 1073741824
  Y : Ab .f32 (crsY e1 n2 e2) 1082130432
  U : Ab .f32 (crsU n1 n2) 1082130432
  V : Ab .f32 (crsV n1 n2) 1082130432
  D : Ab .f32 (crsD n1 e1 n2 e2) 1090519040
  X : Ab .f32 (crsX n1 e1 n2 e2) 1098907648
  C : Ab .f32 (crsC n1 e1 n2 e2) 1073741824
theorem Crs.of {n1 e1 n2 e2 : Nat} (h1 : Turn n1) (h2 : Turn e1) (h3 : Turn n2) (h4 : Turn e2) : Crs n1 e1 n2 e2 := by
  have hE : Ab .f32 (crsE e1 e2) 1065353216 := sub_ab h4.ab h2.ab (by decide +kernel) (by decide +kernel)
  have hs := sine_ab hE.fin
  have hc := cos_ab (hE.mono (c := 1148846080) (by decide +kernel) (by decide +kernel))
  have hY : Ab .f32 (crsY e1 n2 e2) 1082130432 := mul_ab hs h3.cos (by decide +kernel) (by decide +kernel)
  have hU : Ab .f32 (crsU n1 n2) 1082130432 := mul_ab h1.cos h3.sine (by decide +kernel) (by decide +kernel)
  have hV : Ab .f32 (crsV n1 n2) 1082130432 := mul_ab h1.sine h3.cos (by decide +kernel) (by decide +kernel)
  have hD : Ab .f32 (crsD n1 e1 n2 e2) 1090519040 := mul_ab hV hc (by decide +kernel) (by decide +kernel)
  have hX : Ab .f32 (crsX n1 e1 n2 e2) 1098907648 := sub_ab hU hD (by decide +kernel) (by decide +kernel)
  exact ⟨hE, hs, hc, hY, hU, hV, hD, hX, above_ab (angle_ab hY.fin hX.fin).1⟩
theorem wf_sine (c : Nat) : (Lit.float .f32 (sineC c)).wf = true := by
  unfold sineC
  split
  · split
    · decide +kernel
    · exact wf_fcv _
  · decide +kernel
theorem wf_angle (y x : Nat) : (Lit.float .f32 (angleC y x)).wf = true := by
  unfold angleC
  split
  · split
    · decide +kernel
    · exact wf_fcv _
  · decide +kernel
theorem wf_above {c : Nat} (h : (Lit.float .f32 c).wf = true) : (Lit.float .f32 (aboveC c)).wf = true := by
  unfold aboveC; split
  · exact wf_fop _ _ _ _
  · exact h
theorem sine_ok {c : Nat} (h : fin .f32 (sineC c) = true) : Fl .f32 (sineC c) (sineC c) := Fl.not (fin_notN h) (wf_sine c)
set_option maxHeartbeats 2000000 in
theorem iCourseTo_yes {n1 e1 n2 e2 : Nat} (h1 : Fl .f32 n1 n1) (h2 : Fl .f32 e1 e1) (h3 : Fl .f32 n2 n2) (h4 : Fl .f32 e2 e2) (v1 : validC n1 e1 = true) (v2 : validC n2 e2 = true) (w : World) : Calls Tryz.prog 165 #[pl n1 e1, pl n2 e2] w (RS (flT2 (crsC n1 e1 n2 e2) true) w) := by
  obtain ⟨t1, t2⟩ := turns_of v1
  obtain ⟨t3, t4⟩ := turns_of v2
  have KV1 := iValidPlace_any h1 h2
  rw [v1] at KV1
  have KV2 := iValidPlace_any h3 h4
  rw [v2] at KV2
  have V1 := Hb.mk KV1
  have V2 := Hb.mk KV2
  clear KV1 KV2
  have hc := Crs.of t1 t2 t3 t4
  have fE : Fl .f32 (crsE e1 e2) (crsE e1 e2) := fop_fl (op := .sub) (k := .f32) (x := e2) (y := e1) hc.E.fin
  have eE := Hb.mk (show fop .sub .f32 (e2) (e1) = crsE e1 e2 from rfl)
  have kE := Hb.mk (fin_notN hc.E.fin)
  have mE : Hb (∀ w, (binOp .sub 22 (.float .f32 (e2)) (.float .f32 (e1))).run Tryz.prog w = .ok (.float .f32 (crsE e1 e2)) w) := ⟨fop_exact _ hc.E.fin⟩
  have fY : Fl .f32 (crsY e1 n2 e2) (crsY e1 n2 e2) := fop_fl (op := .mul) (k := .f32) (x := sineC (crsE e1 e2)) (y := cosC n2) hc.Y.fin
  have eY := Hb.mk (show fop .mul .f32 (sineC (crsE e1 e2)) (cosC n2) = crsY e1 n2 e2 from rfl)
  have kY := Hb.mk (fin_notN hc.Y.fin)
  have mY : Hb (∀ w, (binOp .mul 22 (.float .f32 (sineC (crsE e1 e2))) (.float .f32 (cosC n2))).run Tryz.prog w = .ok (.float .f32 (crsY e1 n2 e2)) w) := ⟨fop_exact _ hc.Y.fin⟩
  have fU : Fl .f32 (crsU n1 n2) (crsU n1 n2) := fop_fl (op := .mul) (k := .f32) (x := cosC n1) (y := sineC n2) hc.U.fin
  have eU := Hb.mk (show fop .mul .f32 (cosC n1) (sineC n2) = crsU n1 n2 from rfl)
  have kU := Hb.mk (fin_notN hc.U.fin)
  have mU : Hb (∀ w, (binOp .mul 22 (.float .f32 (cosC n1)) (.float .f32 (sineC n2))).run Tryz.prog w = .ok (.float .f32 (crsU n1 n2)) w) := ⟨fop_exact _ hc.U.fin⟩
  have fV : Fl .f32 (crsV n1 n2) (crsV n1 n2) := fop_fl (op := .mul) (k := .f32) (x := sineC n1) (y := cosC n2) hc.V.fin
  have eV := Hb.mk (show fop .mul .f32 (sineC n1) (cosC n2) = crsV n1 n2 from rfl)
  have kV := Hb.mk (fin_notN hc.V.fin)
  have mV : Hb (∀ w, (binOp .mul 22 (.float .f32 (sineC n1)) (.float .f32 (cosC n2))).run Tryz.prog w = .ok (.float .f32 (crsV n1 n2)) w) := ⟨fop_exact _ hc.V.fin⟩
  have fD : Fl .f32 (crsD n1 e1 n2 e2) (crsD n1 e1 n2 e2) := fop_fl (op := .mul) (k := .f32) (x := crsV n1 n2) (y := cosC (crsE e1 e2)) hc.D.fin
  have eD := Hb.mk (show fop .mul .f32 (crsV n1 n2) (cosC (crsE e1 e2)) = crsD n1 e1 n2 e2 from rfl)
  have kD := Hb.mk (fin_notN hc.D.fin)
  have mD : Hb (∀ w, (binOp .mul 22 (.float .f32 (crsV n1 n2)) (.float .f32 (cosC (crsE e1 e2)))).run Tryz.prog w = .ok (.float .f32 (crsD n1 e1 n2 e2)) w) := ⟨fop_exact _ hc.D.fin⟩
  have fX : Fl .f32 (crsX n1 e1 n2 e2) (crsX n1 e1 n2 e2) := fop_fl (op := .sub) (k := .f32) (x := crsU n1 n2) (y := crsD n1 e1 n2 e2) hc.X.fin
  have eX := Hb.mk (show fop .sub .f32 (crsU n1 n2) (crsD n1 e1 n2 e2) = crsX n1 e1 n2 e2 from rfl)
  have kX := Hb.mk (fin_notN hc.X.fin)
  have mX : Hb (∀ w, (binOp .sub 22 (.float .f32 (crsU n1 n2)) (.float .f32 (crsD n1 e1 n2 e2))).run Tryz.prog w = .ok (.float .f32 (crsX n1 e1 n2 e2)) w) := ⟨fop_exact _ hc.X.fin⟩
  have KsE := Hb.mk (fun w => exactF (iSineTurns_any (c := crsE e1 e2) fE w) hc.sE.fin)
  have KcE := Hb.mk (fun w => exactF (cosineTurns_any (c := crsE e1 e2) fE w) hc.cE.fin)
  have Kc2 := Hb.mk (fun w => exactF (cosineTurns_any h3 w) t3.cos.fin)
  have Ks2 := Hb.mk (fun w => exactF (iSineTurns_any h3 w) t3.sine.fin)
  have Kc1 := Hb.mk (fun w => exactF (cosineTurns_any h1 w) t1.cos.fin)
  have Ks1 := Hb.mk (fun w => exactF (iSineTurns_any h1 w) t1.sine.fin)
  have fe1 := h2
  have fe2 := h4
  have fsE := sine_ok hc.sE.fin
  have fcE : Fl .f32 (cosC (crsE e1 e2)) (cosC (crsE e1 e2)) := sine_ok hc.cE.fin
  have fc1 : Fl .f32 (cosC n1) (cosC n1) := sine_ok t1.cos.fin
  have fs1 := sine_ok t1.sine.fin
  have fc2 : Fl .f32 (cosC n2) (cosC n2) := sine_ok t3.cos.fin
  have fs2 := sine_ok t3.sine.fin
  have KG := Hb.mk (fun w => exactF (c := crsC n1 e1 n2 e2) (compassOf_any fY fX w) hc.C.fin)
  clear v1 v2 t1 t2 t3 t4 hc
  generalize crsC n1 e1 n2 e2 = G at *
  generalize crsX n1 e1 n2 e2 = X at *
  generalize crsD n1 e1 n2 e2 = D at *
  generalize crsV n1 n2 = V at *
  generalize crsU n1 n2 = U at *
  generalize crsY e1 n2 e2 = Y at *
  generalize cosC (crsE e1 e2) = cE at *
  generalize sineC (crsE e1 e2) = sE at *
  generalize crsE e1 e2 = E at *
  generalize cosC n1 = c1 at *
  generalize sineC n1 = s1 at *
  generalize cosC n2 = c2 at *
  generalize sineC n2 = s2 at *
  have B0 := Hb.mk (Below.refl w.heap.size w)
  go_enter Tryz.func165, Tryz.ntmps165
  have tk_a : True := trivial; have tk_b : True := trivial
  go_wp2_with (first
    | (go_at_call 26; clear tk_a; refine (V1.out _).mono ?_; rintro ex w1 ⟨rfl, b1⟩; have B1 := Hb.mk (Below.on (B := w.heap.size) (a := w) (by repeat (first | exact B0.out | refine Below.drews ?_ | refine Below.drew ?_ | refine Below.alloc ?_ (by have hq_ := B0.out.size; first | omega | (simp <;> omega)) _ | refine Below.setCell ?_ (by have hq_ := B0.out.size; first | omega | (simp <;> omega)) _)) b1 (by have hq_ := B0.out.size; first | omega | (simp <;> omega))); have p0 := Hb.mk (At.keep b1 (p := ⟨w.heap.size, 0, none⟩) (v := .float .f32 n1) (by simp [go_sem]) (by simp [go_sem])); obtain ⟨p0c, p0z, p0l⟩ := p0.out; have p1 := Hb.mk (At.keep b1 (p := ⟨w.heap.size, 1, none⟩) (v := .float .f32 e1) (by simp [go_sem]) (by simp [go_sem])); obtain ⟨p1c, p1z, p1l⟩ := p1.out; have q0 := Hb.mk (At.keep b1 (p := ⟨w.heap.size + 1, 0, none⟩) (v := .float .f32 n2) (by simp [go_sem]) (by simp [go_sem])); obtain ⟨q0c, q0z, q0l⟩ := q0.out; have q1 := Hb.mk (At.keep b1 (p := ⟨w.heap.size + 1, 1, none⟩) (v := .float .f32 e2) (by simp [go_sem]) (by simp [go_sem])); obtain ⟨q1c, q1z, q1l⟩ := q1.out; clear b1)
    | (go_at_call 26; clear tk_b; refine (V2.out _).mono ?_; rintro ex w2 ⟨rfl, b2⟩; have B2 := Hb.mk (Below.on (B := w.heap.size) (a := w) (by repeat (first | exact B1.out | refine Below.drews ?_ | refine Below.drew ?_ | refine Below.alloc ?_ (by have hq_ := B1.out.size; first | omega | (simp <;> omega)) _ | refine Below.setCell ?_ (by have hq_ := B1.out.size; first | omega | (simp <;> omega)) _)) b2 (by have hq_ := B1.out.size; first | omega | (simp <;> omega))); have p0 := Hb.mk (At.re p0.out b2 (by first | exact p0c | simp [go_sem, p0c, p0l]) (by first | exact p0z | simp [go_sem, p0z, p0l])); obtain ⟨p0c, p0z, p0l⟩ := p0.out; have p1 := Hb.mk (At.re p1.out b2 (by first | exact p1c | simp [go_sem, p1c, p1l]) (by first | exact p1z | simp [go_sem, p1z, p1l])); obtain ⟨p1c, p1z, p1l⟩ := p1.out; have q0 := Hb.mk (At.re q0.out b2 (by first | exact q0c | simp [go_sem, q0c, q0l]) (by first | exact q0z | simp [go_sem, q0z, q0l])); obtain ⟨q0c, q0z, q0l⟩ := q0.out; have q1 := Hb.mk (At.re q1.out b2 (by first | exact q1c | simp [go_sem, q1c, q1l]) (by first | exact q1z | simp [go_sem, q1z, q1l])); obtain ⟨q1c, q1z, q1l⟩ := q1.out; clear b2)
    | (go_at_call_of 104 (Value.float .f32 E); refine (KsE.out _).mono ?_; rintro ee ww ⟨rfl, nn, rfl⟩) | (go_at_call_of 61 (Value.float .f32 E); refine (KcE.out _).mono ?_; rintro ee ww ⟨rfl, nn, rfl⟩) | (go_at_call_of 61 (Value.float .f32 n2); refine (Kc2.out _).mono ?_; rintro ee ww ⟨rfl, nn, rfl⟩) | (go_at_call_of 104 (Value.float .f32 n2); refine (Ks2.out _).mono ?_; rintro ee ww ⟨rfl, nn, rfl⟩) | (go_at_call_of 61 (Value.float .f32 n1); refine (Kc1.out _).mono ?_; rintro ee ww ⟨rfl, nn, rfl⟩) | (go_at_call_of 104 (Value.float .f32 n1); refine (Ks1.out _).mono ?_; rintro ee ww ⟨rfl, nn, rfl⟩) | (refine wpList_fop rfl rfl rfl rfl rfl fe2 fe1 ?_; intro rr nn hr; rw [eE.out] at hr; obtain rfl := (hr.word kE.out).symm; simp only [Act.put, List.setIfInBounds_toArray, List.set_cons_succ, List.set_cons_zero]) | (refine wpList_fop rfl rfl rfl rfl rfl fsE fc2 ?_; intro rr nn hr; rw [eY.out] at hr; obtain rfl := (hr.word kY.out).symm; simp only [Act.put, List.setIfInBounds_toArray, List.set_cons_succ, List.set_cons_zero]) | (refine wpList_fop rfl rfl rfl rfl rfl fc1 fs2 ?_; intro rr nn hr; rw [eU.out] at hr; obtain rfl := (hr.word kU.out).symm; simp only [Act.put, List.setIfInBounds_toArray, List.set_cons_succ, List.set_cons_zero]) | (refine wpList_fop rfl rfl rfl rfl rfl fs1 fc2 ?_; intro rr nn hr; rw [eV.out] at hr; obtain rfl := (hr.word kV.out).symm; simp only [Act.put, List.setIfInBounds_toArray, List.set_cons_succ, List.set_cons_zero]) | (refine wpList_fop rfl rfl rfl rfl rfl fV fcE ?_; intro rr nn hr; rw [eD.out] at hr; obtain rfl := (hr.word kD.out).symm; simp only [Act.put, List.setIfInBounds_toArray, List.set_cons_succ, List.set_cons_zero]) | (refine wpList_fop rfl rfl rfl rfl rfl fU fD ?_; intro rr nn hr; rw [eX.out] at hr; obtain rfl := (hr.word kX.out).symm; simp only [Act.put, List.setIfInBounds_toArray, List.set_cons_succ, List.set_cons_zero]))
  refine region_all (by kernel_rfl) (by kernel_rfl) (fun I1 F1 hne1 HB1 hcl => ?_)
  have p0_1 := keepF HB1 (p := ⟨w.heap.size, 0, none⟩) (v := .float .f32 n1) (by first | exact p0c | simp [go_sem] | simp [go_sem, p0c])
  have q0_1 := keepF HB1 (p := ⟨w.heap.size + 1, 0, none⟩) (v := .float .f32 n2) (by first | exact q0c | simp [go_sem] | simp [go_sem, q0c])
  have gE := mE.out
  have gY := mY.out
  have gU := mU.out
  have gV := mV.out
  have gD := mD.out
  have gX := mX.out
  repeat (quiet_step (first | (go_at_call_of 104 (Value.float .f32 E); exact callD hcl (KsE.out _)) | (go_at_call_of 61 (Value.float .f32 E); exact callD hcl (KcE.out _)) | (go_at_call_of 61 (Value.float .f32 n2); exact callD hcl (Kc2.out _)) | (go_at_call_of 104 (Value.float .f32 n2); exact callD hcl (Ks2.out _)) | (go_at_call_of 61 (Value.float .f32 n1); exact callD hcl (Kc1.out _)) | (go_at_call_of 104 (Value.float .f32 n1); exact callD hcl (Ks1.out _))))
  refine wpQuiet_nil ?_
  intro _ hw'
  obtain ⟨i1, rfl⟩ := hw'
  clear hcl
  clear gE gY gU gV gD gX
  have E1 := Hb.mk (HB1.out i1)
  have x1 := keepF HB1 (p := ⟨w.heap.size, 0, none⟩) (v := .float .f32 n1) (by first | exact p0c | simp [go_sem, p0c]) i1
  go_wp2_with (first | (go_at_call_of 104 (Value.float .f32 E); refine (KsE.out _).mono ?_; rintro ee ww ⟨rfl, nn, rfl⟩) | (go_at_call_of 61 (Value.float .f32 E); refine (KcE.out _).mono ?_; rintro ee ww ⟨rfl, nn, rfl⟩) | (go_at_call_of 61 (Value.float .f32 n2); refine (Kc2.out _).mono ?_; rintro ee ww ⟨rfl, nn, rfl⟩) | (go_at_call_of 104 (Value.float .f32 n2); refine (Ks2.out _).mono ?_; rintro ee ww ⟨rfl, nn, rfl⟩) | (go_at_call_of 61 (Value.float .f32 n1); refine (Kc1.out _).mono ?_; rintro ee ww ⟨rfl, nn, rfl⟩) | (go_at_call_of 104 (Value.float .f32 n1); refine (Ks1.out _).mono ?_; rintro ee ww ⟨rfl, nn, rfl⟩) | (refine wpList_fop rfl rfl rfl rfl rfl fe2 fe1 ?_; intro rr nn hr; rw [eE.out] at hr; obtain rfl := (hr.word kE.out).symm; simp only [Act.put, List.setIfInBounds_toArray, List.set_cons_succ, List.set_cons_zero]) | (refine wpList_fop rfl rfl rfl rfl rfl fsE fc2 ?_; intro rr nn hr; rw [eY.out] at hr; obtain rfl := (hr.word kY.out).symm; simp only [Act.put, List.setIfInBounds_toArray, List.set_cons_succ, List.set_cons_zero]) | (refine wpList_fop rfl rfl rfl rfl rfl fc1 fs2 ?_; intro rr nn hr; rw [eU.out] at hr; obtain rfl := (hr.word kU.out).symm; simp only [Act.put, List.setIfInBounds_toArray, List.set_cons_succ, List.set_cons_zero]) | (refine wpList_fop rfl rfl rfl rfl rfl fs1 fc2 ?_; intro rr nn hr; rw [eV.out] at hr; obtain rfl := (hr.word kV.out).symm; simp only [Act.put, List.setIfInBounds_toArray, List.set_cons_succ, List.set_cons_zero]) | (refine wpList_fop rfl rfl rfl rfl rfl fV fcE ?_; intro rr nn hr; rw [eD.out] at hr; obtain rfl := (hr.word kD.out).symm; simp only [Act.put, List.setIfInBounds_toArray, List.set_cons_succ, List.set_cons_zero]) | (refine wpList_fop rfl rfl rfl rfl rfl fU fD ?_; intro rr nn hr; rw [eX.out] at hr; obtain rfl := (hr.word kX.out).symm; simp only [Act.put, List.setIfInBounds_toArray, List.set_cons_succ, List.set_cons_zero]) | (go_at_call 167; refine (KG.out _).mono ?_; rintro ee ww ⟨rfl, nn, rfl⟩))
  go_ret2
  exact ⟨rfl, Below.drews (by repeat (first | exact Below.on (by repeat (first | exact B2.out | refine Below.drews ?_ | refine Below.drew ?_ | refine Below.alloc ?_ (by have hq_ := B2.out.size; first | omega | (simp <;> omega)) _ | refine Below.setCell ?_ (by have hq_ := B2.out.size; first | omega | (simp <;> omega)) _)) E1.out (by have hq_ := B2.out.size; first | omega | (simp <;> omega)) | refine Below.drews ?_))⟩
theorem iCourseTo_no1 {n1 e1 n2 e2 a b c d : Nat} (h1 : Fl .f32 n1 a) (h2 : Fl .f32 e1 b) (_h3 : Fl .f32 n2 c) (_h4 : Fl .f32 e2 d) (v1 : validC n1 e1 = false) (w : World) : Calls Tryz.prog 165 #[pl a b, pl c d] w (RS (flT2 0 false) w) := by
  have KV1 := iValidPlace_any h1 h2
  rw [v1] at KV1
  have V1 := Hb.mk KV1
  clear KV1 v1
  have B0 := Hb.mk (Below.refl w.heap.size w)
  go_enter Tryz.func165, Tryz.ntmps165
  go_wp2_with (first
    | (go_at_call 26; refine (V1.out _).mono ?_; rintro ex w1 ⟨rfl, b1⟩; have B1 := Hb.mk (Below.on (B := w.heap.size) (a := w) (by repeat (first | exact B0.out | refine Below.drews ?_ | refine Below.drew ?_ | refine Below.alloc ?_ (by have hq_ := B0.out.size; first | omega | (simp <;> omega)) _ | refine Below.setCell ?_ (by have hq_ := B0.out.size; first | omega | (simp <;> omega)) _)) b1 (by have hq_ := B0.out.size; first | omega | (simp <;> omega))); clear b1))
  go_ret2
  exact ⟨rfl, (by repeat (first | exact B1.out | refine Below.drews ?_ | refine Below.drew ?_ | refine Below.alloc ?_ (by have hq_ := B1.out.size; first | omega | (simp <;> omega)) _ | refine Below.setCell ?_ (by have hq_ := B1.out.size; first | omega | (simp <;> omega)) _))⟩
theorem iCourseTo_no2 {n1 e1 n2 e2 a b c d : Nat} (h1 : Fl .f32 n1 a) (h2 : Fl .f32 e1 b) (h3 : Fl .f32 n2 c) (h4 : Fl .f32 e2 d) (v1 : validC n1 e1 = true) (v2 : validC n2 e2 = false) (w : World) : Calls Tryz.prog 165 #[pl a b, pl c d] w (RS (flT2 0 false) w) := by
  have KV1 := iValidPlace_any h1 h2
  rw [v1] at KV1
  have V1 := Hb.mk KV1
  have KV2 := iValidPlace_any h3 h4
  rw [v2] at KV2
  have V2 := Hb.mk KV2
  clear KV1 KV2 v1 v2
  have B0 := Hb.mk (Below.refl w.heap.size w)
  go_enter Tryz.func165, Tryz.ntmps165
  have tk_a : True := trivial; have tk_b : True := trivial
  go_wp2_with (first
    | (go_at_call 26; clear tk_a; refine (V1.out _).mono ?_; rintro ex w1 ⟨rfl, b1⟩; have B1 := Hb.mk (Below.on (B := w.heap.size) (a := w) (by repeat (first | exact B0.out | refine Below.drews ?_ | refine Below.drew ?_ | refine Below.alloc ?_ (by have hq_ := B0.out.size; first | omega | (simp <;> omega)) _ | refine Below.setCell ?_ (by have hq_ := B0.out.size; first | omega | (simp <;> omega)) _)) b1 (by have hq_ := B0.out.size; first | omega | (simp <;> omega))); have q0 := Hb.mk (At.keep b1 (p := ⟨w.heap.size + 1, 0, none⟩) (v := .float .f32 c) (by simp [go_sem]) (by simp [go_sem])); obtain ⟨q0c, q0z, q0l⟩ := q0.out; have q1 := Hb.mk (At.keep b1 (p := ⟨w.heap.size + 1, 1, none⟩) (v := .float .f32 d) (by simp [go_sem]) (by simp [go_sem])); obtain ⟨q1c, q1z, q1l⟩ := q1.out; clear b1)
    | (go_at_call 26; clear tk_b; refine (V2.out _).mono ?_; rintro ex w2 ⟨rfl, b2⟩; have B2 := Hb.mk (Below.on (B := w.heap.size) (a := w) (by repeat (first | exact B1.out | refine Below.drews ?_ | refine Below.drew ?_ | refine Below.alloc ?_ (by have hq_ := B1.out.size; first | omega | (simp <;> omega)) _ | refine Below.setCell ?_ (by have hq_ := B1.out.size; first | omega | (simp <;> omega)) _)) b2 (by have hq_ := B1.out.size; first | omega | (simp <;> omega))); clear b2))
  go_ret2
  exact ⟨rfl, (by repeat (first | exact B2.out | refine Below.drews ?_ | refine Below.drew ?_ | refine Below.alloc ?_ (by have hq_ := B2.out.size; first | omega | (simp <;> omega)) _ | refine Below.setCell ?_ (by have hq_ := B2.out.size; first | omega | (simp <;> omega)) _))⟩
set_option maxHeartbeats 2000000 in
theorem l02Course_any {n1 e1 n2 e2 : Nat} (h1 : Fl .f32 n1 n1) (h2 : Fl .f32 e1 e1) (h3 : Fl .f32 n2 n2) (h4 : Fl .f32 e2 e2) (t1 : Turn n1) (t2 : Turn e1) (t3 : Turn n2) (t4 : Turn e2) (w : World) : Calls Tryz.prog 56 #[pl n1 e1, pl n2 e2] w (RS (.float .f32 (crsC n1 e1 n2 e2)) w) := by
  have hc := Crs.of t1 t2 t3 t4
  have fE : Fl .f32 (crsE e1 e2) (crsE e1 e2) := fop_fl (op := .sub) (k := .f32) (x := e2) (y := e1) hc.E.fin
  have eE := Hb.mk (show fop .sub .f32 (e2) (e1) = crsE e1 e2 from rfl)
  have kE := Hb.mk (fin_notN hc.E.fin)
  have mE : Hb (∀ w, (binOp .sub 22 (.float .f32 (e2)) (.float .f32 (e1))).run Tryz.prog w = .ok (.float .f32 (crsE e1 e2)) w) := ⟨fop_exact _ hc.E.fin⟩
  have fY : Fl .f32 (crsY e1 n2 e2) (crsY e1 n2 e2) := fop_fl (op := .mul) (k := .f32) (x := sineC (crsE e1 e2)) (y := cosC n2) hc.Y.fin
  have eY := Hb.mk (show fop .mul .f32 (sineC (crsE e1 e2)) (cosC n2) = crsY e1 n2 e2 from rfl)
  have kY := Hb.mk (fin_notN hc.Y.fin)
  have mY : Hb (∀ w, (binOp .mul 22 (.float .f32 (sineC (crsE e1 e2))) (.float .f32 (cosC n2))).run Tryz.prog w = .ok (.float .f32 (crsY e1 n2 e2)) w) := ⟨fop_exact _ hc.Y.fin⟩
  have fU : Fl .f32 (crsU n1 n2) (crsU n1 n2) := fop_fl (op := .mul) (k := .f32) (x := cosC n1) (y := sineC n2) hc.U.fin
  have eU := Hb.mk (show fop .mul .f32 (cosC n1) (sineC n2) = crsU n1 n2 from rfl)
  have kU := Hb.mk (fin_notN hc.U.fin)
  have mU : Hb (∀ w, (binOp .mul 22 (.float .f32 (cosC n1)) (.float .f32 (sineC n2))).run Tryz.prog w = .ok (.float .f32 (crsU n1 n2)) w) := ⟨fop_exact _ hc.U.fin⟩
  have fV : Fl .f32 (crsV n1 n2) (crsV n1 n2) := fop_fl (op := .mul) (k := .f32) (x := sineC n1) (y := cosC n2) hc.V.fin
  have eV := Hb.mk (show fop .mul .f32 (sineC n1) (cosC n2) = crsV n1 n2 from rfl)
  have kV := Hb.mk (fin_notN hc.V.fin)
  have mV : Hb (∀ w, (binOp .mul 22 (.float .f32 (sineC n1)) (.float .f32 (cosC n2))).run Tryz.prog w = .ok (.float .f32 (crsV n1 n2)) w) := ⟨fop_exact _ hc.V.fin⟩
  have fD : Fl .f32 (crsD n1 e1 n2 e2) (crsD n1 e1 n2 e2) := fop_fl (op := .mul) (k := .f32) (x := crsV n1 n2) (y := cosC (crsE e1 e2)) hc.D.fin
  have eD := Hb.mk (show fop .mul .f32 (crsV n1 n2) (cosC (crsE e1 e2)) = crsD n1 e1 n2 e2 from rfl)
  have kD := Hb.mk (fin_notN hc.D.fin)
  have mD : Hb (∀ w, (binOp .mul 22 (.float .f32 (crsV n1 n2)) (.float .f32 (cosC (crsE e1 e2)))).run Tryz.prog w = .ok (.float .f32 (crsD n1 e1 n2 e2)) w) := ⟨fop_exact _ hc.D.fin⟩
  have fX : Fl .f32 (crsX n1 e1 n2 e2) (crsX n1 e1 n2 e2) := fop_fl (op := .sub) (k := .f32) (x := crsU n1 n2) (y := crsD n1 e1 n2 e2) hc.X.fin
  have eX := Hb.mk (show fop .sub .f32 (crsU n1 n2) (crsD n1 e1 n2 e2) = crsX n1 e1 n2 e2 from rfl)
  have kX := Hb.mk (fin_notN hc.X.fin)
  have mX : Hb (∀ w, (binOp .sub 22 (.float .f32 (crsU n1 n2)) (.float .f32 (crsD n1 e1 n2 e2))).run Tryz.prog w = .ok (.float .f32 (crsX n1 e1 n2 e2)) w) := ⟨fop_exact _ hc.X.fin⟩
  have KsE := Hb.mk (fun w => exactF (l01Sine_any (c := crsE e1 e2) fE w) hc.sE.fin)
  have KcE := Hb.mk (fun w => exactF (l02Cosine_any (c := crsE e1 e2) fE w) hc.cE.fin)
  have Kc2 := Hb.mk (fun w => exactF (l02Cosine_any h3 w) t3.cos.fin)
  have Ks2 := Hb.mk (fun w => exactF (l01Sine_any h3 w) t3.sine.fin)
  have Kc1 := Hb.mk (fun w => exactF (l02Cosine_any h1 w) t1.cos.fin)
  have Ks1 := Hb.mk (fun w => exactF (l01Sine_any h1 w) t1.sine.fin)
  have fe1 := h2
  have fe2 := h4
  have fsE := sine_ok hc.sE.fin
  have fcE : Fl .f32 (cosC (crsE e1 e2)) (cosC (crsE e1 e2)) := sine_ok hc.cE.fin
  have fc1 : Fl .f32 (cosC n1) (cosC n1) := sine_ok t1.cos.fin
  have fs1 := sine_ok t1.sine.fin
  have fc2 : Fl .f32 (cosC n2) (cosC n2) := sine_ok t3.cos.fin
  have fs2 := sine_ok t3.sine.fin
  have hA : fin .f32 (angleC (crsY e1 n2 e2) (crsX n1 e1 n2 e2)) = true := (angle_ab hc.Y.fin hc.X.fin).1.fin
  have KA := Hb.mk (fun w => exactF (l01Angle_any fY fX w) hA)
  have KG := Hb.mk (fun w => exactF (c := crsC n1 e1 n2 e2) (l02Above0_any (Fl.not (fin_notN hA) (wf_angle _ _)) w) hc.C.fin)
  clear t1 t2 t3 t4 hc hA
  generalize crsC n1 e1 n2 e2 = G at *
  generalize angleC (crsY e1 n2 e2) (crsX n1 e1 n2 e2) = A at *
  generalize crsX n1 e1 n2 e2 = X at *
  generalize crsD n1 e1 n2 e2 = D at *
  generalize crsV n1 n2 = V at *
  generalize crsU n1 n2 = U at *
  generalize crsY e1 n2 e2 = Y at *
  generalize cosC (crsE e1 e2) = cE at *
  generalize sineC (crsE e1 e2) = sE at *
  generalize crsE e1 e2 = E at *
  generalize cosC n1 = c1 at *
  generalize sineC n1 = s1 at *
  generalize cosC n2 = c2 at *
  generalize sineC n2 = s2 at *
  go_enter Tryz.func56, Tryz.ntmps56
  go_wp2_with (first | (go_at_call_of 55 (Value.float .f32 E); refine (KsE.out _).mono ?_; rintro ee ww ⟨rfl, nn, rfl⟩) | (go_at_call_of 53 (Value.float .f32 E); refine (KcE.out _).mono ?_; rintro ee ww ⟨rfl, nn, rfl⟩) | (go_at_call_of 53 (Value.float .f32 n2); refine (Kc2.out _).mono ?_; rintro ee ww ⟨rfl, nn, rfl⟩) | (go_at_call_of 55 (Value.float .f32 n2); refine (Ks2.out _).mono ?_; rintro ee ww ⟨rfl, nn, rfl⟩) | (go_at_call_of 53 (Value.float .f32 n1); refine (Kc1.out _).mono ?_; rintro ee ww ⟨rfl, nn, rfl⟩) | (go_at_call_of 55 (Value.float .f32 n1); refine (Ks1.out _).mono ?_; rintro ee ww ⟨rfl, nn, rfl⟩) | (refine wpList_fop rfl rfl rfl rfl rfl fe2 fe1 ?_; intro rr nn hr; rw [eE.out] at hr; obtain rfl := (hr.word kE.out).symm; simp only [Act.put, List.setIfInBounds_toArray, List.set_cons_succ, List.set_cons_zero]) | (refine wpList_fop rfl rfl rfl rfl rfl fsE fc2 ?_; intro rr nn hr; rw [eY.out] at hr; obtain rfl := (hr.word kY.out).symm; simp only [Act.put, List.setIfInBounds_toArray, List.set_cons_succ, List.set_cons_zero]) | (refine wpList_fop rfl rfl rfl rfl rfl fc1 fs2 ?_; intro rr nn hr; rw [eU.out] at hr; obtain rfl := (hr.word kU.out).symm; simp only [Act.put, List.setIfInBounds_toArray, List.set_cons_succ, List.set_cons_zero]) | (refine wpList_fop rfl rfl rfl rfl rfl fs1 fc2 ?_; intro rr nn hr; rw [eV.out] at hr; obtain rfl := (hr.word kV.out).symm; simp only [Act.put, List.setIfInBounds_toArray, List.set_cons_succ, List.set_cons_zero]) | (refine wpList_fop rfl rfl rfl rfl rfl fV fcE ?_; intro rr nn hr; rw [eD.out] at hr; obtain rfl := (hr.word kD.out).symm; simp only [Act.put, List.setIfInBounds_toArray, List.set_cons_succ, List.set_cons_zero]) | (refine wpList_fop rfl rfl rfl rfl rfl fU fD ?_; intro rr nn hr; rw [eX.out] at hr; obtain rfl := (hr.word kX.out).symm; simp only [Act.put, List.setIfInBounds_toArray, List.set_cons_succ, List.set_cons_zero]))
  refine region_all (by kernel_rfl) (by kernel_rfl) (fun I1 F1 hne1 HB1 hcl => ?_)
  have a0_1 := keepF HB1 (p := ⟨w.heap.size, 0, none⟩) (v := .float .f32 n1) (by first | exact rfl | simp [ go_sem] | simp [go_sem])
  have a1_1 := keepF HB1 (p := ⟨w.heap.size, 1, none⟩) (v := .float .f32 e1) (by first | exact rfl | simp [ go_sem] | simp [go_sem])
  have b0_1 := keepF HB1 (p := ⟨w.heap.size + 1, 0, none⟩) (v := .float .f32 n2) (by first | exact rfl | simp [ go_sem] | simp [go_sem])
  have b1_1 := keepF HB1 (p := ⟨w.heap.size + 1, 1, none⟩) (v := .float .f32 e2) (by first | exact rfl | simp [ go_sem] | simp [go_sem])
  have gE := mE.out
  have gY := mY.out
  have gU := mU.out
  have gV := mV.out
  have gD := mD.out
  have gX := mX.out
  repeat (quiet_step (first | (go_at_call_of 55 (Value.float .f32 E); exact callD hcl (KsE.out _)) | (go_at_call_of 53 (Value.float .f32 E); exact callD hcl (KcE.out _)) | (go_at_call_of 53 (Value.float .f32 n2); exact callD hcl (Kc2.out _)) | (go_at_call_of 55 (Value.float .f32 n2); exact callD hcl (Ks2.out _)) | (go_at_call_of 53 (Value.float .f32 n1); exact callD hcl (Kc1.out _)) | (go_at_call_of 55 (Value.float .f32 n1); exact callD hcl (Ks1.out _))))
  refine wpQuiet_nil ?_
  intro _ hw'
  obtain ⟨i1, rfl⟩ := hw'
  clear hcl
  clear gE gY gU gV gD gX
  have E1 := Hb.mk (HB1.out i1)
  go_wp2_with (first | (go_at_call_of 55 (Value.float .f32 E); refine (KsE.out _).mono ?_; rintro ee ww ⟨rfl, nn, rfl⟩) | (go_at_call_of 53 (Value.float .f32 E); refine (KcE.out _).mono ?_; rintro ee ww ⟨rfl, nn, rfl⟩) | (go_at_call_of 53 (Value.float .f32 n2); refine (Kc2.out _).mono ?_; rintro ee ww ⟨rfl, nn, rfl⟩) | (go_at_call_of 55 (Value.float .f32 n2); refine (Ks2.out _).mono ?_; rintro ee ww ⟨rfl, nn, rfl⟩) | (go_at_call_of 53 (Value.float .f32 n1); refine (Kc1.out _).mono ?_; rintro ee ww ⟨rfl, nn, rfl⟩) | (go_at_call_of 55 (Value.float .f32 n1); refine (Ks1.out _).mono ?_; rintro ee ww ⟨rfl, nn, rfl⟩) | (refine wpList_fop rfl rfl rfl rfl rfl fe2 fe1 ?_; intro rr nn hr; rw [eE.out] at hr; obtain rfl := (hr.word kE.out).symm; simp only [Act.put, List.setIfInBounds_toArray, List.set_cons_succ, List.set_cons_zero]) | (refine wpList_fop rfl rfl rfl rfl rfl fsE fc2 ?_; intro rr nn hr; rw [eY.out] at hr; obtain rfl := (hr.word kY.out).symm; simp only [Act.put, List.setIfInBounds_toArray, List.set_cons_succ, List.set_cons_zero]) | (refine wpList_fop rfl rfl rfl rfl rfl fc1 fs2 ?_; intro rr nn hr; rw [eU.out] at hr; obtain rfl := (hr.word kU.out).symm; simp only [Act.put, List.setIfInBounds_toArray, List.set_cons_succ, List.set_cons_zero]) | (refine wpList_fop rfl rfl rfl rfl rfl fs1 fc2 ?_; intro rr nn hr; rw [eV.out] at hr; obtain rfl := (hr.word kV.out).symm; simp only [Act.put, List.setIfInBounds_toArray, List.set_cons_succ, List.set_cons_zero]) | (refine wpList_fop rfl rfl rfl rfl rfl fV fcE ?_; intro rr nn hr; rw [eD.out] at hr; obtain rfl := (hr.word kD.out).symm; simp only [Act.put, List.setIfInBounds_toArray, List.set_cons_succ, List.set_cons_zero]) | (refine wpList_fop rfl rfl rfl rfl rfl fU fD ?_; intro rr nn hr; rw [eX.out] at hr; obtain rfl := (hr.word kX.out).symm; simp only [Act.put, List.setIfInBounds_toArray, List.set_cons_succ, List.set_cons_zero]))
  refine region_all (by kernel_rfl) (by kernel_rfl) (fun I2 F2 hne2 HB2 hcl => ?_)
  have a0_2 := keepF HB2 (p := ⟨w.heap.size, 0, none⟩) (v := .float .f32 n1) (by first | exact (a0_1 i1) | simp [(a0_1 i1), go_sem] | simp [go_sem])
  have a1_2 := keepF HB2 (p := ⟨w.heap.size, 1, none⟩) (v := .float .f32 e1) (by first | exact (a1_1 i1) | simp [(a1_1 i1), go_sem] | simp [go_sem])
  have b0_2 := keepF HB2 (p := ⟨w.heap.size + 1, 0, none⟩) (v := .float .f32 n2) (by first | exact (b0_1 i1) | simp [(b0_1 i1), go_sem] | simp [go_sem])
  have b1_2 := keepF HB2 (p := ⟨w.heap.size + 1, 1, none⟩) (v := .float .f32 e2) (by first | exact (b1_1 i1) | simp [(b1_1 i1), go_sem] | simp [go_sem])
  have gE := mE.out
  have gY := mY.out
  have gU := mU.out
  have gV := mV.out
  have gD := mD.out
  have gX := mX.out
  repeat (quiet_step (first | (go_at_call_of 55 (Value.float .f32 E); exact callD hcl (KsE.out _)) | (go_at_call_of 53 (Value.float .f32 E); exact callD hcl (KcE.out _)) | (go_at_call_of 53 (Value.float .f32 n2); exact callD hcl (Kc2.out _)) | (go_at_call_of 55 (Value.float .f32 n2); exact callD hcl (Ks2.out _)) | (go_at_call_of 53 (Value.float .f32 n1); exact callD hcl (Kc1.out _)) | (go_at_call_of 55 (Value.float .f32 n1); exact callD hcl (Ks1.out _))))
  refine wpQuiet_nil ?_
  intro _ hw'
  obtain ⟨i2, rfl⟩ := hw'
  clear hcl
  clear gE gY gU gV gD gX
  have E2 := Hb.mk (HB2.out i2)
  go_wp2_with (first | (go_at_call_of 55 (Value.float .f32 E); refine (KsE.out _).mono ?_; rintro ee ww ⟨rfl, nn, rfl⟩) | (go_at_call_of 53 (Value.float .f32 E); refine (KcE.out _).mono ?_; rintro ee ww ⟨rfl, nn, rfl⟩) | (go_at_call_of 53 (Value.float .f32 n2); refine (Kc2.out _).mono ?_; rintro ee ww ⟨rfl, nn, rfl⟩) | (go_at_call_of 55 (Value.float .f32 n2); refine (Ks2.out _).mono ?_; rintro ee ww ⟨rfl, nn, rfl⟩) | (go_at_call_of 53 (Value.float .f32 n1); refine (Kc1.out _).mono ?_; rintro ee ww ⟨rfl, nn, rfl⟩) | (go_at_call_of 55 (Value.float .f32 n1); refine (Ks1.out _).mono ?_; rintro ee ww ⟨rfl, nn, rfl⟩) | (refine wpList_fop rfl rfl rfl rfl rfl fe2 fe1 ?_; intro rr nn hr; rw [eE.out] at hr; obtain rfl := (hr.word kE.out).symm; simp only [Act.put, List.setIfInBounds_toArray, List.set_cons_succ, List.set_cons_zero]) | (refine wpList_fop rfl rfl rfl rfl rfl fsE fc2 ?_; intro rr nn hr; rw [eY.out] at hr; obtain rfl := (hr.word kY.out).symm; simp only [Act.put, List.setIfInBounds_toArray, List.set_cons_succ, List.set_cons_zero]) | (refine wpList_fop rfl rfl rfl rfl rfl fc1 fs2 ?_; intro rr nn hr; rw [eU.out] at hr; obtain rfl := (hr.word kU.out).symm; simp only [Act.put, List.setIfInBounds_toArray, List.set_cons_succ, List.set_cons_zero]) | (refine wpList_fop rfl rfl rfl rfl rfl fs1 fc2 ?_; intro rr nn hr; rw [eV.out] at hr; obtain rfl := (hr.word kV.out).symm; simp only [Act.put, List.setIfInBounds_toArray, List.set_cons_succ, List.set_cons_zero]) | (refine wpList_fop rfl rfl rfl rfl rfl fV fcE ?_; intro rr nn hr; rw [eD.out] at hr; obtain rfl := (hr.word kD.out).symm; simp only [Act.put, List.setIfInBounds_toArray, List.set_cons_succ, List.set_cons_zero]) | (refine wpList_fop rfl rfl rfl rfl rfl fU fD ?_; intro rr nn hr; rw [eX.out] at hr; obtain rfl := (hr.word kX.out).symm; simp only [Act.put, List.setIfInBounds_toArray, List.set_cons_succ, List.set_cons_zero]))
  refine region_all (by kernel_rfl) (by kernel_rfl) (fun I3 F3 hne3 HB3 hcl => ?_)
  have a0_3 := keepF HB3 (p := ⟨w.heap.size, 0, none⟩) (v := .float .f32 n1) (by first | exact (a0_2 i2) | simp [(a0_2 i2), go_sem] | simp [go_sem])
  have a1_3 := keepF HB3 (p := ⟨w.heap.size, 1, none⟩) (v := .float .f32 e1) (by first | exact (a1_2 i2) | simp [(a1_2 i2), go_sem] | simp [go_sem])
  have b0_3 := keepF HB3 (p := ⟨w.heap.size + 1, 0, none⟩) (v := .float .f32 n2) (by first | exact (b0_2 i2) | simp [(b0_2 i2), go_sem] | simp [go_sem])
  have b1_3 := keepF HB3 (p := ⟨w.heap.size + 1, 1, none⟩) (v := .float .f32 e2) (by first | exact (b1_2 i2) | simp [(b1_2 i2), go_sem] | simp [go_sem])
  have gE := mE.out
  have gY := mY.out
  have gU := mU.out
  have gV := mV.out
  have gD := mD.out
  have gX := mX.out
  repeat (quiet_step (first | (go_at_call_of 55 (Value.float .f32 E); exact callD hcl (KsE.out _)) | (go_at_call_of 53 (Value.float .f32 E); exact callD hcl (KcE.out _)) | (go_at_call_of 53 (Value.float .f32 n2); exact callD hcl (Kc2.out _)) | (go_at_call_of 55 (Value.float .f32 n2); exact callD hcl (Ks2.out _)) | (go_at_call_of 53 (Value.float .f32 n1); exact callD hcl (Kc1.out _)) | (go_at_call_of 55 (Value.float .f32 n1); exact callD hcl (Ks1.out _))))
  refine wpQuiet_nil ?_
  intro _ hw'
  obtain ⟨i3, rfl⟩ := hw'
  clear hcl
  clear gE gY gU gV gD gX
  have E3 := Hb.mk (HB3.out i3)
  go_wp2_with (first | (go_at_call_of 55 (Value.float .f32 E); refine (KsE.out _).mono ?_; rintro ee ww ⟨rfl, nn, rfl⟩) | (go_at_call_of 53 (Value.float .f32 E); refine (KcE.out _).mono ?_; rintro ee ww ⟨rfl, nn, rfl⟩) | (go_at_call_of 53 (Value.float .f32 n2); refine (Kc2.out _).mono ?_; rintro ee ww ⟨rfl, nn, rfl⟩) | (go_at_call_of 55 (Value.float .f32 n2); refine (Ks2.out _).mono ?_; rintro ee ww ⟨rfl, nn, rfl⟩) | (go_at_call_of 53 (Value.float .f32 n1); refine (Kc1.out _).mono ?_; rintro ee ww ⟨rfl, nn, rfl⟩) | (go_at_call_of 55 (Value.float .f32 n1); refine (Ks1.out _).mono ?_; rintro ee ww ⟨rfl, nn, rfl⟩) | (refine wpList_fop rfl rfl rfl rfl rfl fe2 fe1 ?_; intro rr nn hr; rw [eE.out] at hr; obtain rfl := (hr.word kE.out).symm; simp only [Act.put, List.setIfInBounds_toArray, List.set_cons_succ, List.set_cons_zero]) | (refine wpList_fop rfl rfl rfl rfl rfl fsE fc2 ?_; intro rr nn hr; rw [eY.out] at hr; obtain rfl := (hr.word kY.out).symm; simp only [Act.put, List.setIfInBounds_toArray, List.set_cons_succ, List.set_cons_zero]) | (refine wpList_fop rfl rfl rfl rfl rfl fc1 fs2 ?_; intro rr nn hr; rw [eU.out] at hr; obtain rfl := (hr.word kU.out).symm; simp only [Act.put, List.setIfInBounds_toArray, List.set_cons_succ, List.set_cons_zero]) | (refine wpList_fop rfl rfl rfl rfl rfl fs1 fc2 ?_; intro rr nn hr; rw [eV.out] at hr; obtain rfl := (hr.word kV.out).symm; simp only [Act.put, List.setIfInBounds_toArray, List.set_cons_succ, List.set_cons_zero]) | (refine wpList_fop rfl rfl rfl rfl rfl fV fcE ?_; intro rr nn hr; rw [eD.out] at hr; obtain rfl := (hr.word kD.out).symm; simp only [Act.put, List.setIfInBounds_toArray, List.set_cons_succ, List.set_cons_zero]) | (refine wpList_fop rfl rfl rfl rfl rfl fU fD ?_; intro rr nn hr; rw [eX.out] at hr; obtain rfl := (hr.word kX.out).symm; simp only [Act.put, List.setIfInBounds_toArray, List.set_cons_succ, List.set_cons_zero]) | (go_at_call 89; refine (KA.out _).mono ?_; rintro ee ww ⟨rfl, nn, rfl⟩) | (go_at_call 102; refine (KG.out _).mono ?_; rintro ee ww ⟨rfl, nn, rfl⟩))
  go_ret
  refine ⟨rfl, ?_⟩
  have y1 := E1.out.size
  have y2 := E2.out.size
  have y3 := E3.out.size
  simp at y1 y2 y3
  exact (by repeat (first | exact Below.refl _ _ | refine Below.on ?_ E1.out (by first | omega | (simp <;> omega)) | refine Below.on ?_ E2.out (by first | omega | (simp <;> omega)) | refine Below.on ?_ E3.out (by first | omega | (simp <;> omega)) | refine Below.drews ?_ | refine Below.drew ?_ | refine Below.alloc ?_ (by first | omega | (simp <;> omega)) _ | refine Below.setCell ?_ (by first | omega | (simp <;> omega)) _))
end Go.Proofs.YtenekhckmglobaaGreat
