/-
  The place of a way, of the program and of its model; the exact law PlaceOfWay. No condition.
-/
import Derived.Test.YtfmhbmehidlhiaaPow
namespace Go.Proofs.Ytfmhbmehidlhiaa
open Go Go.RowKit
set_option maxRecDepth 100000

theorem place_fls {x y z : Nat} (h : placeOk x y z = true) : Fl .f32 (placeN x y z) (placeN x y z) ∧ Fl .f32 (placeE x y) (placeE x y) := by
  unfold placeOk at h
  rw [Bool.and_eq_true] at h
  obtain ⟨hv, ha⟩ := place_valid h.1
  obtain ⟨v1, v2⟩ := valid_ab hv
  refine ⟨Fl.not (fin_notN v1.fin) ?_, Fl.not (fin_notN v2.fin) ?_⟩
  · unfold placeN angleC
    split
    · split
      · decide +kernel
      · exact wf_fcv _
    · decide +kernel
  · unfold placeE wrapC
    split
    · decide +kernel
    · exact wf_fop _ _ _ _
theorem finW_of {x y z : Nat} (h : finW x y z = true) : fin .f32 x = true ∧ fin .f32 y = true ∧ fin .f32 z = true := by
  unfold finW at h; simp only [Bool.and_eq_true] at h; exact ⟨h.1, h.2.1, h.2.2⟩
theorem wf_angle32 (y x : Nat) : (Lit.float .f32 (angleC y x)).wf = true := by
  unfold angleC
  split
  · split
    · decide +kernel
    · exact wf_fcv _
  · decide +kernel
theorem l02Give_yes {n e : Nat} (h1 : Fl .f32 n n) (h2 : Fl .f32 e e) (hv : validC n e = true) (w : World) : Calls Try.prog 90 #[pl n e] w (RS (plT n e true) w) := by
  have HV := Hb.mk hv
  clear hv
  go_enter Try.func90, Try.ntmps90
  go_wp2_with (first | (go_at_call 27; refine (l02Is_any h1 h2 _ (by simp [go_sem]) (by simp [go_sem])).mono ?_; rw [HV.out]; rintro e1 w1 ⟨rfl, n1, rfl⟩))
  exact bodyPost_ret (v := plT n e true) (by simp [results, Try.results90, go_sem]) rfl ⟨rfl, (by repeat (first | exact Below.refl _ _ | with_reducible assumption | refine Below.drews ?_ | refine Below.drew ?_ | refine Below.alloc ?_ (by simp <;> omega) _ | refine Below.setCell ?_ (by simp <;> omega) _))⟩
theorem l02Above_any {c x : Nat} (hx : Fl .f32 c x) (w : World) : Calls Try.prog 41 #[.float .f32 x] w (RB (fin .f32 c && fcmp .gtr .f32 c 0) w) := by
  cases hf : fin .f32 c
  · have K := Hb.mk hf
    have KV := Hb.mk (show (false && fcmp .gtr .f32 c 0) = false from rfl)
    clear hf
    go_enter Try.func41, Try.ntmps41
    go_wp2_with (first | (go_at_call 28; refine (l01Finite_any hx _).mono ?_; rw [K.out]; rintro e w' ⟨rfl, n, rfl⟩))
    go_ret
    rw [KV.out]
    exact RB.any rfl (by repeat (first | exact Drew.refl _ | refine Drew.more ?_))
  · have K := Hb.mk hf
    have KV := Hb.mk (show (true && fcmp .gtr .f32 c 0) = fcmp .gtr .f32 c 0 from rfl)
    clear hf
    go_enter Try.func41, Try.ntmps41
    go_wp2_with (first | (go_at_call 28; refine (l01Finite_any hx _).mono ?_; rw [K.out]; rintro e w' ⟨rfl, n, rfl⟩) | (refine wpList_fcmp_g rfl rfl rfl rfl rfl (by first | (with_reducible assumption) | (with_reducible exact Fl.ofInt _ _) | exact Fl.not (by decide +kernel) (by decide +kernel)) (by first | (with_reducible assumption) | (with_reducible exact Fl.ofInt _ _) | exact Fl.not (by decide +kernel) (by decide +kernel)) ?_; simp only [Act.put, List.setIfInBounds_toArray, List.set_cons_succ, List.set_cons_zero]))
    go_ret
    rw [KV.out]
    exact RB.any rfl (by repeat (first | exact Drew.refl _ | refine Drew.more ?_))
set_option maxHeartbeats 2000000 in
theorem iPlaceOfWay_yes {x y z : Nat} (h1 : Fl .f32 x x) (h2 : Fl .f32 y y) (h3 : Fl .f32 z z) (ho : placeOk x y z = true) (w : World) : Calls Try.prog 73 #[wy x y z] w (RS (plT (placeN x y z) (placeE x y) true) w) := by
  have hl : longOk x y z = true := by unfold placeOk at ho; rw [Bool.and_eq_true] at ho; exact ho.1
  obtain ⟨q1, q2, q3, q4⟩ := flat_ok hl
  have fS : Fl .f32 (flatSq x y) (flatSq x y) := fop_fl (op := .add) q3
  obtain ⟨r1, r2, r3⟩ := root_nn q3 q4
  obtain ⟨pv, pa⟩ := place_valid hl
  obtain ⟨pf1, pf2⟩ := place_fls ho
  obtain ⟨v1, v2⟩ := valid_ab pv
  have KR := Hb.mk (fun w => exactF (iRoot_any (c := flatSq x y) (x := flatSq x y) fS w) r1)
  have KN := Hb.mk (fun w => exactF (c := placeN x y z) (iAngleTurns_any h3 r3 w) v1.fin)
  have KA := Hb.mk (fun w => exactF (iAngleTurns_any h2 h1 w) pa.fin)
  have KE := Hb.mk (fun w => exactF (c := placeE x y) (wrapped_any (Fl.not (fin_notN pa.fin) (wf_angle32 _ _)) (pa.mono (by decide +kernel) (by decide +kernel)) w) v2.fin)
  have mA : ∀ w, (binOp .mul 22 (.float .f32 x) (.float .f32 x)).run Try.prog w = .ok (.float .f32 (fop .mul .f32 x x)) w := fop_exact _ q1
  have mB : ∀ w, (binOp .mul 22 (.float .f32 y) (.float .f32 y)).run Try.prog w = .ok (.float .f32 (fop .mul .f32 y y)) w := fop_exact _ q2
  have mC : ∀ w, (binOp .add 22 (.float .f32 (fop .mul .f32 x x)) (.float .f32 (fop .mul .f32 y y))).run Try.prog w = .ok (.float .f32 (flatSq x y)) w := fop_exact _ q3
  have MA := Hb.mk mA
  have MB := Hb.mk mB
  have MC := Hb.mk mC
  have fA := fop_fl q1
  have fB := fop_fl q2
  have eC := Hb.mk (show fop .add .f32 (fop .mul .f32 x x) (fop .mul .f32 y y) = flatSq x y from rfl)
  have kA := Hb.mk (fin_notN q1)
  have kB := Hb.mk (fin_notN q2)
  have kC := Hb.mk (fin_notN q3)
  clear mA mB mC
  have KL := iLongOfWay_any h1 h2 h3
  rw [(long_yes hl).1, (long_yes hl).2] at KL
  have HL := Hb.mk KL
  have hfl : Fl .f32 (longC x y z) (longC x y z) := by have := long_fl x y z; rw [(long_yes hl).2] at this; exact this
  have hgt : fcmp .leq .f32 (longC x y z) 0 = false := by
    unfold placeOk longOk at ho; simp only [Bool.and_eq_true] at ho
    have hf := ho.1.2
    rw [(fcmp_fin hf (fin_zero _)).2.2.1, decide_eq_true_eq] at ho
    rw [(fcmp_fin hf (fin_zero _)).2.1, decide_eq_false_iff_not]; omega
  clear KL ho hl q1 q2 q3 q4 r1 r2 pv v1 v2 pa
  generalize longC x y z = L at *
  generalize placeN x y z = N at *
  generalize placeE x y = E at *
  generalize angleC y x = A at *
  generalize rootC (flatSq x y) = R at *
  generalize flatSq x y = S at *
  generalize hxx : fop .mul .f32 x x = xx at *
  generalize hyy : fop .mul .f32 y y = yy at *
  have eA := Hb.mk hxx
  have eB := Hb.mk hyy
  clear hxx hyy
  have B0 := Hb.mk (Below.refl w.heap.size w)
  go_enter Try.func73, Try.ntmps73
  go_wp2_with (first
    | (go_at_call 92; refine (HL.out _).mono ?_; rintro e1 w1 ⟨rfl, b1⟩; have B1 := Hb.mk (Below.on (B := w.heap.size) (a := w) (by repeat (first | exact B0.out | refine Below.drews ?_ | refine Below.drew ?_ | refine Below.alloc ?_ (by have hq_ := B0.out.size; first | omega | (simp <;> omega)) _ | refine Below.setCell ?_ (by have hq_ := B0.out.size; first | omega | (simp <;> omega)) _)) b1 (by have hq_ := B0.out.size; first | omega | (simp <;> omega))); have p0 := Hb.mk (At.keep b1 (p := ⟨w.heap.size, 0, none⟩) (v := .float .f32 x) (by simp [go_sem]) (by simp [go_sem])); obtain ⟨p0c, p0z, p0l⟩ := p0.out; have p1 := Hb.mk (At.keep b1 (p := ⟨w.heap.size, 1, none⟩) (v := .float .f32 y) (by simp [go_sem]) (by simp [go_sem])); obtain ⟨p1c, p1z, p1l⟩ := p1.out; have p2 := Hb.mk (At.keep b1 (p := ⟨w.heap.size, 2, none⟩) (v := .float .f32 z) (by simp [go_sem]) (by simp [go_sem])); obtain ⟨p2c, p2z, p2l⟩ := p2.out; have g0 := Hb.mk (At.keep b1 (p := ⟨w.heap.size + 1, 0, none⟩) (v := .float .f32 0) (by simp [go_sem]) (by simp [go_sem])); obtain ⟨g0c, g0z, g0l⟩ := g0.out; have g1 := Hb.mk (At.keep b1 (p := ⟨w.heap.size + 1, 1, none⟩) (v := .float .f32 0) (by simp [go_sem]) (by simp [go_sem])); obtain ⟨g1c, g1z, g1l⟩ := g1.out; clear b1)
    | (refine wpList_fcmp_g rfl rfl rfl rfl rfl (by first | (with_reducible assumption) | (with_reducible exact Fl.ofInt _ _) | exact Fl.not (by decide +kernel) (by decide +kernel)) (by first | (with_reducible assumption) | (with_reducible exact Fl.ofInt _ _) | exact Fl.not (by decide +kernel) (by decide +kernel)) ?_; simp only [Act.put, List.setIfInBounds_toArray, List.set_cons_succ, List.set_cons_zero, hgt])
    | (go_at_call 50; refine (KR.out _).mono ?_; rintro ee ww ⟨rfl, nn, rfl⟩)
    | (refine wpList_fop rfl rfl rfl rfl rfl h1 h1 ?_; intro rr nn hr; rw [eA.out] at hr; obtain rfl := (hr.word kA.out).symm; simp only [Act.put, List.setIfInBounds_toArray, List.set_cons_succ, List.set_cons_zero]) | (refine wpList_fop rfl rfl rfl rfl rfl h2 h2 ?_; intro rr nn hr; rw [eB.out] at hr; obtain rfl := (hr.word kB.out).symm; simp only [Act.put, List.setIfInBounds_toArray, List.set_cons_succ, List.set_cons_zero]) | (refine wpList_fop rfl rfl rfl rfl rfl fA fB ?_; intro rr nn hr; rw [eC.out] at hr; obtain rfl := (hr.word kC.out).symm; simp only [Act.put, List.setIfInBounds_toArray, List.set_cons_succ, List.set_cons_zero]))
  refine region_keep 11 (by kernel_rfl) (by kernel_rfl) (fun I F hne HB hcl => ?_)
  have f0 := keepF HB (p := ⟨w.heap.size, 0, none⟩) (v := .float .f32 x) (by first | exact p0c | simp [go_sem, p0c])
  have f1 := keepF HB (p := ⟨w.heap.size, 1, none⟩) (v := .float .f32 y) (by first | exact p1c | simp [go_sem, p1c])
  have f2 := keepF HB (p := ⟨w.heap.size, 2, none⟩) (v := .float .f32 z) (by first | exact p2c | simp [go_sem, p2c])
  have d0 := keepF HB (p := ⟨w.heap.size + 1, 0, none⟩) (v := .float .f32 0) (by first | exact g0c | simp [go_sem, g0c])
  have d1 := keepF HB (p := ⟨w.heap.size + 1, 1, none⟩) (v := .float .f32 0) (by first | exact g1c | simp [go_sem, g1c])
  have z0 := keepZ HB (p := ⟨w.heap.size + 1, 0, none⟩) (by first | exact g0l | simp [go_sem, g0l]) (by first | exact g0z | simp [go_sem, g0z])
  have z1 := keepZ HB (p := ⟨w.heap.size + 1, 1, none⟩) (by first | exact g1l | simp [go_sem, g1l]) (by first | exact g1z | simp [go_sem, g1z])
  simp only [List.take_succ_cons, List.take_zero, List.drop_succ_cons, List.drop_zero]
  repeat (quiet_step (first | (go_at_call_of 49 (Value.float .f32 z); exact callD hcl (KN.out _)) | (go_at_call_of 49 (Value.float .f32 y); exact callD hcl (KA.out _)) | (go_at_call 93; exact callD hcl (KE.out _))))
  refine wpQuiet_nil ?_
  intro _ hw'
  obtain ⟨iq, rfl⟩ := hw'
  clear hcl
  have E1 := Hb.mk (HB.out iq)
  have x0 := d0 iq
  have x1 := d1 iq
  have y0 := z0 iq
  have y1 := z1 iq
  go_wp2
  exact bodyPost_ret (v := plT N E true) (by simp [results, Try.results73, go_sem, x0, x1]) rfl ⟨rfl, (by repeat (first | exact Below.refl _ _ | refine Below.on ?_ E1.out (by first | omega | (simp <;> omega)) | exact B1.out | refine Below.drews ?_ | refine Below.drew ?_ | refine Below.alloc ?_ (by first | omega | (simp <;> omega)) _ | refine Below.setCell ?_ (by first | omega | (simp <;> omega)) _))⟩
theorem iPlaceOfWay_no {x y z a b c : Nat} (h1 : Fl .f32 x a) (h2 : Fl .f32 y b) (h3 : Fl .f32 z c) (ho : placeOk x y z = false) (w : World) : Calls Try.prog 73 #[wy a b c] w (RS (plT 0 0 false) w) := by
  have KL := iLongOfWay_any h1 h2 h3
  have B0 := Hb.mk (Below.refl w.heap.size w)
  cases hl : longOk x y z
  · rw [(long_no hl).1, (long_no hl).2] at KL
    have HL := Hb.mk KL
    clear KL ho hl
    go_enter Try.func73, Try.ntmps73
    go_wp2_with (first | (go_at_call 92; refine (HL.out _).mono ?_; rintro e1 w1 ⟨rfl, b1⟩; have B1 := Hb.mk (Below.on (B := w.heap.size) (a := w) (by repeat (first | exact B0.out | refine Below.drews ?_ | refine Below.drew ?_ | refine Below.alloc ?_ (by have hq_ := B0.out.size; first | omega | (simp <;> omega)) _ | refine Below.setCell ?_ (by have hq_ := B0.out.size; first | omega | (simp <;> omega)) _)) b1 (by have hq_ := B0.out.size; first | omega | (simp <;> omega))); have g0 := Hb.mk (At.keep b1 (p := ⟨w.heap.size + 1, 0, none⟩) (v := .float .f32 0) (by simp [go_sem]) (by simp [go_sem])); obtain ⟨g0c, g0z, g0l⟩ := g0.out; have g1 := Hb.mk (At.keep b1 (p := ⟨w.heap.size + 1, 1, none⟩) (v := .float .f32 0) (by simp [go_sem]) (by simp [go_sem])); obtain ⟨g1c, g1z, g1l⟩ := g1.out; clear b1))
    exact bodyPost_ret (v := plT 0 0 false) (by simp [results, Try.results73, go_sem, g0c, g1c]) rfl ⟨rfl, (by repeat (first | exact Below.refl _ _ | exact B1.out | refine Below.drews ?_ | refine Below.drew ?_ | refine Below.alloc ?_ (by first | omega | (simp <;> omega)) _ | refine Below.setCell ?_ (by first | omega | (simp <;> omega)) _))⟩
  · rw [(long_yes hl).1, (long_yes hl).2] at KL
    have HL := Hb.mk KL
    have hfl : Fl .f32 (longC x y z) (longC x y z) := by have := long_fl x y z; rw [(long_yes hl).2] at this; exact this
    have hgt : fcmp .leq .f32 (longC x y z) 0 = true := by
      unfold placeOk at ho; rw [hl, Bool.true_and] at ho
      unfold longOk at hl; rw [Bool.and_eq_true] at hl
      rw [(fcmp_fin hl.2 (fin_zero _)).2.2.1, decide_eq_false_iff_not] at ho
      rw [(fcmp_fin hl.2 (fin_zero _)).2.1, decide_eq_true_eq]; omega
    clear KL ho hl
    generalize longC x y z = L at *
    go_enter Try.func73, Try.ntmps73
    go_wp2_with (first | (go_at_call 92; refine (HL.out _).mono ?_; rintro e1 w1 ⟨rfl, b1⟩; have B1 := Hb.mk (Below.on (B := w.heap.size) (a := w) (by repeat (first | exact B0.out | refine Below.drews ?_ | refine Below.drew ?_ | refine Below.alloc ?_ (by have hq_ := B0.out.size; first | omega | (simp <;> omega)) _ | refine Below.setCell ?_ (by have hq_ := B0.out.size; first | omega | (simp <;> omega)) _)) b1 (by have hq_ := B0.out.size; first | omega | (simp <;> omega))); have g0 := Hb.mk (At.keep b1 (p := ⟨w.heap.size + 1, 0, none⟩) (v := .float .f32 0) (by simp [go_sem]) (by simp [go_sem])); obtain ⟨g0c, g0z, g0l⟩ := g0.out; have g1 := Hb.mk (At.keep b1 (p := ⟨w.heap.size + 1, 1, none⟩) (v := .float .f32 0) (by simp [go_sem]) (by simp [go_sem])); obtain ⟨g1c, g1z, g1l⟩ := g1.out; clear b1) | (refine wpList_fcmp_g rfl rfl rfl rfl rfl (by first | (with_reducible assumption) | (with_reducible exact Fl.ofInt _ _) | exact Fl.not (by decide +kernel) (by decide +kernel)) (by first | (with_reducible assumption) | (with_reducible exact Fl.ofInt _ _) | exact Fl.not (by decide +kernel) (by decide +kernel)) ?_; simp only [Act.put, List.setIfInBounds_toArray, List.set_cons_succ, List.set_cons_zero, hgt]))
    exact bodyPost_ret (v := plT 0 0 false) (by simp [results, Try.results73, go_sem, g0c, g1c]) rfl ⟨rfl, (by repeat (first | exact Below.refl _ _ | exact B1.out | refine Below.drews ?_ | refine Below.drew ?_ | refine Below.alloc ?_ (by first | omega | (simp <;> omega)) _ | refine Below.setCell ?_ (by first | omega | (simp <;> omega)) _))⟩
set_option maxHeartbeats 2000000 in
theorem l02From_yes {x y z : Nat} (h1 : Fl .f32 x x) (h2 : Fl .f32 y y) (h3 : Fl .f32 z z) (ho : placeOk x y z = true) (w : World) : Calls Try.prog 66 #[wy x y z] w (RS (plT (placeN x y z) (placeE x y) true) w) := by
  have hl : longOk x y z = true := by unfold placeOk at ho; rw [Bool.and_eq_true] at ho; exact ho.1
  obtain ⟨q1, q2, q3, q4⟩ := flat_ok hl
  have fS : Fl .f32 (flatSq x y) (flatSq x y) := fop_fl (op := .add) q3
  obtain ⟨r1, r2, r3⟩ := root_nn q3 q4
  obtain ⟨pv, pa⟩ := place_valid hl
  obtain ⟨pf1, pf2⟩ := place_fls ho
  obtain ⟨v1, v2⟩ := valid_ab pv
  have KR := Hb.mk (fun w => exactF (l01Sqrt_any (c := flatSq x y) (x := flatSq x y) fS w) r1)
  have KN := Hb.mk (fun w => exactF (c := placeN x y z) (l01Angle_any h3 r3 w) v1.fin)
  have KA := Hb.mk (fun w => exactF (l01Angle_any h2 h1 w) pa.fin)
  have KE := Hb.mk (fun w => exactF (c := placeE x y) (l02Wrap_any (Fl.not (fin_notN pa.fin) (wf_angle32 _ _)) (pa.mono (by decide +kernel) (by decide +kernel)) w) v2.fin)
  have mA : ∀ w, (binOp .mul 22 (.float .f32 x) (.float .f32 x)).run Try.prog w = .ok (.float .f32 (fop .mul .f32 x x)) w := fop_exact _ q1
  have mB : ∀ w, (binOp .mul 22 (.float .f32 y) (.float .f32 y)).run Try.prog w = .ok (.float .f32 (fop .mul .f32 y y)) w := fop_exact _ q2
  have mC : ∀ w, (binOp .add 22 (.float .f32 (fop .mul .f32 x x)) (.float .f32 (fop .mul .f32 y y))).run Try.prog w = .ok (.float .f32 (flatSq x y)) w := fop_exact _ q3
  have MA := Hb.mk mA
  have MB := Hb.mk mB
  have MC := Hb.mk mC
  have fA := fop_fl q1
  have fB := fop_fl q2
  have eC := Hb.mk (show fop .add .f32 (fop .mul .f32 x x) (fop .mul .f32 y y) = flatSq x y from rfl)
  have kA := Hb.mk (fin_notN q1)
  have kB := Hb.mk (fin_notN q2)
  have kC := Hb.mk (fin_notN q3)
  clear mA mB mC
  have KG := Hb.mk (l02Give_yes pf1 pf2 pv)
  have hfl : Fl .f32 (longC x y z) (longC x y z) := by have := long_fl x y z; rw [(long_yes hl).2] at this; exact this
  have hfin : fin .f32 (longC x y z) = true := by unfold longOk at hl; rw [Bool.and_eq_true] at hl; exact hl.2
  have KL := Hb.mk (l02Long_any h1 h2 h3)
  have kL := Hb.mk (fin_notN hfin)
  have KU := l02Above_any hfl
  have hab : (fin .f32 (longC x y z) && fcmp .gtr .f32 (longC x y z) 0) = true := by
    unfold placeOk at ho; rw [hl, Bool.true_and] at ho
    rw [hfin, ho]; rfl
  rw [hab] at KU
  have HU := Hb.mk KU
  have hW : finW x y z = true := by unfold longOk at hl; rw [Bool.and_eq_true] at hl; exact hl.1
  have KW := l02Ways_any h1 h2 h3
  rw [hW] at KW
  have HW := Hb.mk KW
  clear KU KW hW hab hfin ho hl q1 q2 q3 q4 r1 r2 pv v1 v2 pa
  generalize longC x y z = L at *
  generalize placeN x y z = N at *
  generalize placeE x y = E at *
  generalize angleC y x = A at *
  generalize rootC (flatSq x y) = R at *
  generalize flatSq x y = S at *
  generalize hxx : fop .mul .f32 x x = xx at *
  generalize hyy : fop .mul .f32 y y = yy at *
  have eA := Hb.mk hxx
  have eB := Hb.mk hyy
  clear hxx hyy
  have B0 := Hb.mk (Below.refl w.heap.size w)
  go_enter Try.func66, Try.ntmps66
  go_wp2_with (first
    | (go_at_call 38; refine (KL.out _).mono ?_; rintro e1 w1 ⟨r1, rfl, hr1, b1⟩; obtain rfl := (hr1.word kL.out).symm; have B1 := Hb.mk (Below.on (B := w.heap.size) (a := w) (by repeat (first | exact B0.out | refine Below.drews ?_ | refine Below.drew ?_ | refine Below.alloc ?_ (by have hq_ := B0.out.size; first | omega | (simp <;> omega)) _ | refine Below.setCell ?_ (by have hq_ := B0.out.size; first | omega | (simp <;> omega)) _)) b1 (by have hq_ := B0.out.size; first | omega | (simp <;> omega))); have p0 := Hb.mk (At.keep b1 (p := ⟨w.heap.size, 0, none⟩) (v := .float .f32 x) (by simp [go_sem]) (by simp [go_sem])); obtain ⟨p0c, p0z, p0l⟩ := p0.out; have p1 := Hb.mk (At.keep b1 (p := ⟨w.heap.size, 1, none⟩) (v := .float .f32 y) (by simp [go_sem]) (by simp [go_sem])); obtain ⟨p1c, p1z, p1l⟩ := p1.out; have p2 := Hb.mk (At.keep b1 (p := ⟨w.heap.size, 2, none⟩) (v := .float .f32 z) (by simp [go_sem]) (by simp [go_sem])); obtain ⟨p2c, p2z, p2l⟩ := p2.out; have g0 := Hb.mk (At.keep b1 (p := ⟨w.heap.size + 1, 0, none⟩) (v := .float .f32 0) (by simp [go_sem]) (by simp [go_sem])); obtain ⟨g0c, g0z, g0l⟩ := g0.out; have g1 := Hb.mk (At.keep b1 (p := ⟨w.heap.size + 1, 1, none⟩) (v := .float .f32 0) (by simp [go_sem]) (by simp [go_sem])); obtain ⟨g1c, g1z, g1l⟩ := g1.out; clear b1)
    | (go_at_call 89; refine (HW.out _).mono ?_; rintro e1 w2 ⟨rfl, b2⟩; have B2 := Hb.mk (Below.on (B := w.heap.size) (a := w) (by repeat (first | exact B1.out | refine Below.drews ?_ | refine Below.drew ?_ | refine Below.alloc ?_ (by have hq_ := B1.out.size; first | omega | (simp <;> omega)) _ | refine Below.setCell ?_ (by have hq_ := B1.out.size; first | omega | (simp <;> omega)) _)) b2 (by have hq_ := B1.out.size; first | omega | (simp <;> omega))); have p0 := Hb.mk (At.re p0.out b2 (by first | exact p0c | simp [go_sem, p0c, p0l]) (by first | exact p0z | simp [go_sem, p0z, p0l])); obtain ⟨p0c, p0z, p0l⟩ := p0.out; have p1 := Hb.mk (At.re p1.out b2 (by first | exact p1c | simp [go_sem, p1c, p1l]) (by first | exact p1z | simp [go_sem, p1z, p1l])); obtain ⟨p1c, p1z, p1l⟩ := p1.out; have p2 := Hb.mk (At.re p2.out b2 (by first | exact p2c | simp [go_sem, p2c, p2l]) (by first | exact p2z | simp [go_sem, p2z, p2l])); obtain ⟨p2c, p2z, p2l⟩ := p2.out; have g0 := Hb.mk (At.re g0.out b2 (by first | exact g0c | simp [go_sem, g0c, g0l]) (by first | exact g0z | simp [go_sem, g0z, g0l])); obtain ⟨g0c, g0z, g0l⟩ := g0.out; have g1 := Hb.mk (At.re g1.out b2 (by first | exact g1c | simp [go_sem, g1c, g1l]) (by first | exact g1z | simp [go_sem, g1z, g1l])); obtain ⟨g1c, g1z, g1l⟩ := g1.out; clear b2)
    | (go_at_call 41; refine (HU.out _).mono ?_; rintro ee ww ⟨rfl, nn, rfl⟩))
  refine region_all (by kernel_rfl) (by kernel_rfl) (fun I F hne HB hcl => ?_)
  have f0 := keepF HB (p := ⟨w.heap.size, 0, none⟩) (v := .float .f32 x) (by first | exact p0c | simp [go_sem, p0c])
  have f1 := keepF HB (p := ⟨w.heap.size, 1, none⟩) (v := .float .f32 y) (by first | exact p1c | simp [go_sem, p1c])
  have f2 := keepF HB (p := ⟨w.heap.size, 2, none⟩) (v := .float .f32 z) (by first | exact p2c | simp [go_sem, p2c])
  have d0 := keepF HB (p := ⟨w.heap.size + 1, 0, none⟩) (v := .float .f32 0) (by first | exact g0c | simp [go_sem, g0c])
  have d1 := keepF HB (p := ⟨w.heap.size + 1, 1, none⟩) (v := .float .f32 0) (by first | exact g1c | simp [go_sem, g1c])
  have z0 := keepZ HB (p := ⟨w.heap.size + 1, 0, none⟩) (by first | exact g0l | simp [go_sem, g0l]) (by first | exact g0z | simp [go_sem, g0z])
  have z1 := keepZ HB (p := ⟨w.heap.size + 1, 1, none⟩) (by first | exact g1l | simp [go_sem, g1l]) (by first | exact g1z | simp [go_sem, g1z])
  have mA := MA.out
  have mB := MB.out
  have mC := MC.out
  repeat (quiet_step (first | (go_at_call_of 43 (Value.float .f32 z); exact callD hcl (KN.out _)) | (go_at_call 44; exact callD hcl (KR.out _))))
  refine wpQuiet_nil ?_
  intro _ hw'
  obtain ⟨iq, rfl⟩ := hw'
  clear hcl mA mB mC
  have E1 := Hb.mk (HB.out iq)
  have x0 := f0 iq
  have x1 := f1 iq
  have l0 := (Below.size E1.out)
  simp at l0
  go_wp2_with (first
    | (go_at_call 43; refine (KA.out _).mono ?_; rintro ee ww ⟨rfl, nn, rfl⟩)
    | (go_at_call 91; refine (KE.out _).mono ?_; rintro ee ww ⟨rfl, nn, rfl⟩)
    | (go_at_call 90; refine (KG.out _).mono ?_; rintro ee w5 ⟨rfl, b5⟩; have c0 := Hb.mk (At.keep b5 (p := ⟨w.heap.size + 1, 0, none⟩) (v := .float .f32 0) (by simp [go_sem, d0 iq]) (by simp [go_sem, z0 iq])); have c1 := Hb.mk (At.keep b5 (p := ⟨w.heap.size + 1, 1, none⟩) (v := .float .f32 0) (by simp [go_sem, d1 iq]) (by simp [go_sem, z1 iq])); obtain ⟨c0c, c0z, c0l⟩ := c0.out; obtain ⟨c1c, c1z, c1l⟩ := c1.out; have E5 := Hb.mk b5; clear b5))
  have y2 := B2.out.size
  exact bodyPost_ret (v := plT N E true) (by simp [results, Try.results66, go_sem, c0c, c1c]) rfl ⟨rfl, (by repeat (first | exact Below.refl _ _ | refine Below.on ?_ E5.out (by first | omega | (simp <;> omega)) | refine Below.on ?_ E1.out (by first | omega | (simp <;> omega)) | exact B2.out | refine Below.drews ?_ | refine Below.drew ?_ | refine Below.alloc ?_ (by first | omega | (simp <;> omega)) _ | refine Below.setCell ?_ (by first | omega | (simp <;> omega)) _))⟩
theorem l02From_no {x y z a b c : Nat} (h1 : Fl .f32 x a) (h2 : Fl .f32 y b) (h3 : Fl .f32 z c) (ho : placeOk x y z = false) (w : World) : Calls Try.prog 66 #[wy a b c] w (RS (plT 0 0 false) w) := by
  have KL := Hb.mk (l02Long_any h1 h2 h3)
  have KW := l02Ways_any h1 h2 h3
  have B0 := Hb.mk (Below.refl w.heap.size w)
  cases hW : finW x y z
  · rw [hW] at KW
    have HW := Hb.mk KW
    clear KW ho hW
    generalize longC x y z = L at *
    go_enter Try.func66, Try.ntmps66
    go_wp2_with (first
      | (go_at_call 38; refine (KL.out _).mono ?_; rintro e1 w1 ⟨r1, rfl, hr1, b1⟩; have B1 := Hb.mk (Below.on (B := w.heap.size) (a := w) (by repeat (first | exact B0.out | refine Below.drews ?_ | refine Below.drew ?_ | refine Below.alloc ?_ (by have hq_ := B0.out.size; first | omega | (simp <;> omega)) _ | refine Below.setCell ?_ (by have hq_ := B0.out.size; first | omega | (simp <;> omega)) _)) b1 (by have hq_ := B0.out.size; first | omega | (simp <;> omega))); have p0 := Hb.mk (At.keep b1 (p := ⟨w.heap.size, 0, none⟩) (v := .float .f32 a) (by simp [go_sem]) (by simp [go_sem])); obtain ⟨p0c, p0z, p0l⟩ := p0.out; have p1 := Hb.mk (At.keep b1 (p := ⟨w.heap.size, 1, none⟩) (v := .float .f32 b) (by simp [go_sem]) (by simp [go_sem])); obtain ⟨p1c, p1z, p1l⟩ := p1.out; have p2 := Hb.mk (At.keep b1 (p := ⟨w.heap.size, 2, none⟩) (v := .float .f32 c) (by simp [go_sem]) (by simp [go_sem])); obtain ⟨p2c, p2z, p2l⟩ := p2.out; have g0 := Hb.mk (At.keep b1 (p := ⟨w.heap.size + 1, 0, none⟩) (v := .float .f32 0) (by simp [go_sem]) (by simp [go_sem])); obtain ⟨g0c, g0z, g0l⟩ := g0.out; have g1 := Hb.mk (At.keep b1 (p := ⟨w.heap.size + 1, 1, none⟩) (v := .float .f32 0) (by simp [go_sem]) (by simp [go_sem])); obtain ⟨g1c, g1z, g1l⟩ := g1.out; clear b1)
      | (go_at_call 89; refine (HW.out _).mono ?_; rintro e1 w2 ⟨rfl, b2⟩; have B2 := Hb.mk (Below.on (B := w.heap.size) (a := w) (by repeat (first | exact B1.out | refine Below.drews ?_ | refine Below.drew ?_ | refine Below.alloc ?_ (by have hq_ := B1.out.size; first | omega | (simp <;> omega)) _ | refine Below.setCell ?_ (by have hq_ := B1.out.size; first | omega | (simp <;> omega)) _)) b2 (by have hq_ := B1.out.size; first | omega | (simp <;> omega))); have g0 := Hb.mk (At.re g0.out b2 (by first | exact g0c | simp [go_sem, g0c, g0l]) (by first | exact g0z | simp [go_sem, g0z, g0l])); obtain ⟨g0c, g0z, g0l⟩ := g0.out; have g1 := Hb.mk (At.re g1.out b2 (by first | exact g1c | simp [go_sem, g1c, g1l]) (by first | exact g1z | simp [go_sem, g1z, g1l])); obtain ⟨g1c, g1z, g1l⟩ := g1.out; clear b2))
    exact bodyPost_ret (v := plT 0 0 false) (by simp [results, Try.results66, go_sem, g0c, g1c]) rfl ⟨rfl, (by repeat (first | exact Below.refl _ _ | exact B2.out | refine Below.drews ?_ | refine Below.drew ?_ | refine Below.alloc ?_ (by first | omega | (simp <;> omega)) _ | refine Below.setCell ?_ (by first | omega | (simp <;> omega)) _))⟩
  · rw [hW] at KW
    have HW := Hb.mk KW
    have hab : (fin .f32 (longC x y z) && fcmp .gtr .f32 (longC x y z) 0) = false := by
      unfold placeOk longOk at ho
      rw [hW, Bool.true_and] at ho
      exact ho
    have HU : Hb (∀ r, Fl .f32 (longC x y z) r → ∀ w, Calls Try.prog 41 #[.float .f32 r] w (RB false w)) := ⟨fun r hr w => by have := l02Above_any hr w; rw [hab] at this; exact this⟩
    clear KW ho hW hab
    generalize longC x y z = L at *
    go_enter Try.func66, Try.ntmps66
    go_wp2_with (first
      | (go_at_call 38; refine (KL.out _).mono ?_; rintro e1 w1 ⟨r1, rfl, hr1, b1⟩; have B1 := Hb.mk (Below.on (B := w.heap.size) (a := w) (by repeat (first | exact B0.out | refine Below.drews ?_ | refine Below.drew ?_ | refine Below.alloc ?_ (by have hq_ := B0.out.size; first | omega | (simp <;> omega)) _ | refine Below.setCell ?_ (by have hq_ := B0.out.size; first | omega | (simp <;> omega)) _)) b1 (by have hq_ := B0.out.size; first | omega | (simp <;> omega))); have p0 := Hb.mk (At.keep b1 (p := ⟨w.heap.size, 0, none⟩) (v := .float .f32 a) (by simp [go_sem]) (by simp [go_sem])); obtain ⟨p0c, p0z, p0l⟩ := p0.out; have p1 := Hb.mk (At.keep b1 (p := ⟨w.heap.size, 1, none⟩) (v := .float .f32 b) (by simp [go_sem]) (by simp [go_sem])); obtain ⟨p1c, p1z, p1l⟩ := p1.out; have p2 := Hb.mk (At.keep b1 (p := ⟨w.heap.size, 2, none⟩) (v := .float .f32 c) (by simp [go_sem]) (by simp [go_sem])); obtain ⟨p2c, p2z, p2l⟩ := p2.out; have g0 := Hb.mk (At.keep b1 (p := ⟨w.heap.size + 1, 0, none⟩) (v := .float .f32 0) (by simp [go_sem]) (by simp [go_sem])); obtain ⟨g0c, g0z, g0l⟩ := g0.out; have g1 := Hb.mk (At.keep b1 (p := ⟨w.heap.size + 1, 1, none⟩) (v := .float .f32 0) (by simp [go_sem]) (by simp [go_sem])); obtain ⟨g1c, g1z, g1l⟩ := g1.out; clear b1)
      | (go_at_call 89; refine (HW.out _).mono ?_; rintro e1 w2 ⟨rfl, b2⟩; have B2 := Hb.mk (Below.on (B := w.heap.size) (a := w) (by repeat (first | exact B1.out | refine Below.drews ?_ | refine Below.drew ?_ | refine Below.alloc ?_ (by have hq_ := B1.out.size; first | omega | (simp <;> omega)) _ | refine Below.setCell ?_ (by have hq_ := B1.out.size; first | omega | (simp <;> omega)) _)) b2 (by have hq_ := B1.out.size; first | omega | (simp <;> omega))); have g0 := Hb.mk (At.re g0.out b2 (by first | exact g0c | simp [go_sem, g0c, g0l]) (by first | exact g0z | simp [go_sem, g0z, g0l])); obtain ⟨g0c, g0z, g0l⟩ := g0.out; have g1 := Hb.mk (At.re g1.out b2 (by first | exact g1c | simp [go_sem, g1c, g1l]) (by first | exact g1z | simp [go_sem, g1z, g1l])); obtain ⟨g1c, g1z, g1l⟩ := g1.out; clear b2)
      | (go_at_call 41; refine (HU.out _ hr1 _).mono ?_; rintro ee ww ⟨rfl, nn, rfl⟩))
    exact bodyPost_ret (v := plT 0 0 false) (by simp [results, Try.results66, go_sem, g0c, g1c]) rfl ⟨rfl, (by repeat (first | exact Below.refl _ _ | exact B2.out | refine Below.drews ?_ | refine Below.drew ?_ | refine Below.alloc ?_ (by first | omega | (simp <;> omega)) _ | refine Below.setCell ?_ (by first | omega | (simp <;> omega)) _))⟩
end Go.Proofs.Ytfmhbmehidlhiaa
