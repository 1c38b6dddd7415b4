/-
  OffWay, of the program and of its model; its exact law. No condition.
-/
import Derived.Test.YtfmhbmehidlhiaaOffN
import Derived.Test.YtfmhbmehidlhiaaLat0
import Derived.Test.YtfmhbmehidlhiaaPla
namespace Go.Proofs.Ytfmhbmehidlhiaa
open Go Go.RowKit
set_option maxRecDepth 100000

def offL (x y : Nat) : Nat := if fcmp .lss .f32 (fop .sub .f32 1065353216 (fop .mul .f32 x y)) 0 = true then 0 else fop .sub .f32 1065353216 (fop .mul .f32 x y)
theorem left_two {s : Nat} (hs : Ab .f32 s 1115684864) : (sv .f32 (fop .sub .f32 1065353216 (fop .mul .f32 s s)) < 0) ∨ (0 ≤ sv .f32 (fop .sub .f32 1065353216 (fop .mul .f32 s s)) ∧ sgn .f32 (fop .sub .f32 1065353216 (fop .mul .f32 s s)) = false) := by
  have hy : Nn .f32 (fop .mul .f32 s s) 1166016512 := ⟨mul_ab hs hs (by decide +kernel) (by decide +kernel), by rw [mul_sgn hs.fin hs.fin, Bool.xor_self]⟩
  have e := fop_sub_near (k := .f32) (x := 1065353216) (by decide +kernel) hy.ab.fin
  have s1 : sgn .f32 1065353216 = false := by decide +kernel
  by_cases hz : sv .f32 1065353216 - sv .f32 (fop .mul .f32 s s) < 0
  · left
    have g1 : sgn .f32 (fop .sub .f32 1065353216 (fop .mul .f32 s s)) = true := by
      rw [e, nearest_sgn, if_neg (by omega), decide_eq_true hz]
    have g2 : rung .f32 1 ≤ rung .f32 (fop .sub .f32 1065353216 (fop .mul .f32 s s)) := by
      rw [e]
      refine near_lb _ (by decide +kernel) ?_
      rw [show val FloatKind.f32.format (rung .f32 1) = 1 by decide +kernel]; omega
    have g3 := val_le (f := FloatKind.f32.format) g2
    rw [show val FloatKind.f32.format (rung .f32 1) = 1 by decide +kernel] at g3
    unfold sv; rw [g1, if_pos rfl]; omega
  · right
    have g1 : sgn .f32 (fop .sub .f32 1065353216 (fop .mul .f32 s s)) = false := by
      rw [e, nearest_sgn]
      split
      · rw [s1]; rfl
      · rw [decide_eq_false hz]
    exact ⟨sv_nn g1, g1⟩
theorem left_ab {s : Nat} (hs : Ab .f32 s 1115684864) : Ab .f32 (fop .mul .f32 s s) 1166016512 ∧ Ab .f32 (fop .sub .f32 1065353216 (fop .mul .f32 s s)) 1174405120 := by
  have hm : Ab .f32 (fop .mul .f32 s s) 1166016512 := mul_ab hs hs (by decide +kernel) (by decide +kernel)
  exact ⟨hm, sub_ab (a := 1065353216) ⟨Nat.le_refl _, by decide +kernel⟩ hm (by decide +kernel) (by decide +kernel)⟩
/-- what is left of 1: the greater of it and 0, as the builtin max tells it -/
theorem max_left {P : Program} (ts : Array TypeId) (t : TypeId) {s : Nat} (hs : Ab .f32 s 1115684864) (w : World) : (Builtin.max_ ts t #[.float .f32 (fop .sub .f32 1065353216 (fop .mul .f32 s s)), .float .f32 0]).run P w = .ok (.float .f32 (offL s s)) w := by
  have hl := (left_ab hs).2
  have ht := left_two hs
  unfold offL
  rw [(fcmp_fin hl.fin (fin_zero _)).1, sv_zero]
  have ho := order_fin hl.fin (fin_zero .f32)
  rw [sv_zero] at ho
  rcases ht with g4 | ⟨g4, g1⟩
  · rw [decide_eq_true g4, if_pos rfl]
    rw [Int.compare_eq_lt.2 g4] at ho
    simp [Builtin.max_, Builtin.max2, ho]
  · rw [decide_eq_false (by omega), if_neg (by decide)]
    obtain ⟨m, p, b1, _⟩ := read_fin hl.fin
    have hneg : (FloatKind.f32.decode (fop .sub .f32 1065353216 (fop .mul .f32 s s))).neg = false := by
      unfold FloatKind.decode
      rw [b1, g1]; rfl
    rcases Int.lt_or_eq_of_le g4 with h | h
    · rw [Int.compare_eq_gt.2 h] at ho
      simp [Builtin.max_, Builtin.max2, ho]
    · rw [← h, Int.compare_eq_eq.2 rfl] at ho
      simp [Builtin.max_, Builtin.max2, ho, hneg]
def offV (s : Nat) : Nat := angleC s (rootC (offL s s))
structure Offs (s : Nat) : Prop where
  m : Ab .f32 (fop .mul .f32 s s) 1166016512
  l : Ab .f32 (fop .sub .f32 1065353216 (fop .mul .f32 s s)) 1174405120
  q : fin .f32 (offL s s) = true ∧ Fl .f32 (offL s s) (offL s s)
  r : fin .f32 (rootC (offL s s)) = true ∧ Fl .f32 (rootC (offL s s)) (rootC (offL s s))
  v : fin .f32 (offV s) = true ∧ Fl .f32 (offV s) (offV s)
theorem Offs.of {s : Nat} (hs : Ab .f32 s 1115684864) : Offs s := by
  obtain ⟨hm, hl⟩ := left_ab hs
  have ht := left_two hs
  have hq : fin .f32 (offL s s) = true ∧ Fl .f32 (offL s s) (offL s s) := by
    unfold offL
    split
    · exact ⟨by decide +kernel, fl0⟩
    · exact ⟨hl.fin, fop_fl (op := .sub) hl.fin⟩
  have hsg : sgn .f32 (offL s s) = false := by
    unfold offL
    split
    · decide +kernel
    · rename_i h
      rw [(fcmp_fin hl.fin (fin_zero _)).1, sv_zero, decide_eq_true_eq] at h
      rcases ht with g | g
      · exact absurd g h
      · exact g.2
  have hr0 := root_nn hq.1 hsg
  have hr : fin .f32 (rootC (offL s s)) = true ∧ Fl .f32 (rootC (offL s s)) (rootC (offL s s)) := ⟨hr0.1, hr0.2.2⟩
  have hv := (angle_ab hs.fin hr.1).1
  exact ⟨hm, hl, hq, hr, hv.fin, Fl.not (fin_notN hv.fin) (wf_angle _ _)⟩
theorem l02Way_free {cn ce n e : Nat} (h1 : Fl .f32 cn n) (h2 : Fl .f32 ce e) (w : World) : Calls Try.prog 40 #[pl n e] w (RWB (fop .mul .f32 (cosC cn) (cosC ce)) (fop .mul .f32 (cosC cn) (sineC ce)) (sineC cn) w) := by
  go_enter Try.func40, Try.ntmps40
  have tk_a : True := trivial; have tk_b : True := trivial; have tk_c : True := trivial; have tk_d : True := trivial; have tk_m : True := trivial; have tk_n : True := trivial
  go_wp2_with (first | (go_at_call 63; clear tk_a; refine (l02Cosine_any h1 _).mono ?_; rintro ex w1 ⟨r1, n1, rfl, f1, rfl⟩) | (go_at_call 63; clear tk_b; refine (l02Cosine_any h2 _).mono ?_; rintro ex w1 ⟨r2, n2, rfl, f2, rfl⟩) | (go_at_call 54; clear tk_c; refine (l01Sine_any h2 _).mono ?_; rintro ex w1 ⟨r3, n3, rfl, f3, rfl⟩) | (go_at_call 54; clear tk_d; refine (l01Sine_any h1 _).mono ?_; rintro ex w1 ⟨r4, n4, rfl, f4, rfl⟩) | (clear tk_m; refine wpList_fop rfl rfl rfl rfl rfl f1 f2 ?_; intro m1 n_m h_m; simp only [Act.put, List.setIfInBounds_toArray, List.set_cons_succ, List.set_cons_zero]) | (clear tk_n; refine wpList_fop rfl rfl rfl rfl rfl f1 f3 ?_; intro m2 n_n h_n; simp only [Act.put, List.setIfInBounds_toArray, List.set_cons_succ, List.set_cons_zero]))
  exact bodyPost_ret (v := wy m1 m2 r4) (by simp [results, Try.results40, go_sem]) rfl ⟨_, _, _, rfl, h_m, h_n, f4, (by repeat (first | exact Below.refl _ _ | with_reducible assumption | refine Below.drews ?_ | refine Below.drew ?_ | refine Below.alloc ?_ (by simp <;> omega) _ | refine Below.setCell ?_ (by simp <;> omega) _))⟩
set_option maxHeartbeats 2000000 in
theorem sOff_no {n0 e0 n1 e1 n2 e2 c0 d0 c1 d1 : Nat} (h0 : Fl .f32 c0 n0) (g0 : Fl .f32 d0 e0) (h1 : Fl .f32 c1 n1) (g1 : Fl .f32 d1 e1) (KS : Hb (∀ w, Calls Try.prog 37 #[pl n0 e0, pl n1 e1, pl n2 e2] w (RS (flT2 0 false) w))) (w : World) : Calls Try.prog 15 #[pl n0 e0, pl n1 e1, pl n2 e2] w (RS (flT2 0 false) w) := by
  have B0 := Hb.mk (Below.refl w.heap.size w)
  go_enter Try.func15, Try.ntmps15
  go_wp2_with (first | (go_at_call 37; refine (KS.out _).mono ?_; rintro ex w1 ⟨rfl, b1⟩; have B1 := Hb.mk (Below.on (B := w.heap.size) (a := w) (by repeat (first | exact B0.out | refine Below.drews ?_ | refine Below.drew ?_ | refine Below.alloc ?_ (by have hq_ := B0.out.size; first | omega | (simp <;> omega)) _ | refine Below.setCell ?_ (by have hq_ := B0.out.size; first | omega | (simp <;> omega)) _)) b1 (by have hq_ := B0.out.size; first | omega | (simp <;> omega))); have p0 := Hb.mk (At.keep b1 (p := ⟨w.heap.size, 0, none⟩) (v := .float .f32 n0) (by simp [go_sem]) (by simp [go_sem])); obtain ⟨p0c, p0z, p0l⟩ := p0.out; have p1 := Hb.mk (At.keep b1 (p := ⟨w.heap.size, 1, none⟩) (v := .float .f32 e0) (by simp [go_sem]) (by simp [go_sem])); obtain ⟨p1c, p1z, p1l⟩ := p1.out; have q0 := Hb.mk (At.keep b1 (p := ⟨w.heap.size + 1, 0, none⟩) (v := .float .f32 n1) (by simp [go_sem]) (by simp [go_sem])); obtain ⟨q0c, q0z, q0l⟩ := q0.out; have q1 := Hb.mk (At.keep b1 (p := ⟨w.heap.size + 1, 1, none⟩) (v := .float .f32 e1) (by simp [go_sem]) (by simp [go_sem])); obtain ⟨q1c, q1z, q1l⟩ := q1.out; clear b1))
  have tk_a : True := trivial; have tk_b : True := trivial
  go_region_with (first | (go_at_call 40; clear tk_a; refine (l02Way_free h0 g0 _).mono ?_; rintro ex wa ⟨x, y, z, rfl, fx, fy, fz, b2⟩; have B2 := Hb.mk (Below.on (B := w.heap.size) (a := w) (by repeat (first | exact B1.out | refine Below.drews ?_ | refine Below.drew ?_ | refine Below.alloc ?_ (by have hq_ := B1.out.size; first | omega | (simp <;> omega)) _ | refine Below.setCell ?_ (by have hq_ := B1.out.size; first | omega | (simp <;> omega)) _)) b2 (by have hq_ := B1.out.size; first | omega | (simp <;> omega))); have q0 := Hb.mk (At.re q0.out b2 (by first | exact q0c | simp [go_sem, q0c, q0l]) (by first | exact q0z | simp [go_sem, q0z, q0l])); obtain ⟨q0c, q0z, q0l⟩ := q0.out; have q1 := Hb.mk (At.re q1.out b2 (by first | exact q1c | simp [go_sem, q1c, q1l]) (by first | exact q1z | simp [go_sem, q1z, q1l])); obtain ⟨q1c, q1z, q1l⟩ := q1.out; clear b2) | (go_at_call 40; clear tk_b; refine (l02Way_free h1 g1 _).mono ?_; rintro ex wb ⟨x', y', z', rfl, fx', fy', fz', b3⟩; have B3 := Hb.mk (Below.on (B := w.heap.size) (a := w) (by repeat (first | exact B2.out | refine Below.drews ?_ | refine Below.drew ?_ | refine Below.alloc ?_ (by have hq_ := B2.out.size; first | omega | (simp <;> omega)) _ | refine Below.setCell ?_ (by have hq_ := B2.out.size; first | omega | (simp <;> omega)) _)) b3 (by have hq_ := B2.out.size; first | omega | (simp <;> omega))); clear b3) | (go_at_call 39; refine (l02Cross_any fx fy fz fx' fy' fz' _).mono ?_; rintro ex wc ⟨u, v, t, rfl, fu, fv, ft, b4⟩; have B4 := Hb.mk (Below.on (B := w.heap.size) (a := w) (by repeat (first | exact B3.out | refine Below.drews ?_ | refine Below.drew ?_ | refine Below.alloc ?_ (by have hq_ := B3.out.size; first | omega | (simp <;> omega)) _ | refine Below.setCell ?_ (by have hq_ := B3.out.size; first | omega | (simp <;> omega)) _)) b4 (by have hq_ := B3.out.size; first | omega | (simp <;> omega))); clear b4) | (go_at_call 38; refine (l02Long_any fu fv ft _).mono ?_; rintro ex wd ⟨r, rfl, fr, b5⟩; have B5 := Hb.mk (Below.on (B := w.heap.size) (a := w) (by repeat (first | exact B4.out | refine Below.drews ?_ | refine Below.drew ?_ | refine Below.alloc ?_ (by have hq_ := B4.out.size; first | omega | (simp <;> omega)) _ | refine Below.setCell ?_ (by have hq_ := B4.out.size; first | omega | (simp <;> omega)) _)) b5 (by have hq_ := B4.out.size; first | omega | (simp <;> omega))); clear b5))
  all_goals
    go_wp2
    go_ret2
    exact ⟨rfl, (by repeat (first | with_reducible refine Below.setCell ?_ (by first | omega | (simp <;> omega)) _ | with_reducible refine Below.drews ?_ | with_reducible refine Below.drew ?_ | with_reducible refine Below.alloc ?_ (by first | omega | (simp <;> omega)) _ | with_reducible exact B5.out | with_reducible exact Below.refl _ _))⟩
set_option maxHeartbeats 4000000 in
theorem sOff_z {n0 e0 n1 e1 n2 e2 : Nat} (f0 : Fl .f32 n0 n0) (g0 : Fl .f32 e0 e0) (f1 : Fl .f32 n1 n1) (g1 : Fl .f32 e1 e1) (f2 : Fl .f32 n2 n2) (g2 : Fl .f32 e2 e2) (v0 : validC n0 e0 = true) (v1 : validC n1 e1 = true) (v2 : validC n2 e2 = true) (hg : fcmp .gtr .f32 (longC (crX (wxC n0 e0) (wyC n0 e0) (sineC n0) (wxC n1 e1) (wyC n1 e1) (sineC n1)) (crY (wxC n0 e0) (wyC n0 e0) (sineC n0) (wxC n1 e1) (wyC n1 e1) (sineC n1)) (crZ (wxC n0 e0) (wyC n0 e0) (sineC n0) (wxC n1 e1) (wyC n1 e1) (sineC n1))) 0 = false) (w : World) : Calls Try.prog 15 #[pl n0 e0, pl n1 e1, pl n2 e2] w (RS (flT2 0 false) w) := by
  obtain ⟨t0, u0⟩ := turns_of v0
  obtain ⟨t1, u1⟩ := turns_of v1
  obtain ⟨t2, u2⟩ := turns_of v2
  have wb0 := Wb.way t0 u0
  have wb1 := Wb.way t1 u1
  have wb2 := Wb.way t2 u2
  have sd := Sid.of wb0 wb1 wb2
  have hd : Ab .f32 (dotC (crX (wxC n0 e0) (wyC n0 e0) (sineC n0) (wxC n1 e1) (wyC n1 e1) (sineC n1)) (crY (wxC n0 e0) (wyC n0 e0) (sineC n0) (wxC n1 e1) (wyC n1 e1) (sineC n1)) (crZ (wxC n0 e0) (wyC n0 e0) (sineC n0) (wxC n1 e1) (wyC n1 e1) (sineC n1)) (crX (wxC n0 e0) (wyC n0 e0) (sineC n0) (wxC n1 e1) (wyC n1 e1) (sineC n1)) (crY (wxC n0 e0) (wyC n0 e0) (sineC n0) (wxC n1 e1) (wyC n1 e1) (sineC n1)) (crZ (wxC n0 e0) (wyC n0 e0) (sineC n0) (wxC n1 e1) (wyC n1 e1) (sineC n1))) 1166016512 := sd.cr.dot (m := 1149239296) (s := 1157627904) (t := 1166016512) sd.cr (by decide +kernel) (by decide +kernel) (by decide +kernel) (by decide +kernel) (by decide +kernel) (by decide +kernel)
  obtain ⟨lf, _, ll⟩ := sd.cr.long hd.fin
  have KD := Hb.mk (sSideOf_yes f0 g0 f1 g1 f2 g2 v0 v1 v2)
  have KW0 := Hb.mk (l02Way_any f0 g0 t0 u0)
  have KW1 := Hb.mk (l02Way_any f1 g1 t1 u1)
  have KC := Hb.mk (fun w => exactW (l02Cross_any wb0.fx wb0.fy wb0.fz wb1.fx wb1.fy wb1.fz w) sd.cr.ax.fin sd.cr.ay.fin sd.cr.az.fin)
  have KL := Hb.mk (fun w => exactB (l02Long_any sd.cr.fx sd.cr.fy sd.cr.fz w) lf)
  have LF := Hb.mk lf
  clear sd hd wb0 wb1 wb2 v0 v1 v2 t0 t1 t2 u0 u1 u2
  generalize (sideC (wxC n0 e0) (wyC n0 e0) (sineC n0) (wxC n1 e1) (wyC n1 e1) (sineC n1) (wxC n2 e2) (wyC n2 e2) (sineC n2)) = SI at *
  generalize (longC (crX (wxC n0 e0) (wyC n0 e0) (sineC n0) (wxC n1 e1) (wyC n1 e1) (sineC n1)) (crY (wxC n0 e0) (wyC n0 e0) (sineC n0) (wxC n1 e1) (wyC n1 e1) (sineC n1)) (crZ (wxC n0 e0) (wyC n0 e0) (sineC n0) (wxC n1 e1) (wyC n1 e1) (sineC n1))) = LO at *
  generalize crX (wxC n0 e0) (wyC n0 e0) (sineC n0) (wxC n1 e1) (wyC n1 e1) (sineC n1) = X at *
  generalize crY (wxC n0 e0) (wyC n0 e0) (sineC n0) (wxC n1 e1) (wyC n1 e1) (sineC n1) = Y at *
  generalize crZ (wxC n0 e0) (wyC n0 e0) (sineC n0) (wxC n1 e1) (wyC n1 e1) (sineC n1) = Z at *
  generalize wxC n0 e0 = a at *
  generalize wyC n0 e0 = b at *
  generalize sineC n0 = c at *
  generalize wxC n1 e1 = x at *
  generalize wyC n1 e1 = y at *
  generalize sineC n1 = z at *
  generalize wxC n2 e2 = p at *
  generalize wyC n2 e2 = q at *
  generalize sineC n2 = r at *
  have B0 := Hb.mk (Below.refl w.heap.size w)
  go_enter Try.func15, Try.ntmps15
  go_wp2_with (first | (go_at_call 37; refine (KD.out _).mono ?_; rintro ex w1 ⟨rfl, b1⟩; have B1 := Hb.mk (Below.on (B := w.heap.size) (a := w) (by repeat (first | exact B0.out | refine Below.drews ?_ | refine Below.drew ?_ | refine Below.alloc ?_ (by have hq_ := B0.out.size; first | omega | (simp <;> omega)) _ | refine Below.setCell ?_ (by have hq_ := B0.out.size; first | omega | (simp <;> omega)) _)) b1 (by have hq_ := B0.out.size; first | omega | (simp <;> omega))); have p0 := Hb.mk (At.keep b1 (p := ⟨w.heap.size, 0, none⟩) (v := .float .f32 n0) (by simp [go_sem]) (by simp [go_sem])); obtain ⟨p0c, p0z, p0l⟩ := p0.out; have p1 := Hb.mk (At.keep b1 (p := ⟨w.heap.size, 1, none⟩) (v := .float .f32 e0) (by simp [go_sem]) (by simp [go_sem])); obtain ⟨p1c, p1z, p1l⟩ := p1.out; have q0 := Hb.mk (At.keep b1 (p := ⟨w.heap.size + 1, 0, none⟩) (v := .float .f32 n1) (by simp [go_sem]) (by simp [go_sem])); obtain ⟨q0c, q0z, q0l⟩ := q0.out; have q1 := Hb.mk (At.keep b1 (p := ⟨w.heap.size + 1, 1, none⟩) (v := .float .f32 e1) (by simp [go_sem]) (by simp [go_sem])); obtain ⟨q1c, q1z, q1l⟩ := q1.out; clear b1))
  refine region_all (by kernel_rfl) (by kernel_rfl) (fun I F hne HB hcl => ?_)
  have k0 := keepF HB (p := ⟨w.heap.size, 0, none⟩) (v := .float .f32 n0) p0c
  have k1 := keepF HB (p := ⟨w.heap.size, 1, none⟩) (v := .float .f32 e0) p1c
  have k2 := keepF HB (p := ⟨w.heap.size + 1, 0, none⟩) (v := .float .f32 n1) q0c
  have k3 := keepF HB (p := ⟨w.heap.size + 1, 1, none⟩) (v := .float .f32 e1) q1c
  repeat (quiet_step (first | (go_at_call_of 40 (Value.agg #[Value.float .f32 n0, Value.float .f32 e0]); exact callS hcl (KW0.out _)) | (go_at_call_of 40 (Value.agg #[Value.float .f32 n1, Value.float .f32 e1]); exact callS hcl (KW1.out _)) | (go_at_call 39; exact callS hcl (KC.out _)) | (go_at_call 38; exact callS hcl (KL.out _))))
  refine wpQuiet_nil ?_
  intro _ hw'
  obtain ⟨iq, rfl⟩ := hw'
  clear hcl k0 k1 k2 k3
  have E1 := Hb.mk (HB.out iq)
  have y1 := B1.out.size
  have KV := Hb.mk (l02Above_any ll)
  rw [LF.out, hg] at KV
  go_wp2_with (first | (go_at_call 41; refine (KV.out _).mono ?_; rintro ex w' ⟨rfl, n1, rfl⟩))
  go_ret2
  exact ⟨rfl, (by repeat (first | with_reducible refine Below.setCell ?_ (by first | omega | (simp <;> omega)) _ | with_reducible refine Below.drews ?_ | with_reducible refine Below.drew ?_ | with_reducible refine Below.alloc ?_ (by first | omega | (simp <;> omega)) _ | with_reducible refine Below.on ?_ E1.out (by first | omega | (simp <;> omega)) | with_reducible exact B1.out | with_reducible exact Below.refl _ _))⟩
set_option maxHeartbeats 4000000 in
theorem sOff_yes {n0 e0 n1 e1 n2 e2 : Nat} (f0 : Fl .f32 n0 n0) (g0 : Fl .f32 e0 e0) (f1 : Fl .f32 n1 n1) (g1 : Fl .f32 e1 e1) (f2 : Fl .f32 n2 n2) (g2 : Fl .f32 e2 e2) (v0 : validC n0 e0 = true) (v1 : validC n1 e1 = true) (v2 : validC n2 e2 = true) (hg : fcmp .gtr .f32 (longC (crX (wxC n0 e0) (wyC n0 e0) (sineC n0) (wxC n1 e1) (wyC n1 e1) (sineC n1)) (crY (wxC n0 e0) (wyC n0 e0) (sineC n0) (wxC n1 e1) (wyC n1 e1) (sineC n1)) (crZ (wxC n0 e0) (wyC n0 e0) (sineC n0) (wxC n1 e1) (wyC n1 e1) (sineC n1))) 0 = true) (w : World) : Calls Try.prog 15 #[pl n0 e0, pl n1 e1, pl n2 e2] w (RS (flT2 (offV (fop .quo .f32 (sideC (wxC n0 e0) (wyC n0 e0) (sineC n0) (wxC n1 e1) (wyC n1 e1) (sineC n1) (wxC n2 e2) (wyC n2 e2) (sineC n2)) (longC (crX (wxC n0 e0) (wyC n0 e0) (sineC n0) (wxC n1 e1) (wyC n1 e1) (sineC n1)) (crY (wxC n0 e0) (wyC n0 e0) (sineC n0) (wxC n1 e1) (wyC n1 e1) (sineC n1)) (crZ (wxC n0 e0) (wyC n0 e0) (sineC n0) (wxC n1 e1) (wyC n1 e1) (sineC n1))))) true) w) := by
  obtain ⟨t0, u0⟩ := turns_of v0
  obtain ⟨t1, u1⟩ := turns_of v1
  obtain ⟨t2, u2⟩ := turns_of v2
  have wb0 := Wb.way t0 u0
  have wb1 := Wb.way t1 u1
  have wb2 := Wb.way t2 u2
  have sd := Sid.of wb0 wb1 wb2
  have hd : Ab .f32 (dotC (crX (wxC n0 e0) (wyC n0 e0) (sineC n0) (wxC n1 e1) (wyC n1 e1) (sineC n1)) (crY (wxC n0 e0) (wyC n0 e0) (sineC n0) (wxC n1 e1) (wyC n1 e1) (sineC n1)) (crZ (wxC n0 e0) (wyC n0 e0) (sineC n0) (wxC n1 e1) (wyC n1 e1) (sineC n1)) (crX (wxC n0 e0) (wyC n0 e0) (sineC n0) (wxC n1 e1) (wyC n1 e1) (sineC n1)) (crY (wxC n0 e0) (wyC n0 e0) (sineC n0) (wxC n1 e1) (wyC n1 e1) (sineC n1)) (crZ (wxC n0 e0) (wyC n0 e0) (sineC n0) (wxC n1 e1) (wyC n1 e1) (sineC n1))) 1166016512 := sd.cr.dot (m := 1149239296) (s := 1157627904) (t := 1166016512) sd.cr (by decide +kernel) (by decide +kernel) (by decide +kernel) (by decide +kernel) (by decide +kernel) (by decide +kernel)
  obtain ⟨lf, _, ll⟩ := sd.cr.long hd.fin
  have KD := Hb.mk (sSideOf_yes f0 g0 f1 g1 f2 g2 v0 v1 v2)
  have KW0 := Hb.mk (l02Way_any f0 g0 t0 u0)
  have KW1 := Hb.mk (l02Way_any f1 g1 t1 u1)
  have KC := Hb.mk (fun w => exactW (l02Cross_any wb0.fx wb0.fy wb0.fz wb1.fx wb1.fy wb1.fz w) sd.cr.ax.fin sd.cr.ay.fin sd.cr.az.fin)
  have KL := Hb.mk (fun w => exactB (l02Long_any sd.cr.fx sd.cr.fy sd.cr.fz w) lf)
  have LF := Hb.mk lf
  have hs := off_ab sd.cr wb2 hg lf
  change Ab .f32 (fop .quo .f32 (sideC (wxC n0 e0) (wyC n0 e0) (sineC n0) (wxC n1 e1) (wyC n1 e1) (sineC n1) (wxC n2 e2) (wyC n2 e2) (sineC n2)) (longC (crX (wxC n0 e0) (wyC n0 e0) (sineC n0) (wxC n1 e1) (wyC n1 e1) (sineC n1)) (crY (wxC n0 e0) (wyC n0 e0) (sineC n0) (wxC n1 e1) (wyC n1 e1) (sineC n1)) (crZ (wxC n0 e0) (wyC n0 e0) (sineC n0) (wxC n1 e1) (wyC n1 e1) (sineC n1)))) 1115684864 at hs
  have fS := sd.fs
  have O := Hb.mk (Offs.of hs)
  have nS := Hb.mk (fin_notN hs.fin)
  clear sd hd wb0 wb1 wb2 v0 v1 v2 t0 t1 t2 u0 u1 u2
  clear hs
  generalize (sideC (wxC n0 e0) (wyC n0 e0) (sineC n0) (wxC n1 e1) (wyC n1 e1) (sineC n1) (wxC n2 e2) (wyC n2 e2) (sineC n2)) = SI at *
  generalize (longC (crX (wxC n0 e0) (wyC n0 e0) (sineC n0) (wxC n1 e1) (wyC n1 e1) (sineC n1)) (crY (wxC n0 e0) (wyC n0 e0) (sineC n0) (wxC n1 e1) (wyC n1 e1) (sineC n1)) (crZ (wxC n0 e0) (wyC n0 e0) (sineC n0) (wxC n1 e1) (wyC n1 e1) (sineC n1))) = LO at *
  generalize crX (wxC n0 e0) (wyC n0 e0) (sineC n0) (wxC n1 e1) (wyC n1 e1) (sineC n1) = X at *
  generalize crY (wxC n0 e0) (wyC n0 e0) (sineC n0) (wxC n1 e1) (wyC n1 e1) (sineC n1) = Y at *
  generalize crZ (wxC n0 e0) (wyC n0 e0) (sineC n0) (wxC n1 e1) (wyC n1 e1) (sineC n1) = Z at *
  generalize wxC n0 e0 = a at *
  generalize wyC n0 e0 = b at *
  generalize sineC n0 = c at *
  generalize wxC n1 e1 = x at *
  generalize wyC n1 e1 = y at *
  generalize sineC n1 = z at *
  generalize wxC n2 e2 = p at *
  generalize wyC n2 e2 = q at *
  generalize sineC n2 = r at *
  have B0 := Hb.mk (Below.refl w.heap.size w)
  go_enter Try.func15, Try.ntmps15
  go_wp2_with (first | (go_at_call 37; refine (KD.out _).mono ?_; rintro ex w1 ⟨rfl, b1⟩; have B1 := Hb.mk (Below.on (B := w.heap.size) (a := w) (by repeat (first | exact B0.out | refine Below.drews ?_ | refine Below.drew ?_ | refine Below.alloc ?_ (by have hq_ := B0.out.size; first | omega | (simp <;> omega)) _ | refine Below.setCell ?_ (by have hq_ := B0.out.size; first | omega | (simp <;> omega)) _)) b1 (by have hq_ := B0.out.size; first | omega | (simp <;> omega))); have p0 := Hb.mk (At.keep b1 (p := ⟨w.heap.size, 0, none⟩) (v := .float .f32 n0) (by simp [go_sem]) (by simp [go_sem])); obtain ⟨p0c, p0z, p0l⟩ := p0.out; have p1 := Hb.mk (At.keep b1 (p := ⟨w.heap.size, 1, none⟩) (v := .float .f32 e0) (by simp [go_sem]) (by simp [go_sem])); obtain ⟨p1c, p1z, p1l⟩ := p1.out; have q0 := Hb.mk (At.keep b1 (p := ⟨w.heap.size + 1, 0, none⟩) (v := .float .f32 n1) (by simp [go_sem]) (by simp [go_sem])); obtain ⟨q0c, q0z, q0l⟩ := q0.out; have q1 := Hb.mk (At.keep b1 (p := ⟨w.heap.size + 1, 1, none⟩) (v := .float .f32 e1) (by simp [go_sem]) (by simp [go_sem])); obtain ⟨q1c, q1z, q1l⟩ := q1.out; clear b1))
  refine region_all (by kernel_rfl) (by kernel_rfl) (fun I F hne HB hcl => ?_)
  have k0 := keepF HB (p := ⟨w.heap.size, 0, none⟩) (v := .float .f32 n0) p0c
  have k1 := keepF HB (p := ⟨w.heap.size, 1, none⟩) (v := .float .f32 e0) p1c
  have k2 := keepF HB (p := ⟨w.heap.size + 1, 0, none⟩) (v := .float .f32 n1) q0c
  have k3 := keepF HB (p := ⟨w.heap.size + 1, 1, none⟩) (v := .float .f32 e1) q1c
  repeat (quiet_step (first | (go_at_call_of 40 (Value.agg #[Value.float .f32 n0, Value.float .f32 e0]); exact callS hcl (KW0.out _)) | (go_at_call_of 40 (Value.agg #[Value.float .f32 n1, Value.float .f32 e1]); exact callS hcl (KW1.out _)) | (go_at_call 39; exact callS hcl (KC.out _)) | (go_at_call 38; exact callS hcl (KL.out _))))
  refine wpQuiet_nil ?_
  intro _ hw'
  obtain ⟨iq, rfl⟩ := hw'
  clear hcl k0 k1 k2 k3
  have E1 := Hb.mk (HB.out iq)
  have y1 := B1.out.size
  have KV := Hb.mk (l02Above_any ll)
  rw [LF.out, hg] at KV
  have tk_a : True := trivial; have tk_b : True := trivial; have tk_c : True := trivial
  cases hl : fcmp .lss .f32 (fop .sub .f32 1065353216 (fop .mul .f32 (fop .quo .f32 SI LO) (fop .quo .f32 SI LO))) 0
  all_goals
    have eL := Hb.mk (show offL (fop .quo .f32 SI LO) (fop .quo .f32 SI LO) = _ by unfold offL; rw [hl])
    simp only [Bool.false_eq_true, if_false, if_true] at eL
    go_wp2_with (first | (go_at_call 41; refine (KV.out _).mono ?_; rintro ex w' ⟨rfl, n1, rfl⟩) | (clear tk_a; refine wpList_fop rfl rfl rfl rfl rfl fS ll ?_; intro s_ n_s h_s; obtain rfl := (h_s.word nS.out).symm; have h_q := h_s; simp only [Act.put, List.setIfInBounds_toArray, List.set_cons_succ, List.set_cons_zero]) | (clear tk_b; refine wpList_fop rfl rfl rfl rfl rfl h_s h_s ?_; intro m_ n_m h_m; simp only [Act.put, List.setIfInBounds_toArray, List.set_cons_succ, List.set_cons_zero]) | (clear tk_c; refine wpList_fop rfl rfl rfl rfl rfl (by first | (with_reducible assumption) | (with_reducible exact Fl.ofInt _ _) | exact Fl.not (by decide +kernel) (by decide +kernel)) h_m ?_; intro l_ n_l h_l; simp only [Act.put, List.setIfInBounds_toArray, List.set_cons_succ, List.set_cons_zero]) | (refine wpList_fcmp rfl rfl rfl rfl rfl (by first | (with_reducible assumption) | (with_reducible exact Fl.ofInt _ _) | exact Fl.not (by decide +kernel) (by decide +kernel)) (by first | (with_reducible assumption) | (with_reducible exact Fl.ofInt _ _) | exact Fl.not (by decide +kernel) (by decide +kernel)) ?_; simp only [Act.put, List.setIfInBounds_toArray, List.set_cons_succ, List.set_cons_zero, hl]) | (go_at_call 44; refine (l01Sqrt_any (by first | exact h_l | exact fl0) _).mono ?_; rintro ex w3 ⟨rr, n3, rfl, h_r, rfl⟩) | (go_at_call 43; refine (l01Angle_any h_s h_r _).mono ?_; rw [← eL.out]; rintro ex w4 ⟨rv, n4, rfl, h_v, rfl⟩; obtain rfl := (h_v.word (fin_notN O.out.v.1)).symm) | (go_at_call 42; refine (l02Number_yes h_v O.out.v.1 _).mono ?_; rintro ex w5 ⟨r5, n5, rfl, hr5, rfl⟩; obtain rfl := (hr5.word (fin_notN O.out.v.1)).symm))
    go_ret2
    exact ⟨rfl, (by repeat (first | with_reducible refine Below.setCell ?_ (by first | omega | (simp <;> omega)) _ | with_reducible refine Below.drews ?_ | with_reducible refine Below.drew ?_ | with_reducible refine Below.alloc ?_ (by first | omega | (simp <;> omega)) _ | with_reducible refine Below.on ?_ E1.out (by first | omega | (simp <;> omega)) | with_reducible exact B1.out | with_reducible exact Below.refl _ _))⟩
theorem iOff_no0 {n0 e0 n1 e1 n2 e2 cn ce : Nat} (f0 : Fl .f32 cn n0) (h0 : Fl .f32 ce e0) (v0 : validC cn ce = false) (w : World) : Calls Try.prog 16 #[pl n0 e0, pl n1 e1, pl n2 e2] w (RS (flT2 0 false) w) := by
  have KS := Hb.mk (fun (g : Nat) => ws3_no0 (g := g) (n0 := n0) (e0 := e0) (n1 := n1) (e1 := e1) (n2 := n2) (e2 := e2) f0 h0 v0)
  clear v0
  have B0 := Hb.mk (Below.refl w.heap.size w)
  go_enter Try.func16, Try.ntmps16
  go_wp2_with (first | (go_at_call 45; refine (KS.out _ _ (by simp [go_sem]) (by simp [go_sem]) (by simp [go_sem]) (by simp [go_sem]) (by simp [go_sem]) (by simp [go_sem])).mono ?_; rintro ex w1 ⟨rfl, b1⟩; have B1 := Hb.mk (Below.on (B := w.heap.size) (a := w) (by repeat (first | exact B0.out | refine Below.drews ?_ | refine Below.drew ?_ | refine Below.alloc ?_ (by have hq_ := B0.out.size; first | omega | (simp <;> omega)) _ | refine Below.setCell ?_ (by have hq_ := B0.out.size; first | omega | (simp <;> omega)) _)) b1 (by have hq_ := B0.out.size; first | omega | (simp <;> omega))); clear b1))
  go_ret2
  exact ⟨rfl, (by repeat (first | exact Below.refl _ _ | exact B1.out | refine Below.drews ?_ | refine Below.drew ?_ | refine Below.alloc ?_ (by first | omega | (simp <;> omega)) _ | refine Below.setCell ?_ (by first | omega | (simp <;> omega)) _))⟩
theorem iOff_no1 {n0 e0 n1 e1 n2 e2 cn ce : Nat} (f0 : Fl .f32 n0 n0) (h0 : Fl .f32 e0 e0) (f1 : Fl .f32 cn n1) (h1 : Fl .f32 ce e1) (v0 : validC n0 e0 = true) (v1 : validC cn ce = false) (w : World) : Calls Try.prog 16 #[pl n0 e0, pl n1 e1, pl n2 e2] w (RS (flT2 0 false) w) := by
  have KS := Hb.mk (fun (g : Nat) => ws3_no1 (g := g) (n0 := n0) (e0 := e0) (n1 := n1) (e1 := e1) (n2 := n2) (e2 := e2) f0 h0 f1 h1 v0 v1)
  clear v0 v1
  have B0 := Hb.mk (Below.refl w.heap.size w)
  go_enter Try.func16, Try.ntmps16
  go_wp2_with (first | (go_at_call 45; refine (KS.out _ _ (by simp [go_sem]) (by simp [go_sem]) (by simp [go_sem]) (by simp [go_sem]) (by simp [go_sem]) (by simp [go_sem])).mono ?_; rintro ex w1 ⟨rfl, b1⟩; have B1 := Hb.mk (Below.on (B := w.heap.size) (a := w) (by repeat (first | exact B0.out | refine Below.drews ?_ | refine Below.drew ?_ | refine Below.alloc ?_ (by have hq_ := B0.out.size; first | omega | (simp <;> omega)) _ | refine Below.setCell ?_ (by have hq_ := B0.out.size; first | omega | (simp <;> omega)) _)) b1 (by have hq_ := B0.out.size; first | omega | (simp <;> omega))); clear b1))
  go_ret2
  exact ⟨rfl, (by repeat (first | exact Below.refl _ _ | exact B1.out | refine Below.drews ?_ | refine Below.drew ?_ | refine Below.alloc ?_ (by first | omega | (simp <;> omega)) _ | refine Below.setCell ?_ (by first | omega | (simp <;> omega)) _))⟩
theorem iOff_no2 {n0 e0 n1 e1 n2 e2 cn ce : Nat} (f0 : Fl .f32 n0 n0) (h0 : Fl .f32 e0 e0) (f1 : Fl .f32 n1 n1) (h1 : Fl .f32 e1 e1) (f2 : Fl .f32 cn n2) (h2 : Fl .f32 ce e2) (v0 : validC n0 e0 = true) (v1 : validC n1 e1 = true) (v2 : validC cn ce = false) (w : World) : Calls Try.prog 16 #[pl n0 e0, pl n1 e1, pl n2 e2] w (RS (flT2 0 false) w) := by
  have KS := Hb.mk (fun (g : Nat) => ws3_no2 (g := g) (n0 := n0) (e0 := e0) (n1 := n1) (e1 := e1) (n2 := n2) (e2 := e2) f0 h0 f1 h1 f2 h2 v0 v1 v2)
  clear v0 v1 v2
  have B0 := Hb.mk (Below.refl w.heap.size w)
  go_enter Try.func16, Try.ntmps16
  go_wp2_with (first | (go_at_call 45; refine (KS.out _ _ (by simp [go_sem]) (by simp [go_sem]) (by simp [go_sem]) (by simp [go_sem]) (by simp [go_sem]) (by simp [go_sem])).mono ?_; rintro ex w1 ⟨rfl, b1⟩; have B1 := Hb.mk (Below.on (B := w.heap.size) (a := w) (by repeat (first | exact B0.out | refine Below.drews ?_ | refine Below.drew ?_ | refine Below.alloc ?_ (by have hq_ := B0.out.size; first | omega | (simp <;> omega)) _ | refine Below.setCell ?_ (by have hq_ := B0.out.size; first | omega | (simp <;> omega)) _)) b1 (by have hq_ := B0.out.size; first | omega | (simp <;> omega))); clear b1))
  go_ret2
  exact ⟨rfl, (by repeat (first | exact Below.refl _ _ | exact B1.out | refine Below.drews ?_ | refine Below.drew ?_ | refine Below.alloc ?_ (by first | omega | (simp <;> omega)) _ | refine Below.setCell ?_ (by first | omega | (simp <;> omega)) _))⟩
set_option maxHeartbeats 4000000 in
theorem iOff_z {n0 e0 n1 e1 n2 e2 : Nat} (f0 : Fl .f32 n0 n0) (g0 : Fl .f32 e0 e0) (f1 : Fl .f32 n1 n1) (g1 : Fl .f32 e1 e1) (f2 : Fl .f32 n2 n2) (g2 : Fl .f32 e2 e2) (v0 : validC n0 e0 = true) (v1 : validC n1 e1 = true) (v2 : validC n2 e2 = true) (hg : fcmp .leq .f32 (longC (crX (wxC n0 e0) (wyC n0 e0) (sineC n0) (wxC n1 e1) (wyC n1 e1) (sineC n1)) (crY (wxC n0 e0) (wyC n0 e0) (sineC n0) (wxC n1 e1) (wyC n1 e1) (sineC n1)) (crZ (wxC n0 e0) (wyC n0 e0) (sineC n0) (wxC n1 e1) (wyC n1 e1) (sineC n1))) 0 = true) (w : World) : Calls Try.prog 16 #[pl n0 e0, pl n1 e1, pl n2 e2] w (RS (flT2 0 false) w) := by
  have KS := Hb.mk (fun (g : Nat) => ws3 (g := g) f0 g0 f1 g1 f2 g2 v0 v1 v2)
  obtain ⟨t0, u0⟩ := turns_of v0
  obtain ⟨t1, u1⟩ := turns_of v1
  obtain ⟨t2, u2⟩ := turns_of v2
  have wb0 := Wb.way t0 u0
  have wb1 := Wb.way t1 u1
  have wb2 := Wb.way t2 u2
  have sd := Sid.of wb0 wb1 wb2
  have hd : Ab .f32 (dotC (crX (wxC n0 e0) (wyC n0 e0) (sineC n0) (wxC n1 e1) (wyC n1 e1) (sineC n1)) (crY (wxC n0 e0) (wyC n0 e0) (sineC n0) (wxC n1 e1) (wyC n1 e1) (sineC n1)) (crZ (wxC n0 e0) (wyC n0 e0) (sineC n0) (wxC n1 e1) (wyC n1 e1) (sineC n1)) (crX (wxC n0 e0) (wyC n0 e0) (sineC n0) (wxC n1 e1) (wyC n1 e1) (sineC n1)) (crY (wxC n0 e0) (wyC n0 e0) (sineC n0) (wxC n1 e1) (wyC n1 e1) (sineC n1)) (crZ (wxC n0 e0) (wyC n0 e0) (sineC n0) (wxC n1 e1) (wyC n1 e1) (sineC n1))) 1166016512 := sd.cr.dot (m := 1149239296) (s := 1157627904) (t := 1166016512) sd.cr (by decide +kernel) (by decide +kernel) (by decide +kernel) (by decide +kernel) (by decide +kernel) (by decide +kernel)
  obtain ⟨lf, _, ll⟩ := sd.cr.long hd.fin
  have KC := Hb.mk (fun w => exactW (wayCross_any wb0.fx wb0.fy wb0.fz wb1.fx wb1.fy wb1.fz w) sd.cr.ax.fin sd.cr.ay.fin sd.cr.az.fin)
  have KL := Hb.mk (fun w => exactB (wayLong_any sd.cr.fx sd.cr.fy sd.cr.fz w) lf)
  clear sd hd wb0 wb1 wb2 v0 v1 v2 t0 t1 t2 u0 u1 u2 lf
  generalize (sideC (wxC n0 e0) (wyC n0 e0) (sineC n0) (wxC n1 e1) (wyC n1 e1) (sineC n1) (wxC n2 e2) (wyC n2 e2) (sineC n2)) = SI at *
  generalize (longC (crX (wxC n0 e0) (wyC n0 e0) (sineC n0) (wxC n1 e1) (wyC n1 e1) (sineC n1)) (crY (wxC n0 e0) (wyC n0 e0) (sineC n0) (wxC n1 e1) (wyC n1 e1) (sineC n1)) (crZ (wxC n0 e0) (wyC n0 e0) (sineC n0) (wxC n1 e1) (wyC n1 e1) (sineC n1))) = LO at *
  generalize crX (wxC n0 e0) (wyC n0 e0) (sineC n0) (wxC n1 e1) (wyC n1 e1) (sineC n1) = X at *
  generalize crY (wxC n0 e0) (wyC n0 e0) (sineC n0) (wxC n1 e1) (wyC n1 e1) (sineC n1) = Y at *
  generalize crZ (wxC n0 e0) (wyC n0 e0) (sineC n0) (wxC n1 e1) (wyC n1 e1) (sineC n1) = Z at *
  generalize wxC n0 e0 = a at *
  generalize wyC n0 e0 = b at *
  generalize sineC n0 = c at *
  generalize wxC n1 e1 = x at *
  generalize wyC n1 e1 = y at *
  generalize sineC n1 = z at *
  generalize wxC n2 e2 = p at *
  generalize wyC n2 e2 = q at *
  generalize sineC n2 = r at *
  have B0 := Hb.mk (Below.refl w.heap.size w)
  go_enter Try.func16, Try.ntmps16
  go_wp2_with (first | (go_at_call 45; refine (KS.out _ _ (by simp [go_sem]) (by simp [go_sem]) (by simp [go_sem]) (by simp [go_sem]) (by simp [go_sem]) (by simp [go_sem])).mono ?_; rintro ex w1 ⟨rfl, b1, l1, k1⟩; have B1 := Hb.mk (Below.on (B := w.heap.size) (a := w) (by repeat (first | exact B0.out | refine Below.drews ?_ | refine Below.drew ?_ | refine Below.alloc ?_ (by have hq_ := B0.out.size; first | omega | (simp <;> omega)) _ | refine Below.setCell ?_ (by have hq_ := B0.out.size; first | omega | (simp <;> omega)) _)) b1 (by have hq_ := B0.out.size; first | omega | (simp <;> omega))); have q0 := k1 0 (by decide); have q1 := k1 1 (by decide); have q2 := k1 2 (by decide); have q3 := k1 3 (by decide); have q4 := k1 4 (by decide); have q5 := k1 5 (by decide); have q6 := k1 6 (by decide); have q7 := k1 7 (by decide); have q8 := k1 8 (by decide); simp at q0 q1 q2 q3 q4 q5 q6 q7 q8 l1; clear k1 b1))
  have c_v_0_w1 := q0
  have c_v_1_w1 := q1
  have c_v_2_w1 := q2
  have c_v_3_w1 := q3
  have c_v_4_w1 := q4
  have c_v_5_w1 := q5
  have c_v_6_w1 := q6
  have c_v_7_w1 := q7
  have c_v_8_w1 := q8
  have l_v_w1 : w.heap.size + 4 < w1.heap.size := block_lt_of_cell q0
  clear q0 q1 q2 q3 q4 q5 q6 q7 q8
  refine region_fresh (o := ?oln) 7 (by kernel_rfl) (by kernel_rfl) (by kernel_rfl) rfl rfl rfl (fun a w => ?hAln) (fun Iln Fln hneln HBln => ?hln)
  case hAln =>
    go_simp
    try rfl
  have kc_v_0_w1 := keepF HBln (p := ⟨w.heap.size + 4, 0, none⟩) (v := Value.float .f32 a) c_v_0_w1
  have kc_v_1_w1 := keepF HBln (p := ⟨w.heap.size + 4, 1, none⟩) (v := Value.float .f32 b) c_v_1_w1
  have kc_v_2_w1 := keepF HBln (p := ⟨w.heap.size + 4, 2, none⟩) (v := Value.float .f32 c) c_v_2_w1
  have kc_v_3_w1 := keepF HBln (p := ⟨w.heap.size + 4, 3, none⟩) (v := Value.float .f32 x) c_v_3_w1
  have kc_v_4_w1 := keepF HBln (p := ⟨w.heap.size + 4, 4, none⟩) (v := Value.float .f32 y) c_v_4_w1
  have kc_v_5_w1 := keepF HBln (p := ⟨w.heap.size + 4, 5, none⟩) (v := Value.float .f32 z) c_v_5_w1
  have kc_v_6_w1 := keepF HBln (p := ⟨w.heap.size + 4, 6, none⟩) (v := Value.float .f32 p) c_v_6_w1
  have kc_v_7_w1 := keepF HBln (p := ⟨w.heap.size + 4, 7, none⟩) (v := Value.float .f32 q) c_v_7_w1
  have kc_v_8_w1 := keepF HBln (p := ⟨w.heap.size + 4, 8, none⟩) (v := Value.float .f32 r) c_v_8_w1
  simp only [List.take_succ_cons, List.take_zero, List.drop_succ_cons, List.drop_zero]
  repeat (refine lex_step (fun K hK => ?_); go_simp; first | (refine hK _ ?_; clear hK K) | (apply Exists.intro; refine ⟨fun _ => ?_, hK _ ?_⟩; (first | (go_at_call 46; exact callR (KC.out _))); clear hK K))
  refine lex_nil ?_
  intro iln Vln hbln
  have bFln : Below (Fln iln).heap.size (Fln iln) Vln := Below.on ((Below.refl _ _).alloc (Nat.le_refl _) _) hbln (by simp)
  have c_v_0_Vln := Below.keep bFln (kc_v_0_w1 iln)
  have c_v_1_Vln := Below.keep bFln (kc_v_1_w1 iln)
  have c_v_2_Vln := Below.keep bFln (kc_v_2_w1 iln)
  have c_v_3_Vln := Below.keep bFln (kc_v_3_w1 iln)
  have c_v_4_Vln := Below.keep bFln (kc_v_4_w1 iln)
  have c_v_5_Vln := Below.keep bFln (kc_v_5_w1 iln)
  have c_v_6_Vln := Below.keep bFln (kc_v_6_w1 iln)
  have c_v_7_Vln := Below.keep bFln (kc_v_7_w1 iln)
  have c_v_8_Vln := Below.keep bFln (kc_v_8_w1 iln)
  have l_v_Vln : w.heap.size + 4 < Vln.heap.size := block_lt_of_cell c_v_0_Vln
  have mv_ln : w.heap.size + 4 < (Fln iln).heap.size := block_lt_of_cell (kc_v_0_w1 iln)
  have nev_ln : w.heap.size + 4 ≠ (Fln iln).heap.size := by omega
  have nfv_ln : (Fln iln).heap.size ≠ w.heap.size + 4 := by omega
  have c_ln_0_Vln := Below.keep hbln (p := ⟨(Fln iln).heap.size, 0, none⟩) (v := Value.float .f32 0) (by simp)
  have z_ln_0_Vln : Vln.frozen? ⟨(Fln iln).heap.size, 0, none⟩ = false := by rw [hbln.frozen (by simp)]; simp
  have c_ln_1_Vln := Below.keep hbln (p := ⟨(Fln iln).heap.size, 1, none⟩) (v := Value.float .f32 0) (by simp)
  have z_ln_1_Vln : Vln.frozen? ⟨(Fln iln).heap.size, 1, none⟩ = false := by rw [hbln.frozen (by simp)]; simp
  have c_ln_2_Vln := Below.keep hbln (p := ⟨(Fln iln).heap.size, 2, none⟩) (v := Value.float .f32 0) (by simp)
  have z_ln_2_Vln : Vln.frozen? ⟨(Fln iln).heap.size, 2, none⟩ = false := by rw [hbln.frozen (by simp)]; simp
  have l_ln_Vln : (Fln iln).heap.size < Vln.heap.size := block_lt_of_cell c_ln_0_Vln
  have bsln := B1.out.size
  have hsln := (HBln.out iln).size
  have qln : w.heap.size ≤ (Fln iln).heap.size := by omega
  have B_Vln := Hb.mk (Below.on B1.out (Below.on (HBln.out iln) bFln hsln) bsln)
  generalize (Fln iln).heap.size = Nln at *
  clear HBln hbln bFln bsln hsln c_v_0_w1 c_v_1_w1 c_v_2_w1 c_v_3_w1 c_v_4_w1 c_v_5_w1 c_v_6_w1 c_v_7_w1 c_v_8_w1 kc_v_0_w1 kc_v_1_w1 kc_v_2_w1 kc_v_3_w1 kc_v_4_w1 kc_v_5_w1 kc_v_6_w1 kc_v_7_w1 kc_v_8_w1 l_v_w1
  go_wp2_with (go_at_call 47; fail)
  generalize hW_U2 : World.setCell (World.setCell (World.setCell (Vln) ⟨Nln, 0, none⟩ (Value.float .f32 X)) ⟨Nln, 1, none⟩ (Value.float .f32 Y)) ⟨Nln, 2, none⟩ (Value.float .f32 Z) = U2
  have c_v_0_U2 : World.cell? U2 ⟨w.heap.size + 4, 0, none⟩ = some (Value.float .f32 a) := by rw [← hW_U2]; first | (simp [go_sem, c_v_0_Vln]; done) | (simp [go_sem, c_v_0_Vln, nev_ln, nfv_ln]; done) | exact (World.cell?_alloc_lt _ _ _ (by omega)).trans c_v_0_Vln | (simp [go_sem, World.cell?_alloc_lt, c_v_0_Vln, nev_ln, nfv_ln]; done)
  have c_v_1_U2 : World.cell? U2 ⟨w.heap.size + 4, 1, none⟩ = some (Value.float .f32 b) := by rw [← hW_U2]; first | (simp [go_sem, c_v_1_Vln]; done) | (simp [go_sem, c_v_1_Vln, nev_ln, nfv_ln]; done) | exact (World.cell?_alloc_lt _ _ _ (by omega)).trans c_v_1_Vln | (simp [go_sem, World.cell?_alloc_lt, c_v_1_Vln, nev_ln, nfv_ln]; done)
  have c_v_2_U2 : World.cell? U2 ⟨w.heap.size + 4, 2, none⟩ = some (Value.float .f32 c) := by rw [← hW_U2]; first | (simp [go_sem, c_v_2_Vln]; done) | (simp [go_sem, c_v_2_Vln, nev_ln, nfv_ln]; done) | exact (World.cell?_alloc_lt _ _ _ (by omega)).trans c_v_2_Vln | (simp [go_sem, World.cell?_alloc_lt, c_v_2_Vln, nev_ln, nfv_ln]; done)
  have c_v_3_U2 : World.cell? U2 ⟨w.heap.size + 4, 3, none⟩ = some (Value.float .f32 x) := by rw [← hW_U2]; first | (simp [go_sem, c_v_3_Vln]; done) | (simp [go_sem, c_v_3_Vln, nev_ln, nfv_ln]; done) | exact (World.cell?_alloc_lt _ _ _ (by omega)).trans c_v_3_Vln | (simp [go_sem, World.cell?_alloc_lt, c_v_3_Vln, nev_ln, nfv_ln]; done)
  have c_v_4_U2 : World.cell? U2 ⟨w.heap.size + 4, 4, none⟩ = some (Value.float .f32 y) := by rw [← hW_U2]; first | (simp [go_sem, c_v_4_Vln]; done) | (simp [go_sem, c_v_4_Vln, nev_ln, nfv_ln]; done) | exact (World.cell?_alloc_lt _ _ _ (by omega)).trans c_v_4_Vln | (simp [go_sem, World.cell?_alloc_lt, c_v_4_Vln, nev_ln, nfv_ln]; done)
  have c_v_5_U2 : World.cell? U2 ⟨w.heap.size + 4, 5, none⟩ = some (Value.float .f32 z) := by rw [← hW_U2]; first | (simp [go_sem, c_v_5_Vln]; done) | (simp [go_sem, c_v_5_Vln, nev_ln, nfv_ln]; done) | exact (World.cell?_alloc_lt _ _ _ (by omega)).trans c_v_5_Vln | (simp [go_sem, World.cell?_alloc_lt, c_v_5_Vln, nev_ln, nfv_ln]; done)
  have c_v_6_U2 : World.cell? U2 ⟨w.heap.size + 4, 6, none⟩ = some (Value.float .f32 p) := by rw [← hW_U2]; first | (simp [go_sem, c_v_6_Vln]; done) | (simp [go_sem, c_v_6_Vln, nev_ln, nfv_ln]; done) | exact (World.cell?_alloc_lt _ _ _ (by omega)).trans c_v_6_Vln | (simp [go_sem, World.cell?_alloc_lt, c_v_6_Vln, nev_ln, nfv_ln]; done)
  have c_v_7_U2 : World.cell? U2 ⟨w.heap.size + 4, 7, none⟩ = some (Value.float .f32 q) := by rw [← hW_U2]; first | (simp [go_sem, c_v_7_Vln]; done) | (simp [go_sem, c_v_7_Vln, nev_ln, nfv_ln]; done) | exact (World.cell?_alloc_lt _ _ _ (by omega)).trans c_v_7_Vln | (simp [go_sem, World.cell?_alloc_lt, c_v_7_Vln, nev_ln, nfv_ln]; done)
  have c_v_8_U2 : World.cell? U2 ⟨w.heap.size + 4, 8, none⟩ = some (Value.float .f32 r) := by rw [← hW_U2]; first | (simp [go_sem, c_v_8_Vln]; done) | (simp [go_sem, c_v_8_Vln, nev_ln, nfv_ln]; done) | exact (World.cell?_alloc_lt _ _ _ (by omega)).trans c_v_8_Vln | (simp [go_sem, World.cell?_alloc_lt, c_v_8_Vln, nev_ln, nfv_ln]; done)
  have l_v_U2 : w.heap.size + 4 < U2.heap.size := block_lt_of_cell c_v_0_U2
  have c_ln_0_U2 : World.cell? U2 ⟨Nln, 0, none⟩ = some (Value.float .f32 X) := by rw [← hW_U2]; first | (simp [go_sem, c_ln_0_Vln]; done) | (simp [go_sem, c_ln_0_Vln, nev_ln, nfv_ln]; done) | exact (World.cell?_alloc_lt _ _ _ (by omega)).trans c_ln_0_Vln | (simp [go_sem, World.cell?_alloc_lt, c_ln_0_Vln, nev_ln, nfv_ln]; done)
  have z_ln_0_U2 : World.frozen? U2 ⟨Nln, 0, none⟩ = false := by rw [← hW_U2]; first | (simp [go_sem, z_ln_0_Vln]; done) | (simp [go_sem, z_ln_0_Vln, nev_ln, nfv_ln]; done)
  have c_ln_1_U2 : World.cell? U2 ⟨Nln, 1, none⟩ = some (Value.float .f32 Y) := by rw [← hW_U2]; first | (simp [go_sem, c_ln_1_Vln]; done) | (simp [go_sem, c_ln_1_Vln, nev_ln, nfv_ln]; done) | exact (World.cell?_alloc_lt _ _ _ (by omega)).trans c_ln_1_Vln | (simp [go_sem, World.cell?_alloc_lt, c_ln_1_Vln, nev_ln, nfv_ln]; done)
  have z_ln_1_U2 : World.frozen? U2 ⟨Nln, 1, none⟩ = false := by rw [← hW_U2]; first | (simp [go_sem, z_ln_1_Vln]; done) | (simp [go_sem, z_ln_1_Vln, nev_ln, nfv_ln]; done)
  have c_ln_2_U2 : World.cell? U2 ⟨Nln, 2, none⟩ = some (Value.float .f32 Z) := by rw [← hW_U2]; first | (simp [go_sem, c_ln_2_Vln]; done) | (simp [go_sem, c_ln_2_Vln, nev_ln, nfv_ln]; done) | exact (World.cell?_alloc_lt _ _ _ (by omega)).trans c_ln_2_Vln | (simp [go_sem, World.cell?_alloc_lt, c_ln_2_Vln, nev_ln, nfv_ln]; done)
  have z_ln_2_U2 : World.frozen? U2 ⟨Nln, 2, none⟩ = false := by rw [← hW_U2]; first | (simp [go_sem, z_ln_2_Vln]; done) | (simp [go_sem, z_ln_2_Vln, nev_ln, nfv_ln]; done)
  have l_ln_U2 : Nln < U2.heap.size := block_lt_of_cell c_ln_0_U2
  have B_U2 := Hb.mk (show Below w.heap.size w U2 by rw [← hW_U2]; exact (by repeat (first | with_reducible refine Below.setCell ?_ (by first | omega | (simp <;> omega)) _ | with_reducible refine Below.drews ?_ | with_reducible refine Below.drew ?_ | with_reducible refine Below.alloc ?_ (by first | omega | (simp <;> omega)) _ | with_reducible exact B_Vln.out | with_reducible exact Below.refl _ _)))
  clear hW_U2 c_v_0_Vln c_v_1_Vln c_v_2_Vln c_v_3_Vln c_v_4_Vln c_v_5_Vln c_v_6_Vln c_v_7_Vln c_v_8_Vln l_v_Vln c_ln_0_Vln c_ln_1_Vln c_ln_2_Vln z_ln_0_Vln z_ln_1_Vln z_ln_2_Vln l_ln_Vln
  refine (KL.out _).mono ?_
  rintro ex w2 ⟨rfl, b2⟩
  have B2 := Hb.mk (Below.on B_U2.out b2 B_U2.out.size)
  have c_v_0_w2 := Below.keep b2 c_v_0_U2
  have c_v_1_w2 := Below.keep b2 c_v_1_U2
  have c_v_2_w2 := Below.keep b2 c_v_2_U2
  have c_v_3_w2 := Below.keep b2 c_v_3_U2
  have c_v_4_w2 := Below.keep b2 c_v_4_U2
  have c_v_5_w2 := Below.keep b2 c_v_5_U2
  have c_v_6_w2 := Below.keep b2 c_v_6_U2
  have c_v_7_w2 := Below.keep b2 c_v_7_U2
  have c_v_8_w2 := Below.keep b2 c_v_8_U2
  have l_v_w2 : w.heap.size + 4 < w2.heap.size := block_lt_of_cell c_v_0_w2
  have c_ln_0_w2 := Below.keep b2 c_ln_0_U2
  have z_ln_0_w2 : w2.frozen? ⟨Nln, 0, none⟩ = false := by rw [b2.frozen (block_lt_of_cell c_ln_0_U2)]; exact z_ln_0_U2
  have c_ln_1_w2 := Below.keep b2 c_ln_1_U2
  have z_ln_1_w2 : w2.frozen? ⟨Nln, 1, none⟩ = false := by rw [b2.frozen (block_lt_of_cell c_ln_1_U2)]; exact z_ln_1_U2
  have c_ln_2_w2 := Below.keep b2 c_ln_2_U2
  have z_ln_2_w2 : w2.frozen? ⟨Nln, 2, none⟩ = false := by rw [b2.frozen (block_lt_of_cell c_ln_2_U2)]; exact z_ln_2_U2
  have l_ln_w2 : Nln < w2.heap.size := block_lt_of_cell c_ln_0_w2
  clear b2 c_v_0_U2 c_v_1_U2 c_v_2_U2 c_v_3_U2 c_v_4_U2 c_v_5_U2 c_v_6_U2 c_v_7_U2 c_v_8_U2 c_ln_0_U2 z_ln_0_U2 c_ln_1_U2 z_ln_1_U2 c_ln_2_U2 z_ln_2_U2
  go_wp2_with (first | (refine wpList_fcmp rfl rfl rfl rfl rfl (by first | (with_reducible assumption) | (with_reducible exact Fl.ofInt _ _) | exact Fl.not (by decide +kernel) (by decide +kernel)) (by first | (with_reducible assumption) | (with_reducible exact Fl.ofInt _ _) | exact Fl.not (by decide +kernel) (by decide +kernel)) ?_; simp only [Act.put, List.setIfInBounds_toArray, List.set_cons_succ, List.set_cons_zero, hg]))
  go_ret2
  exact ⟨rfl, (by repeat (first | with_reducible refine Below.setCell ?_ (by first | omega | (simp <;> omega)) _ | with_reducible refine Below.drews ?_ | with_reducible refine Below.drew ?_ | with_reducible refine Below.alloc ?_ (by first | omega | (simp <;> omega)) _ | with_reducible exact B2.out | with_reducible exact Below.refl _ _))⟩
set_option maxHeartbeats 4000000 in
theorem iOff_yes {n0 e0 n1 e1 n2 e2 : Nat} (f0 : Fl .f32 n0 n0) (g0 : Fl .f32 e0 e0) (f1 : Fl .f32 n1 n1) (g1 : Fl .f32 e1 e1) (f2 : Fl .f32 n2 n2) (g2 : Fl .f32 e2 e2) (v0 : validC n0 e0 = true) (v1 : validC n1 e1 = true) (v2 : validC n2 e2 = true) (hg : fcmp .leq .f32 (longC (crX (wxC n0 e0) (wyC n0 e0) (sineC n0) (wxC n1 e1) (wyC n1 e1) (sineC n1)) (crY (wxC n0 e0) (wyC n0 e0) (sineC n0) (wxC n1 e1) (wyC n1 e1) (sineC n1)) (crZ (wxC n0 e0) (wyC n0 e0) (sineC n0) (wxC n1 e1) (wyC n1 e1) (sineC n1))) 0 = false) (hp : fcmp .gtr .f32 (longC (crX (wxC n0 e0) (wyC n0 e0) (sineC n0) (wxC n1 e1) (wyC n1 e1) (sineC n1)) (crY (wxC n0 e0) (wyC n0 e0) (sineC n0) (wxC n1 e1) (wyC n1 e1) (sineC n1)) (crZ (wxC n0 e0) (wyC n0 e0) (sineC n0) (wxC n1 e1) (wyC n1 e1) (sineC n1))) 0 = true) (w : World) : Calls Try.prog 16 #[pl n0 e0, pl n1 e1, pl n2 e2] w (RS (flT2 (offV (fop .quo .f32 (sideC (wxC n0 e0) (wyC n0 e0) (sineC n0) (wxC n1 e1) (wyC n1 e1) (sineC n1) (wxC n2 e2) (wyC n2 e2) (sineC n2)) (longC (crX (wxC n0 e0) (wyC n0 e0) (sineC n0) (wxC n1 e1) (wyC n1 e1) (sineC n1)) (crY (wxC n0 e0) (wyC n0 e0) (sineC n0) (wxC n1 e1) (wyC n1 e1) (sineC n1)) (crZ (wxC n0 e0) (wyC n0 e0) (sineC n0) (wxC n1 e1) (wyC n1 e1) (sineC n1))))) true) w) := by
  have KS := Hb.mk (fun (g : Nat) => ws3 (g := g) f0 g0 f1 g1 f2 g2 v0 v1 v2)
  obtain ⟨t0, u0⟩ := turns_of v0
  obtain ⟨t1, u1⟩ := turns_of v1
  obtain ⟨t2, u2⟩ := turns_of v2
  have wb0 := Wb.way t0 u0
  have wb1 := Wb.way t1 u1
  have wb2 := Wb.way t2 u2
  have sd := Sid.of wb0 wb1 wb2
  have hd : Ab .f32 (dotC (crX (wxC n0 e0) (wyC n0 e0) (sineC n0) (wxC n1 e1) (wyC n1 e1) (sineC n1)) (crY (wxC n0 e0) (wyC n0 e0) (sineC n0) (wxC n1 e1) (wyC n1 e1) (sineC n1)) (crZ (wxC n0 e0) (wyC n0 e0) (sineC n0) (wxC n1 e1) (wyC n1 e1) (sineC n1)) (crX (wxC n0 e0) (wyC n0 e0) (sineC n0) (wxC n1 e1) (wyC n1 e1) (sineC n1)) (crY (wxC n0 e0) (wyC n0 e0) (sineC n0) (wxC n1 e1) (wyC n1 e1) (sineC n1)) (crZ (wxC n0 e0) (wyC n0 e0) (sineC n0) (wxC n1 e1) (wyC n1 e1) (sineC n1))) 1166016512 := sd.cr.dot (m := 1149239296) (s := 1157627904) (t := 1166016512) sd.cr (by decide +kernel) (by decide +kernel) (by decide +kernel) (by decide +kernel) (by decide +kernel) (by decide +kernel)
  obtain ⟨lf, _, ll⟩ := sd.cr.long hd.fin
  have KC := Hb.mk (fun w => exactW (wayCross_any wb0.fx wb0.fy wb0.fz wb1.fx wb1.fy wb1.fz w) sd.cr.ax.fin sd.cr.ay.fin sd.cr.az.fin)
  have KL := Hb.mk (fun w => exactB (wayLong_any sd.cr.fx sd.cr.fy sd.cr.fz w) lf)
  have KD := Hb.mk (fun w => exactB (c := (sideC (wxC n0 e0) (wyC n0 e0) (sineC n0) (wxC n1 e1) (wyC n1 e1) (sineC n1) (wxC n2 e2) (wyC n2 e2) (sineC n2))) (wayDot_any sd.cr.fx sd.cr.fy sd.cr.fz wb2.fx wb2.fy wb2.fz w) sd.s.fin)
  have hs := off_ab sd.cr wb2 hp lf
  change Ab .f32 (fop .quo .f32 (sideC (wxC n0 e0) (wyC n0 e0) (sineC n0) (wxC n1 e1) (wyC n1 e1) (sineC n1) (wxC n2 e2) (wyC n2 e2) (sineC n2)) (longC (crX (wxC n0 e0) (wyC n0 e0) (sineC n0) (wxC n1 e1) (wyC n1 e1) (sineC n1)) (crY (wxC n0 e0) (wyC n0 e0) (sineC n0) (wxC n1 e1) (wyC n1 e1) (sineC n1)) (crZ (wxC n0 e0) (wyC n0 e0) (sineC n0) (wxC n1 e1) (wyC n1 e1) (sineC n1)))) 1115684864 at hs
  have fS : Fl .f32 (fop .quo .f32 (sideC (wxC n0 e0) (wyC n0 e0) (sineC n0) (wxC n1 e1) (wyC n1 e1) (sineC n1) (wxC n2 e2) (wyC n2 e2) (sineC n2)) (longC (crX (wxC n0 e0) (wyC n0 e0) (sineC n0) (wxC n1 e1) (wyC n1 e1) (sineC n1)) (crY (wxC n0 e0) (wyC n0 e0) (sineC n0) (wxC n1 e1) (wyC n1 e1) (sineC n1)) (crZ (wxC n0 e0) (wyC n0 e0) (sineC n0) (wxC n1 e1) (wyC n1 e1) (sineC n1)))) (fop .quo .f32 (sideC (wxC n0 e0) (wyC n0 e0) (sineC n0) (wxC n1 e1) (wyC n1 e1) (sineC n1) (wxC n2 e2) (wyC n2 e2) (sineC n2)) (longC (crX (wxC n0 e0) (wyC n0 e0) (sineC n0) (wxC n1 e1) (wyC n1 e1) (sineC n1)) (crY (wxC n0 e0) (wyC n0 e0) (sineC n0) (wxC n1 e1) (wyC n1 e1) (sineC n1)) (crZ (wxC n0 e0) (wyC n0 e0) (sineC n0) (wxC n1 e1) (wyC n1 e1) (sineC n1)))) := fop_fl (op := .quo) hs.fin
  have O := Hb.mk (Offs.of hs)
  have MQ : Hb (∀ w, (binOp .quo 22 (.float .f32 (sideC (wxC n0 e0) (wyC n0 e0) (sineC n0) (wxC n1 e1) (wyC n1 e1) (sineC n1) (wxC n2 e2) (wyC n2 e2) (sineC n2))) (.float .f32 (longC (crX (wxC n0 e0) (wyC n0 e0) (sineC n0) (wxC n1 e1) (wyC n1 e1) (sineC n1)) (crY (wxC n0 e0) (wyC n0 e0) (sineC n0) (wxC n1 e1) (wyC n1 e1) (sineC n1)) (crZ (wxC n0 e0) (wyC n0 e0) (sineC n0) (wxC n1 e1) (wyC n1 e1) (sineC n1))))).run Try.prog w = .ok (.float .f32 (fop .quo .f32 (sideC (wxC n0 e0) (wyC n0 e0) (sineC n0) (wxC n1 e1) (wyC n1 e1) (sineC n1) (wxC n2 e2) (wyC n2 e2) (sineC n2)) (longC (crX (wxC n0 e0) (wyC n0 e0) (sineC n0) (wxC n1 e1) (wyC n1 e1) (sineC n1)) (crY (wxC n0 e0) (wyC n0 e0) (sineC n0) (wxC n1 e1) (wyC n1 e1) (sineC n1)) (crZ (wxC n0 e0) (wyC n0 e0) (sineC n0) (wxC n1 e1) (wyC n1 e1) (sineC n1))))) w) := ⟨fop_exact _ hs.fin⟩
  have MX : Hb (∀ w, (Builtin.max_ (#[ 22, 22 ]) 22 #[.float .f32 (fop .sub .f32 1065353216 (fop .mul .f32 (fop .quo .f32 (sideC (wxC n0 e0) (wyC n0 e0) (sineC n0) (wxC n1 e1) (wyC n1 e1) (sineC n1) (wxC n2 e2) (wyC n2 e2) (sineC n2)) (longC (crX (wxC n0 e0) (wyC n0 e0) (sineC n0) (wxC n1 e1) (wyC n1 e1) (sineC n1)) (crY (wxC n0 e0) (wyC n0 e0) (sineC n0) (wxC n1 e1) (wyC n1 e1) (sineC n1)) (crZ (wxC n0 e0) (wyC n0 e0) (sineC n0) (wxC n1 e1) (wyC n1 e1) (sineC n1)))) (fop .quo .f32 (sideC (wxC n0 e0) (wyC n0 e0) (sineC n0) (wxC n1 e1) (wyC n1 e1) (sineC n1) (wxC n2 e2) (wyC n2 e2) (sineC n2)) (longC (crX (wxC n0 e0) (wyC n0 e0) (sineC n0) (wxC n1 e1) (wyC n1 e1) (sineC n1)) (crY (wxC n0 e0) (wyC n0 e0) (sineC n0) (wxC n1 e1) (wyC n1 e1) (sineC n1)) (crZ (wxC n0 e0) (wyC n0 e0) (sineC n0) (wxC n1 e1) (wyC n1 e1) (sineC n1)))))), .float .f32 0]).run Try.prog w = .ok (.float .f32 (offL (fop .quo .f32 (sideC (wxC n0 e0) (wyC n0 e0) (sineC n0) (wxC n1 e1) (wyC n1 e1) (sineC n1) (wxC n2 e2) (wyC n2 e2) (sineC n2)) (longC (crX (wxC n0 e0) (wyC n0 e0) (sineC n0) (wxC n1 e1) (wyC n1 e1) (sineC n1)) (crY (wxC n0 e0) (wyC n0 e0) (sineC n0) (wxC n1 e1) (wyC n1 e1) (sineC n1)) (crZ (wxC n0 e0) (wyC n0 e0) (sineC n0) (wxC n1 e1) (wyC n1 e1) (sineC n1)))) (fop .quo .f32 (sideC (wxC n0 e0) (wyC n0 e0) (sineC n0) (wxC n1 e1) (wyC n1 e1) (sineC n1) (wxC n2 e2) (wyC n2 e2) (sineC n2)) (longC (crX (wxC n0 e0) (wyC n0 e0) (sineC n0) (wxC n1 e1) (wyC n1 e1) (sineC n1)) (crY (wxC n0 e0) (wyC n0 e0) (sineC n0) (wxC n1 e1) (wyC n1 e1) (sineC n1)) (crZ (wxC n0 e0) (wyC n0 e0) (sineC n0) (wxC n1 e1) (wyC n1 e1) (sineC n1)))))) w) := ⟨max_left _ _ hs⟩
  clear hs hp
  clear sd hd wb0 wb1 wb2 v0 v1 v2 t0 t1 t2 u0 u1 u2 lf
  generalize (sideC (wxC n0 e0) (wyC n0 e0) (sineC n0) (wxC n1 e1) (wyC n1 e1) (sineC n1) (wxC n2 e2) (wyC n2 e2) (sineC n2)) = SI at *
  generalize (longC (crX (wxC n0 e0) (wyC n0 e0) (sineC n0) (wxC n1 e1) (wyC n1 e1) (sineC n1)) (crY (wxC n0 e0) (wyC n0 e0) (sineC n0) (wxC n1 e1) (wyC n1 e1) (sineC n1)) (crZ (wxC n0 e0) (wyC n0 e0) (sineC n0) (wxC n1 e1) (wyC n1 e1) (sineC n1))) = LO at *
  generalize crX (wxC n0 e0) (wyC n0 e0) (sineC n0) (wxC n1 e1) (wyC n1 e1) (sineC n1) = X at *
  generalize crY (wxC n0 e0) (wyC n0 e0) (sineC n0) (wxC n1 e1) (wyC n1 e1) (sineC n1) = Y at *
  generalize crZ (wxC n0 e0) (wyC n0 e0) (sineC n0) (wxC n1 e1) (wyC n1 e1) (sineC n1) = Z at *
  generalize wxC n0 e0 = a at *
  generalize wyC n0 e0 = b at *
  generalize sineC n0 = c at *
  generalize wxC n1 e1 = x at *
  generalize wyC n1 e1 = y at *
  generalize sineC n1 = z at *
  generalize wxC n2 e2 = p at *
  generalize wyC n2 e2 = q at *
  generalize sineC n2 = r at *
  have B0 := Hb.mk (Below.refl w.heap.size w)
  go_enter Try.func16, Try.ntmps16
  go_wp2_with (first | (go_at_call 45; refine (KS.out _ _ (by simp [go_sem]) (by simp [go_sem]) (by simp [go_sem]) (by simp [go_sem]) (by simp [go_sem]) (by simp [go_sem])).mono ?_; rintro ex w1 ⟨rfl, b1, l1, k1⟩; have B1 := Hb.mk (Below.on (B := w.heap.size) (a := w) (by repeat (first | exact B0.out | refine Below.drews ?_ | refine Below.drew ?_ | refine Below.alloc ?_ (by have hq_ := B0.out.size; first | omega | (simp <;> omega)) _ | refine Below.setCell ?_ (by have hq_ := B0.out.size; first | omega | (simp <;> omega)) _)) b1 (by have hq_ := B0.out.size; first | omega | (simp <;> omega))); have q0 := k1 0 (by decide); have q1 := k1 1 (by decide); have q2 := k1 2 (by decide); have q3 := k1 3 (by decide); have q4 := k1 4 (by decide); have q5 := k1 5 (by decide); have q6 := k1 6 (by decide); have q7 := k1 7 (by decide); have q8 := k1 8 (by decide); simp at q0 q1 q2 q3 q4 q5 q6 q7 q8 l1; clear k1 b1))
  have c_v_0_w1 := q0
  have c_v_1_w1 := q1
  have c_v_2_w1 := q2
  have c_v_3_w1 := q3
  have c_v_4_w1 := q4
  have c_v_5_w1 := q5
  have c_v_6_w1 := q6
  have c_v_7_w1 := q7
  have c_v_8_w1 := q8
  have l_v_w1 : w.heap.size + 4 < w1.heap.size := block_lt_of_cell q0
  clear q0 q1 q2 q3 q4 q5 q6 q7 q8
  refine region_fresh (o := ?oln) 7 (by kernel_rfl) (by kernel_rfl) (by kernel_rfl) rfl rfl rfl (fun a w => ?hAln) (fun Iln Fln hneln HBln => ?hln)
  case hAln =>
    go_simp
    try rfl
  have kc_v_0_w1 := keepF HBln (p := ⟨w.heap.size + 4, 0, none⟩) (v := Value.float .f32 a) c_v_0_w1
  have kc_v_1_w1 := keepF HBln (p := ⟨w.heap.size + 4, 1, none⟩) (v := Value.float .f32 b) c_v_1_w1
  have kc_v_2_w1 := keepF HBln (p := ⟨w.heap.size + 4, 2, none⟩) (v := Value.float .f32 c) c_v_2_w1
  have kc_v_3_w1 := keepF HBln (p := ⟨w.heap.size + 4, 3, none⟩) (v := Value.float .f32 x) c_v_3_w1
  have kc_v_4_w1 := keepF HBln (p := ⟨w.heap.size + 4, 4, none⟩) (v := Value.float .f32 y) c_v_4_w1
  have kc_v_5_w1 := keepF HBln (p := ⟨w.heap.size + 4, 5, none⟩) (v := Value.float .f32 z) c_v_5_w1
  have kc_v_6_w1 := keepF HBln (p := ⟨w.heap.size + 4, 6, none⟩) (v := Value.float .f32 p) c_v_6_w1
  have kc_v_7_w1 := keepF HBln (p := ⟨w.heap.size + 4, 7, none⟩) (v := Value.float .f32 q) c_v_7_w1
  have kc_v_8_w1 := keepF HBln (p := ⟨w.heap.size + 4, 8, none⟩) (v := Value.float .f32 r) c_v_8_w1
  simp only [List.take_succ_cons, List.take_zero, List.drop_succ_cons, List.drop_zero]
  repeat (refine lex_step (fun K hK => ?_); go_simp; first | (refine hK _ ?_; clear hK K) | (apply Exists.intro; refine ⟨fun _ => ?_, hK _ ?_⟩; (first | (go_at_call 46; exact callR (KC.out _))); clear hK K))
  refine lex_nil ?_
  intro iln Vln hbln
  have bFln : Below (Fln iln).heap.size (Fln iln) Vln := Below.on ((Below.refl _ _).alloc (Nat.le_refl _) _) hbln (by simp)
  have c_v_0_Vln := Below.keep bFln (kc_v_0_w1 iln)
  have c_v_1_Vln := Below.keep bFln (kc_v_1_w1 iln)
  have c_v_2_Vln := Below.keep bFln (kc_v_2_w1 iln)
  have c_v_3_Vln := Below.keep bFln (kc_v_3_w1 iln)
  have c_v_4_Vln := Below.keep bFln (kc_v_4_w1 iln)
  have c_v_5_Vln := Below.keep bFln (kc_v_5_w1 iln)
  have c_v_6_Vln := Below.keep bFln (kc_v_6_w1 iln)
  have c_v_7_Vln := Below.keep bFln (kc_v_7_w1 iln)
  have c_v_8_Vln := Below.keep bFln (kc_v_8_w1 iln)
  have l_v_Vln : w.heap.size + 4 < Vln.heap.size := block_lt_of_cell c_v_0_Vln
  have mv_ln : w.heap.size + 4 < (Fln iln).heap.size := block_lt_of_cell (kc_v_0_w1 iln)
  have nev_ln : w.heap.size + 4 ≠ (Fln iln).heap.size := by omega
  have nfv_ln : (Fln iln).heap.size ≠ w.heap.size + 4 := by omega
  have c_ln_0_Vln := Below.keep hbln (p := ⟨(Fln iln).heap.size, 0, none⟩) (v := Value.float .f32 0) (by simp)
  have z_ln_0_Vln : Vln.frozen? ⟨(Fln iln).heap.size, 0, none⟩ = false := by rw [hbln.frozen (by simp)]; simp
  have c_ln_1_Vln := Below.keep hbln (p := ⟨(Fln iln).heap.size, 1, none⟩) (v := Value.float .f32 0) (by simp)
  have z_ln_1_Vln : Vln.frozen? ⟨(Fln iln).heap.size, 1, none⟩ = false := by rw [hbln.frozen (by simp)]; simp
  have c_ln_2_Vln := Below.keep hbln (p := ⟨(Fln iln).heap.size, 2, none⟩) (v := Value.float .f32 0) (by simp)
  have z_ln_2_Vln : Vln.frozen? ⟨(Fln iln).heap.size, 2, none⟩ = false := by rw [hbln.frozen (by simp)]; simp
  have l_ln_Vln : (Fln iln).heap.size < Vln.heap.size := block_lt_of_cell c_ln_0_Vln
  have bsln := B1.out.size
  have hsln := (HBln.out iln).size
  have qln : w.heap.size ≤ (Fln iln).heap.size := by omega
  have B_Vln := Hb.mk (Below.on B1.out (Below.on (HBln.out iln) bFln hsln) bsln)
  generalize (Fln iln).heap.size = Nln at *
  clear HBln hbln bFln bsln hsln c_v_0_w1 c_v_1_w1 c_v_2_w1 c_v_3_w1 c_v_4_w1 c_v_5_w1 c_v_6_w1 c_v_7_w1 c_v_8_w1 kc_v_0_w1 kc_v_1_w1 kc_v_2_w1 kc_v_3_w1 kc_v_4_w1 kc_v_5_w1 kc_v_6_w1 kc_v_7_w1 kc_v_8_w1 l_v_w1
  go_wp2_with (go_at_call 47; fail)
  generalize hW_U2 : World.setCell (World.setCell (World.setCell (Vln) ⟨Nln, 0, none⟩ (Value.float .f32 X)) ⟨Nln, 1, none⟩ (Value.float .f32 Y)) ⟨Nln, 2, none⟩ (Value.float .f32 Z) = U2
  have c_v_0_U2 : World.cell? U2 ⟨w.heap.size + 4, 0, none⟩ = some (Value.float .f32 a) := by rw [← hW_U2]; first | (simp [go_sem, c_v_0_Vln]; done) | (simp [go_sem, c_v_0_Vln, nev_ln, nfv_ln]; done) | exact (World.cell?_alloc_lt _ _ _ (by omega)).trans c_v_0_Vln | (simp [go_sem, World.cell?_alloc_lt, c_v_0_Vln, nev_ln, nfv_ln]; done)
  have c_v_1_U2 : World.cell? U2 ⟨w.heap.size + 4, 1, none⟩ = some (Value.float .f32 b) := by rw [← hW_U2]; first | (simp [go_sem, c_v_1_Vln]; done) | (simp [go_sem, c_v_1_Vln, nev_ln, nfv_ln]; done) | exact (World.cell?_alloc_lt _ _ _ (by omega)).trans c_v_1_Vln | (simp [go_sem, World.cell?_alloc_lt, c_v_1_Vln, nev_ln, nfv_ln]; done)
  have c_v_2_U2 : World.cell? U2 ⟨w.heap.size + 4, 2, none⟩ = some (Value.float .f32 c) := by rw [← hW_U2]; first | (simp [go_sem, c_v_2_Vln]; done) | (simp [go_sem, c_v_2_Vln, nev_ln, nfv_ln]; done) | exact (World.cell?_alloc_lt _ _ _ (by omega)).trans c_v_2_Vln | (simp [go_sem, World.cell?_alloc_lt, c_v_2_Vln, nev_ln, nfv_ln]; done)
  have c_v_3_U2 : World.cell? U2 ⟨w.heap.size + 4, 3, none⟩ = some (Value.float .f32 x) := by rw [← hW_U2]; first | (simp [go_sem, c_v_3_Vln]; done) | (simp [go_sem, c_v_3_Vln, nev_ln, nfv_ln]; done) | exact (World.cell?_alloc_lt _ _ _ (by omega)).trans c_v_3_Vln | (simp [go_sem, World.cell?_alloc_lt, c_v_3_Vln, nev_ln, nfv_ln]; done)
  have c_v_4_U2 : World.cell? U2 ⟨w.heap.size + 4, 4, none⟩ = some (Value.float .f32 y) := by rw [← hW_U2]; first | (simp [go_sem, c_v_4_Vln]; done) | (simp [go_sem, c_v_4_Vln, nev_ln, nfv_ln]; done) | exact (World.cell?_alloc_lt _ _ _ (by omega)).trans c_v_4_Vln | (simp [go_sem, World.cell?_alloc_lt, c_v_4_Vln, nev_ln, nfv_ln]; done)
  have c_v_5_U2 : World.cell? U2 ⟨w.heap.size + 4, 5, none⟩ = some (Value.float .f32 z) := by rw [← hW_U2]; first | (simp [go_sem, c_v_5_Vln]; done) | (simp [go_sem, c_v_5_Vln, nev_ln, nfv_ln]; done) | exact (World.cell?_alloc_lt _ _ _ (by omega)).trans c_v_5_Vln | (simp [go_sem, World.cell?_alloc_lt, c_v_5_Vln, nev_ln, nfv_ln]; done)
  have c_v_6_U2 : World.cell? U2 ⟨w.heap.size + 4, 6, none⟩ = some (Value.float .f32 p) := by rw [← hW_U2]; first | (simp [go_sem, c_v_6_Vln]; done) | (simp [go_sem, c_v_6_Vln, nev_ln, nfv_ln]; done) | exact (World.cell?_alloc_lt _ _ _ (by omega)).trans c_v_6_Vln | (simp [go_sem, World.cell?_alloc_lt, c_v_6_Vln, nev_ln, nfv_ln]; done)
  have c_v_7_U2 : World.cell? U2 ⟨w.heap.size + 4, 7, none⟩ = some (Value.float .f32 q) := by rw [← hW_U2]; first | (simp [go_sem, c_v_7_Vln]; done) | (simp [go_sem, c_v_7_Vln, nev_ln, nfv_ln]; done) | exact (World.cell?_alloc_lt _ _ _ (by omega)).trans c_v_7_Vln | (simp [go_sem, World.cell?_alloc_lt, c_v_7_Vln, nev_ln, nfv_ln]; done)
  have c_v_8_U2 : World.cell? U2 ⟨w.heap.size + 4, 8, none⟩ = some (Value.float .f32 r) := by rw [← hW_U2]; first | (simp [go_sem, c_v_8_Vln]; done) | (simp [go_sem, c_v_8_Vln, nev_ln, nfv_ln]; done) | exact (World.cell?_alloc_lt _ _ _ (by omega)).trans c_v_8_Vln | (simp [go_sem, World.cell?_alloc_lt, c_v_8_Vln, nev_ln, nfv_ln]; done)
  have l_v_U2 : w.heap.size + 4 < U2.heap.size := block_lt_of_cell c_v_0_U2
  have c_ln_0_U2 : World.cell? U2 ⟨Nln, 0, none⟩ = some (Value.float .f32 X) := by rw [← hW_U2]; first | (simp [go_sem, c_ln_0_Vln]; done) | (simp [go_sem, c_ln_0_Vln, nev_ln, nfv_ln]; done) | exact (World.cell?_alloc_lt _ _ _ (by omega)).trans c_ln_0_Vln | (simp [go_sem, World.cell?_alloc_lt, c_ln_0_Vln, nev_ln, nfv_ln]; done)
  have z_ln_0_U2 : World.frozen? U2 ⟨Nln, 0, none⟩ = false := by rw [← hW_U2]; first | (simp [go_sem, z_ln_0_Vln]; done) | (simp [go_sem, z_ln_0_Vln, nev_ln, nfv_ln]; done)
  have c_ln_1_U2 : World.cell? U2 ⟨Nln, 1, none⟩ = some (Value.float .f32 Y) := by rw [← hW_U2]; first | (simp [go_sem, c_ln_1_Vln]; done) | (simp [go_sem, c_ln_1_Vln, nev_ln, nfv_ln]; done) | exact (World.cell?_alloc_lt _ _ _ (by omega)).trans c_ln_1_Vln | (simp [go_sem, World.cell?_alloc_lt, c_ln_1_Vln, nev_ln, nfv_ln]; done)
  have z_ln_1_U2 : World.frozen? U2 ⟨Nln, 1, none⟩ = false := by rw [← hW_U2]; first | (simp [go_sem, z_ln_1_Vln]; done) | (simp [go_sem, z_ln_1_Vln, nev_ln, nfv_ln]; done)
  have c_ln_2_U2 : World.cell? U2 ⟨Nln, 2, none⟩ = some (Value.float .f32 Z) := by rw [← hW_U2]; first | (simp [go_sem, c_ln_2_Vln]; done) | (simp [go_sem, c_ln_2_Vln, nev_ln, nfv_ln]; done) | exact (World.cell?_alloc_lt _ _ _ (by omega)).trans c_ln_2_Vln | (simp [go_sem, World.cell?_alloc_lt, c_ln_2_Vln, nev_ln, nfv_ln]; done)
  have z_ln_2_U2 : World.frozen? U2 ⟨Nln, 2, none⟩ = false := by rw [← hW_U2]; first | (simp [go_sem, z_ln_2_Vln]; done) | (simp [go_sem, z_ln_2_Vln, nev_ln, nfv_ln]; done)
  have l_ln_U2 : Nln < U2.heap.size := block_lt_of_cell c_ln_0_U2
  have B_U2 := Hb.mk (show Below w.heap.size w U2 by rw [← hW_U2]; exact (by repeat (first | with_reducible refine Below.setCell ?_ (by first | omega | (simp <;> omega)) _ | with_reducible refine Below.drews ?_ | with_reducible refine Below.drew ?_ | with_reducible refine Below.alloc ?_ (by first | omega | (simp <;> omega)) _ | with_reducible exact B_Vln.out | with_reducible exact Below.refl _ _)))
  clear hW_U2 c_v_0_Vln c_v_1_Vln c_v_2_Vln c_v_3_Vln c_v_4_Vln c_v_5_Vln c_v_6_Vln c_v_7_Vln c_v_8_Vln l_v_Vln c_ln_0_Vln c_ln_1_Vln c_ln_2_Vln z_ln_0_Vln z_ln_1_Vln z_ln_2_Vln l_ln_Vln
  refine (KL.out _).mono ?_
  rintro ex w2 ⟨rfl, b2⟩
  have B2 := Hb.mk (Below.on B_U2.out b2 B_U2.out.size)
  have c_v_0_w2 := Below.keep b2 c_v_0_U2
  have c_v_1_w2 := Below.keep b2 c_v_1_U2
  have c_v_2_w2 := Below.keep b2 c_v_2_U2
  have c_v_3_w2 := Below.keep b2 c_v_3_U2
  have c_v_4_w2 := Below.keep b2 c_v_4_U2
  have c_v_5_w2 := Below.keep b2 c_v_5_U2
  have c_v_6_w2 := Below.keep b2 c_v_6_U2
  have c_v_7_w2 := Below.keep b2 c_v_7_U2
  have c_v_8_w2 := Below.keep b2 c_v_8_U2
  have l_v_w2 : w.heap.size + 4 < w2.heap.size := block_lt_of_cell c_v_0_w2
  have c_ln_0_w2 := Below.keep b2 c_ln_0_U2
  have z_ln_0_w2 : w2.frozen? ⟨Nln, 0, none⟩ = false := by rw [b2.frozen (block_lt_of_cell c_ln_0_U2)]; exact z_ln_0_U2
  have c_ln_1_w2 := Below.keep b2 c_ln_1_U2
  have z_ln_1_w2 : w2.frozen? ⟨Nln, 1, none⟩ = false := by rw [b2.frozen (block_lt_of_cell c_ln_1_U2)]; exact z_ln_1_U2
  have c_ln_2_w2 := Below.keep b2 c_ln_2_U2
  have z_ln_2_w2 : w2.frozen? ⟨Nln, 2, none⟩ = false := by rw [b2.frozen (block_lt_of_cell c_ln_2_U2)]; exact z_ln_2_U2
  have l_ln_w2 : Nln < w2.heap.size := block_lt_of_cell c_ln_0_w2
  clear b2 c_v_0_U2 c_v_1_U2 c_v_2_U2 c_v_3_U2 c_v_4_U2 c_v_5_U2 c_v_6_U2 c_v_7_U2 c_v_8_U2 c_ln_0_U2 z_ln_0_U2 c_ln_1_U2 z_ln_1_U2 c_ln_2_U2 z_ln_2_U2
  go_wp2_with (first | (refine wpList_fcmp rfl rfl rfl rfl rfl (by first | (with_reducible assumption) | (with_reducible exact Fl.ofInt _ _) | exact Fl.not (by decide +kernel) (by decide +kernel)) (by first | (with_reducible assumption) | (with_reducible exact Fl.ofInt _ _) | exact Fl.not (by decide +kernel) (by decide +kernel)) ?_; simp only [Act.put, List.setIfInBounds_toArray, List.set_cons_succ, List.set_cons_zero, hg]))
  refine region_all (by kernel_rfl) (by kernel_rfl) (fun ID FD hneD HBD hcl => ?_)
  have kc_v_0_w2 := keepF HBD (p := ⟨w.heap.size + 4, 0, none⟩) (v := Value.float .f32 a) c_v_0_w2
  have kc_v_1_w2 := keepF HBD (p := ⟨w.heap.size + 4, 1, none⟩) (v := Value.float .f32 b) c_v_1_w2
  have kc_v_2_w2 := keepF HBD (p := ⟨w.heap.size + 4, 2, none⟩) (v := Value.float .f32 c) c_v_2_w2
  have kc_v_3_w2 := keepF HBD (p := ⟨w.heap.size + 4, 3, none⟩) (v := Value.float .f32 x) c_v_3_w2
  have kc_v_4_w2 := keepF HBD (p := ⟨w.heap.size + 4, 4, none⟩) (v := Value.float .f32 y) c_v_4_w2
  have kc_v_5_w2 := keepF HBD (p := ⟨w.heap.size + 4, 5, none⟩) (v := Value.float .f32 z) c_v_5_w2
  have kc_v_6_w2 := keepF HBD (p := ⟨w.heap.size + 4, 6, none⟩) (v := Value.float .f32 p) c_v_6_w2
  have kc_v_7_w2 := keepF HBD (p := ⟨w.heap.size + 4, 7, none⟩) (v := Value.float .f32 q) c_v_7_w2
  have kc_v_8_w2 := keepF HBD (p := ⟨w.heap.size + 4, 8, none⟩) (v := Value.float .f32 r) c_v_8_w2
  have kc_ln_0_w2 := keepF HBD (p := ⟨Nln, 0, none⟩) (v := Value.float .f32 X) c_ln_0_w2
  have kz_ln_0_w2 := keepZ HBD (p := ⟨Nln, 0, none⟩) l_ln_w2 z_ln_0_w2
  have kc_ln_1_w2 := keepF HBD (p := ⟨Nln, 1, none⟩) (v := Value.float .f32 Y) c_ln_1_w2
  have kz_ln_1_w2 := keepZ HBD (p := ⟨Nln, 1, none⟩) l_ln_w2 z_ln_1_w2
  have kc_ln_2_w2 := keepF HBD (p := ⟨Nln, 2, none⟩) (v := Value.float .f32 Z) c_ln_2_w2
  have kz_ln_2_w2 := keepZ HBD (p := ⟨Nln, 2, none⟩) l_ln_w2 z_ln_2_w2
  have mQ := MQ.out
  repeat (quiet_step (first | (go_at_call 48; exact callS hcl (KD.out _))))
  refine wpQuiet_nil ?_
  intro _ hw'
  obtain ⟨iqD, rfl⟩ := hw'
  clear hcl
  have hbD := HBD.out iqD
  have bsD := B2.out.size
  have B_U3 := Hb.mk (Below.on B2.out hbD bsD)
  have c_v_0_U3 := kc_v_0_w2 iqD
  have c_v_1_U3 := kc_v_1_w2 iqD
  have c_v_2_U3 := kc_v_2_w2 iqD
  have c_v_3_U3 := kc_v_3_w2 iqD
  have c_v_4_U3 := kc_v_4_w2 iqD
  have c_v_5_U3 := kc_v_5_w2 iqD
  have c_v_6_U3 := kc_v_6_w2 iqD
  have c_v_7_U3 := kc_v_7_w2 iqD
  have c_v_8_U3 := kc_v_8_w2 iqD
  have l_v_U3 : w.heap.size + 4 < (FD iqD).heap.size := block_lt_of_cell c_v_0_U3
  have c_ln_0_U3 := kc_ln_0_w2 iqD
  have z_ln_0_U3 := kz_ln_0_w2 iqD
  have c_ln_1_U3 := kc_ln_1_w2 iqD
  have z_ln_1_U3 := kz_ln_1_w2 iqD
  have c_ln_2_U3 := kc_ln_2_w2 iqD
  have z_ln_2_U3 := kz_ln_2_w2 iqD
  have l_ln_U3 : Nln < (FD iqD).heap.size := block_lt_of_cell c_ln_0_U3
  clear HBD hbD bsD c_v_0_w2 c_v_1_w2 c_v_2_w2 c_v_3_w2 c_v_4_w2 c_v_5_w2 c_v_6_w2 c_v_7_w2 c_v_8_w2 kc_v_0_w2 kc_v_1_w2 kc_v_2_w2 kc_v_3_w2 kc_v_4_w2 kc_v_5_w2 kc_v_6_w2 kc_v_7_w2 kc_v_8_w2 l_v_w2 c_ln_0_w2 c_ln_1_w2 c_ln_2_w2 kc_ln_0_w2 kc_ln_1_w2 kc_ln_2_w2 z_ln_0_w2 z_ln_1_w2 z_ln_2_w2 kz_ln_0_w2 kz_ln_1_w2 kz_ln_2_w2 l_ln_w2
  generalize FD iqD = U3 at *
  have mX := MX.out
  have tk_b : True := trivial; have tk_c : True := trivial
  go_wp2_with (first | (clear tk_b; refine wpList_fop rfl rfl rfl rfl rfl fS fS ?_; intro m_ n_m h_m; obtain rfl := (h_m.word (fin_notN O.out.m.fin)).symm; simp only [Act.put, List.setIfInBounds_toArray, List.set_cons_succ, List.set_cons_zero]) | (clear tk_c; refine wpList_fop rfl rfl rfl rfl rfl (by first | (with_reducible assumption) | (with_reducible exact Fl.ofInt _ _) | exact Fl.not (by decide +kernel) (by decide +kernel)) h_m ?_; intro l_ n_l h_l; obtain rfl := (h_l.word (fin_notN O.out.l.fin)).symm; simp only [Act.put, List.setIfInBounds_toArray, List.set_cons_succ, List.set_cons_zero]) | (go_at_call 50; refine (iRoot_any O.out.q.2 _).mono ?_; rintro ex w3 ⟨rr, n3, rfl, h_r, rfl⟩) | (go_at_call 49; refine (iAngleTurns_any fS h_r _).mono ?_; rintro ex w4 ⟨rv, n4, rfl, h_v, rfl⟩; obtain rfl := (h_v.word (fin_notN O.out.v.1)).symm))
  go_ret2
  exact ⟨rfl, (by repeat (first | with_reducible refine Below.setCell ?_ (by first | omega | (simp <;> omega)) _ | with_reducible refine Below.drews ?_ | with_reducible refine Below.drew ?_ | with_reducible refine Below.alloc ?_ (by first | omega | (simp <;> omega)) _ | with_reducible exact B_U3.out | with_reducible exact Below.refl _ _))⟩
theorem pair_OffWay {a0 b0 a1 b1 a2 b2 : Nat} (wa0 : (Lit.float .f32 a0).wf = true) (wb0 : (Lit.float .f32 b0).wf = true) (wa1 : (Lit.float .f32 a1).wf = true) (wb1 : (Lit.float .f32 b1).wf = true) (wa2 : (Lit.float .f32 a2).wf = true) (wb2 : (Lit.float .f32 b2).wf = true) :
    ∃ V ok, Hb (∀ w, Calls Try.prog 15 #[pl a0 b0, pl a1 b1, pl a2 b2] w (RS (flT2 V ok) w)) ∧ Hb (∀ w, Calls Try.prog 16 #[pl a0 b0, pl a1 b1, pl a2 b2] w (RS (flT2 V ok) w)) ∧ Fl .f32 V V := by
  have f0 := Fl.own wa0
  have h0 := Fl.own wb0
  have f1 := Fl.own wa1
  have h1 := Fl.own wb1
  have f2 := Fl.own wa2
  have h2 := Fl.own wb2
  cases v0 : validC (nrm .f32 a0) (nrm .f32 b0)
  · exact ⟨_, _, ⟨sOff_no f0 h0 f1 h1 ⟨sSideOf_no1 f0 h0 f1 h1 f2 h2 (by rw [v0]; rfl)⟩⟩, ⟨iOff_no0 f0 h0 v0⟩, fl0⟩
  · obtain ⟨tn0, te0⟩ := turns_of v0
    have xn0 := tn0.word f0
    have xe0 := te0.word h0
    rw [← xn0] at f0 v0 tn0
    rw [← xe0] at h0 v0 te0
    cases v1 : validC (nrm .f32 a1) (nrm .f32 b1)
    · exact ⟨_, _, ⟨sOff_no f0 h0 f1 h1 ⟨sSideOf_no1 f0 h0 f1 h1 f2 h2 (by rw [v0, v1]; rfl)⟩⟩, ⟨iOff_no1 f0 h0 f1 h1 v0 v1⟩, fl0⟩
    · obtain ⟨tn1, te1⟩ := turns_of v1
      have xn1 := tn1.word f1
      have xe1 := te1.word h1
      rw [← xn1] at f1 v1 tn1
      rw [← xe1] at h1 v1 te1
      cases v2 : validC (nrm .f32 a2) (nrm .f32 b2)
      · exact ⟨_, _, ⟨sOff_no f0 h0 f1 h1 ⟨sSideOf_no2 f0 h0 f1 h1 f2 h2 (by rw [v0, v1]; rfl) v2⟩⟩, ⟨iOff_no2 f0 h0 f1 h1 f2 h2 v0 v1 v2⟩, fl0⟩
      · obtain ⟨tn2, te2⟩ := turns_of v2
        have xn2 := tn2.word f2
        have xe2 := te2.word h2
        rw [← xn2] at f2 v2 tn2
        rw [← xe2] at h2 v2 te2
        have sd := Sid.of (Wb.way tn0 te0) (Wb.way tn1 te1) (Wb.way tn2 te2)
        have hd := sd.cr.dot (m := 1149239296) (s := 1157627904) (t := 1166016512) sd.cr (by decide +kernel) (by decide +kernel) (by decide +kernel) (by decide +kernel) (by decide +kernel) (by decide +kernel)
        obtain ⟨lf, _, ll⟩ := sd.cr.long hd.fin
        have hc := fcmp_fin lf (fin_zero .f32)
        by_cases hp : sv .f32 0 < sv .f32 (longC (crX (wxC a0 b0) (wyC a0 b0) (sineC a0) (wxC a1 b1) (wyC a1 b1) (sineC a1)) (crY (wxC a0 b0) (wyC a0 b0) (sineC a0) (wxC a1 b1) (wyC a1 b1) (sineC a1)) (crZ (wxC a0 b0) (wyC a0 b0) (sineC a0) (wxC a1 b1) (wyC a1 b1) (sineC a1)))
        · have hg : fcmp .gtr .f32 (longC (crX (wxC a0 b0) (wyC a0 b0) (sineC a0) (wxC a1 b1) (wyC a1 b1) (sineC a1)) (crY (wxC a0 b0) (wyC a0 b0) (sineC a0) (wxC a1 b1) (wyC a1 b1) (sineC a1)) (crZ (wxC a0 b0) (wyC a0 b0) (sineC a0) (wxC a1 b1) (wyC a1 b1) (sineC a1))) 0 = true := by rw [hc.2.2.1, decide_eq_true hp]
          have hq : fcmp .leq .f32 (longC (crX (wxC a0 b0) (wyC a0 b0) (sineC a0) (wxC a1 b1) (wyC a1 b1) (sineC a1)) (crY (wxC a0 b0) (wyC a0 b0) (sineC a0) (wxC a1 b1) (wyC a1 b1) (sineC a1)) (crZ (wxC a0 b0) (wyC a0 b0) (sineC a0) (wxC a1 b1) (wyC a1 b1) (sineC a1))) 0 = false := by rw [hc.2.1, decide_eq_false (by omega)]
          have hs := off_ab sd.cr (Wb.way tn2 te2) hg lf
          exact ⟨_, _, ⟨sOff_yes f0 h0 f1 h1 f2 h2 v0 v1 v2 hg⟩, ⟨iOff_yes f0 h0 f1 h1 f2 h2 v0 v1 v2 hq hg⟩, (Offs.of hs).v.2⟩
        · have hg : fcmp .gtr .f32 (longC (crX (wxC a0 b0) (wyC a0 b0) (sineC a0) (wxC a1 b1) (wyC a1 b1) (sineC a1)) (crY (wxC a0 b0) (wyC a0 b0) (sineC a0) (wxC a1 b1) (wyC a1 b1) (sineC a1)) (crZ (wxC a0 b0) (wyC a0 b0) (sineC a0) (wxC a1 b1) (wyC a1 b1) (sineC a1))) 0 = false := by rw [hc.2.2.1, decide_eq_false hp]
          have hq : fcmp .leq .f32 (longC (crX (wxC a0 b0) (wyC a0 b0) (sineC a0) (wxC a1 b1) (wyC a1 b1) (sineC a1)) (crY (wxC a0 b0) (wyC a0 b0) (sineC a0) (wxC a1 b1) (wyC a1 b1) (sineC a1)) (crZ (wxC a0 b0) (wyC a0 b0) (sineC a0) (wxC a1 b1) (wyC a1 b1) (sineC a1))) 0 = true := by rw [hc.2.1, decide_eq_true (by omega)]
          exact ⟨_, _, ⟨sOff_z f0 h0 f1 h1 f2 h2 v0 v1 v2 hg⟩, ⟨iOff_z f0 h0 f1 h1 f2 h2 v0 v1 v2 hq⟩, fl0⟩
set_option maxHeartbeats 2000000 in
theorem law_OffWay {a0 b0 a1 b1 a2 b2 : Nat} (wa0 : (Lit.float .f32 a0).wf = true) (wb0 : (Lit.float .f32 b0).wf = true) (wa1 : (Lit.float .f32 a1).wf = true) (wb1 : (Lit.float .f32 b1).wf = true) (wa2 : (Lit.float .f32 a2).wf = true) (wb2 : (Lit.float .f32 b2).wf = true) (w : World) : Calls Try.prog 5 #[pl a0 b0, pl a1 b1, pl a2 b2] w (RS (.bool true) w) := by
  obtain ⟨V, ok, KS, KG, hf⟩ := pair_OffWay wa0 wb0 wa1 wb1 wa2 wb2
  have B0 := Hb.mk (Below.refl w.heap.size w)
  cases ok
  all_goals
    go_enter Try.func5, Try.ntmps5
    go_wp2
    refine region_all (by kernel_rfl) (by kernel_rfl) (fun I1 F1 hne1 HB1 hcl => ?_)
    have p1_0_0 := keepF HB1 (p := ⟨w.heap.size, 0, none⟩) (v := .float .f32 a0) (by first | simp | simp [go_sem])
    have p1_0_1 := keepF HB1 (p := ⟨w.heap.size, 1, none⟩) (v := .float .f32 b0) (by first | simp | simp [go_sem])
    have p1_1_0 := keepF HB1 (p := ⟨w.heap.size + 1, 0, none⟩) (v := .float .f32 a1) (by first | simp | simp [go_sem])
    have p1_1_1 := keepF HB1 (p := ⟨w.heap.size + 1, 1, none⟩) (v := .float .f32 b1) (by first | simp | simp [go_sem])
    have p1_2_0 := keepF HB1 (p := ⟨w.heap.size + 2, 0, none⟩) (v := .float .f32 a2) (by first | simp | simp [go_sem])
    have p1_2_1 := keepF HB1 (p := ⟨w.heap.size + 2, 1, none⟩) (v := .float .f32 b2) (by first | simp | simp [go_sem])
    repeat (quiet_step (first | (go_at_call 10; exact callS hcl (toPlace_any _ _ _)) | (go_at_call 15; exact callS hcl (KS.out _)) | (go_at_call 16; exact callS hcl (KG.out _))))
    refine wpQuiet_nil ?_
    intro _ hw'
    obtain ⟨i1, rfl⟩ := hw'
    clear hcl
    go_wp2
    refine region_all (by kernel_rfl) (by kernel_rfl) (fun I2 F2 hne2 HB2 hcl => ?_)
    have p2_0_0 := keepF HB2 (p := ⟨w.heap.size, 0, none⟩) (v := .float .f32 a0) (p1_0_0 i1)
    have p2_0_1 := keepF HB2 (p := ⟨w.heap.size, 1, none⟩) (v := .float .f32 b0) (p1_0_1 i1)
    have p2_1_0 := keepF HB2 (p := ⟨w.heap.size + 1, 0, none⟩) (v := .float .f32 a1) (p1_1_0 i1)
    have p2_1_1 := keepF HB2 (p := ⟨w.heap.size + 1, 1, none⟩) (v := .float .f32 b1) (p1_1_1 i1)
    have p2_2_0 := keepF HB2 (p := ⟨w.heap.size + 2, 0, none⟩) (v := .float .f32 a2) (p1_2_0 i1)
    have p2_2_1 := keepF HB2 (p := ⟨w.heap.size + 2, 1, none⟩) (v := .float .f32 b2) (p1_2_1 i1)
    repeat (quiet_step (first | (go_at_call 10; exact callS hcl (toPlace_any _ _ _)) | (go_at_call 15; exact callS hcl (KS.out _)) | (go_at_call 16; exact callS hcl (KG.out _))))
    refine wpQuiet_nil ?_
    intro _ hw'
    obtain ⟨i2, rfl⟩ := hw'
    clear hcl
    go_wp2_with (first | (refine wpList_fcv rfl rfl rfl (by kernel_rfl) Try.underlying36 (by decide) (by first | (with_reducible assumption) | (with_reducible exact Fl.ofInt _ _) | exact Fl.not (by decide +kernel) (by decide +kernel)) (fits_wide _) ?_; intro r n hr; simp only [Act.put, List.setIfInBounds_toArray, List.set_cons_succ, List.set_cons_zero]) | (go_at_call 17; refine (sameFloat_any (by assumption) (by assumption) _).mono ?_; rintro e w' ⟨rfl, n, rfl⟩))
    go_ret
    refine ⟨rfl, ?_⟩
    have E1 := HB1.out i1
    have E2 := HB2.out i2
    exact Below.drews (Below.on (Below.on (by repeat (first | exact Below.refl _ _ | with_reducible assumption | refine Below.drews ?_ | refine Below.drew ?_ | refine Below.alloc ?_ (by simp <;> omega) _ | refine Below.setCell ?_ (by simp <;> omega) _)) E1 (by simp <;> omega)) E2 (by have := E1.size; simp at this; omega))
end Go.Proofs.Ytfmhbmehidlhiaa
