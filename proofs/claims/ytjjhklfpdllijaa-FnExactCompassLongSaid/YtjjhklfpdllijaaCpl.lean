/-
  How long the way is that does not change its course, of the program and of its model; the exact law CompassLong. No condition.
-/
import Derived.Test.YtjjhklfpdllijaaCps
namespace Go.Proofs.Ytjjhklfpdllijaa
open Go Go.RowKit
set_option maxRecDepth 100000

theorem rung_near_self {k : FloatKind} {c : Nat} (hc : fin k c = true) (s : Bool) {z : Int} (hz : z.natAbs = val k.format (rung k c)) : rung k (k.format.nearest s z.natAbs k.format.leastPlace) = rung k c := by
  refine Nat.le_antisymm (near_ab s hc (by rw [hz]; exact Nat.le_refl _)) ?_
  refine word_le_nearest s k.format.leastPlace hc (Int.le_refl _) (Int.le_refl _) ?_
  rw [hz]; exact Nat.le_refl _
theorem fabs32_fl {c : Nat} (h : fin .f32 c = true) : Fl .f32 (fabs32 c) (fabs32 c) ∧ fin .f32 (fabs32 c) = true := by
  have h1 : fin .f32 (fabs32 c) = true := by rw [fin_fabs32]; exact h
  exact ⟨Fl.not (fin_notN h1) (wf_of_lt .f32 _ (by show _ < 2 ^ 32; unfold fabs32; omega)), h1⟩
theorem narrow_wide {c : Nat} (hc : Fl .f32 c c) (h : fin .f32 c = true) : fcv .f64 .f32 (fcv .f32 .f64 c) = c := by
  obtain ⟨g1, g2, g3⟩ := wide_fin h
  obtain ⟨n1, n2⟩ := narrow_ab g1 h (Nat.le_refl _)
  refine word_ext (k := .f32) (wf_fcv _) hc.wf ?_ (by rw [n2, g2])
  refine Nat.le_antisymm n1.le ?_
  rw [fcv_near g1]
  refine word_le_nearest _ (-1074) h (by decide) (by decide) ?_
  rw [g3, show ((-1074 : Int) - -1074).toNat = 0 by decide, Nat.pow_zero, Nat.mul_one, show (FloatKind.f32.format.leastPlace - (-1074)).toNat = wd by decide]
  exact Nat.le_refl _
theorem abs_narrow {c : Nat} (h : fin .f32 c = true) : fcv .f64 .f32 (fabs (fcv .f32 .f64 c)) = fabs32 c ∧ fits .f64 .f32 (fabs (fcv .f32 .f64 c)) = true := by
  obtain ⟨h1, h2⟩ := fabs32_fl h
  rw [fabs_wide]
  exact ⟨narrow_wide h1 h2, fits_ab (wide_fin h2).1 h2 (Nat.le_refl _)⟩
theorem size_sub {c : Nat} (h : fin .f32 c = true) (hl : fcmp .leq .f32 c 0 = true) : fop .sub .f32 0 c = fabs32 c := by
  rw [(fcmp_fin h (fin_zero _)).2.1, sv_zero, decide_eq_true_eq] at hl
  have hr : rung .f32 (fop .sub .f32 0 c) = rung .f32 c := by
    rw [fop_sub_near (fin_zero _) h]
    exact rung_near_self h _ (by rw [sv_zero, Int.zero_sub, Int.natAbs_neg, sv_abs])
  refine word_ext (k := .f32) (wf_fop _ _ _ _) (fabs32_fl h).1.wf (by rw [hr, rung_fabs32]) ?_
  rw [fop_sub_near (fin_zero _) h, nearest_sgn, sgn_fabs32, sv_zero, Int.zero_sub]
  split
  · rfl
  · rw [decide_eq_false_iff_not]; omega
theorem size_same {c : Nat} (hc : Fl .f32 c c) (h : fin .f32 c = true) (hl : fcmp .leq .f32 c 0 = false) : c = fabs32 c := by
  rw [(fcmp_fin h (fin_zero _)).2.1, sv_zero, decide_eq_false_iff_not] at hl
  have hs := sgn_of_pos (k := .f32) (x := c) (by omega)
  exact word_ext (k := .f32) hc.wf (fabs32_fl h).1.wf (by rw [rung_fabs32]) (by rw [hs, sgn_fabs32])
theorem absolute_any {c : Nat} (hc : Fl .f32 c c) (h : fin .f32 c = true) (w : World) : Calls Try.prog 92 #[.float .f32 c] w (RT (.float .f32 (fabs32 c)) w) := by
  obtain ⟨e1, e2⟩ := abs_narrow h
  have E1 := Hb.mk e1
  have E2 := Hb.mk e2
  have K := Hb.mk (fin_notN (fabs32_fl h).2)
  clear e1 e2
  go_enter Try.func92, Try.ntmps92
  go_wp2_with (first | (refine wpList_fcv rfl rfl rfl (by kernel_rfl) Try.underlying38 (by decide) (by first | (with_reducible assumption) | (with_reducible exact Fl.ofInt _ _) | exact Fl.not (by decide +kernel) (by decide +kernel)) (fits_wide _) ?_; intro r n hr; simp only [Act.put, List.setIfInBounds_toArray, List.set_cons_succ, List.set_cons_zero]) | (go_at_call 114; refine (abs_any (by assumption) _).mono ?_; rintro e w' ⟨r, n, rfl, hr, rfl⟩) | (refine wpList_fcv rfl rfl rfl (by kernel_rfl) Try.underlying22 (by decide) (by first | (with_reducible assumption) | (with_reducible exact Fl.ofInt _ _) | exact Fl.not (by decide +kernel) (by decide +kernel)) E2.out ?_; intro r n hr; simp only [Act.put, List.setIfInBounds_toArray, List.set_cons_succ, List.set_cons_zero]))
  go_ret
  rw [E1.out] at hr
  obtain rfl := hr.word K.out
  exact RT.any (by repeat (first | exact Drew.refl _ | refine Drew.more ?_))
theorem l02Size_any {c : Nat} (hc : Fl .f32 c c) (h : fin .f32 c = true) (w : World) : Calls Try.prog 91 #[.float .f32 c] w (RT (.float .f32 (fabs32 c)) w) := by
  cases hl : fcmp .leq .f32 c 0
  · have E := Hb.mk (size_same hc h hl)
    go_enter Try.func91, Try.ntmps91
    go_wp2_with (first | (refine wpList_fcmp rfl rfl rfl rfl rfl (by first | (with_reducible assumption) | (with_reducible exact Fl.ofInt _ _) | exact Fl.not (by decide +kernel) (by decide +kernel)) (by first | (with_reducible assumption) | (with_reducible exact Fl.ofInt _ _) | exact Fl.not (by decide +kernel) (by decide +kernel)) ?_; simp only [Act.put, List.setIfInBounds_toArray, List.set_cons_succ, List.set_cons_zero, hl]))
    go_ret
    rw [← E.out]
    exact RT.any (by repeat (first | exact Drew.refl _ | refine Drew.more ?_))
  · have E := Hb.mk (size_sub h hl)
    have K := Hb.mk (fin_notN (fabs32_fl h).2)
    go_enter Try.func91, Try.ntmps91
    go_wp2_with (first | (refine wpList_fcmp rfl rfl rfl rfl rfl (by first | (with_reducible assumption) | (with_reducible exact Fl.ofInt _ _) | exact Fl.not (by decide +kernel) (by decide +kernel)) (by first | (with_reducible assumption) | (with_reducible exact Fl.ofInt _ _) | exact Fl.not (by decide +kernel) (by decide +kernel)) ?_; simp only [Act.put, List.setIfInBounds_toArray, List.set_cons_succ, List.set_cons_zero, hl]) | (refine wpList_fop rfl rfl rfl rfl rfl (by first | (with_reducible assumption) | (with_reducible exact Fl.ofInt _ _) | exact Fl.not (by decide +kernel) (by decide +kernel)) (by first | (with_reducible assumption) | (with_reducible exact Fl.ofInt _ _) | exact Fl.not (by decide +kernel) (by decide +kernel)) ?_; intro r n hr; simp only [Act.put, List.setIfInBounds_toArray, List.set_cons_succ, List.set_cons_zero]))
    go_ret
    rw [E.out] at hr
    obtain rfl := hr.word K.out
    exact RT.any (by repeat (first | exact Drew.refl _ | refine Drew.more ?_))
def cplD (n1 n2 : Nat) : Nat := fop .sub .f32 n2 n1
def cplF (n1 e1 n2 e2 : Nat) : Nat := fop .quo .f32 (cplD n1 n2) (cosC (cpsC n1 e1 n2 e2))
def cplM (n1 e1 e2 : Nat) : Nat := fop .mul .f32 (fabs32 (cpsW e1 e2)) (cosC n1)
structure Cpl (n1 e1 n2 e2 : Nat) : Prop where
  K : Ab .f32 (cosC (cpsC n1 e1 n2 e2)) 1073741824
  D : Ab .f32 (cplD n1 n2) 1056964608
  F : fcmp .gtr .f32 (fabs32 (cosC (cpsC n1 e1 n2 e2))) 1008981770 = true → fin .f32 (cplF n1 e1 n2 e2) = true
  M : fin .f32 (cplM n1 e1 e2) = true
theorem Cpl.of {n1 e1 n2 e2 : Nat} (v1 : validC n1 e1 = true) (v2 : validC n2 e2 = true) (o1 : stretOk n1 = true) (o2 : stretOk n2 = true) : Cpl n1 e1 n2 e2 := by
  obtain ⟨t1, t2⟩ := turns_of v1
  obtain ⟨t3, t4⟩ := turns_of v2
  have hc := Cps.of (n1 := n1) (n2 := n2) t2 t4 o1 o2
  have hk := cos_ab (hc.C.mono (c := 1148846080) (by decide +kernel) (by decide +kernel))
  have hd : Ab .f32 (cplD n1 n2) 1056964608 := sub_ab (valid_ab v2).1 (valid_ab v1).1 (by decide +kernel) (by decide +kernel)
  refine ⟨hk, hd, fun hg => ?_, ?_⟩
  · have hf := (fabs32_fl hk.fin).2
    rw [(fcmp_fin hf (by decide +kernel)).2.2.1, decide_eq_true_eq, sv_pos (sgn_fabs32 _), rung_fabs32] at hg
    have h1 : sv .f32 1008981770 = (val FloatKind.f32.format (rung .f32 1008981770) : Nat) := by decide +kernel
    rw [h1] at hg
    exact (quo_ab (c := 1115684864) (d := 1008981770) hd hk.fin (le_of_val (by omega)) (by decide +kernel) (by decide +kernel) (by decide +kernel)).1.fin
  · have ha : Ab .f32 (fabs32 (cpsW e1 e2)) 1174405120 := ⟨by rw [rung_fabs32]; exact hc.W.le, hc.W.fit⟩
    exact (mul_ab (c := 1191182336) ha t1.cos (by decide +kernel) (by decide +kernel)).fin
set_option maxHeartbeats 2000000 in
theorem iCpl_far {n1 e1 n2 e2 : Nat} (h1 : Fl .f32 n1 n1) (h2 : Fl .f32 e1 e1) (h3 : Fl .f32 n2 n2) (h4 : Fl .f32 e2 e2) (v1 : validC n1 e1 = true) (v2 : validC n2 e2 = true) (o1 : stretOk n1 = true) (o2 : stretOk n2 = true) (hg : fcmp .gtr .f32 (fabs32 (cosC (cpsC n1 e1 n2 e2))) 1008981770 = true) (w : World) : Calls Try.prog 33 #[pl n1 e1, pl n2 e2] w (RS (flT2 (fabs32 (cplF n1 e1 n2 e2)) true) w) := by
  obtain ⟨t1, t2⟩ := turns_of v1
  obtain ⟨t3, t4⟩ := turns_of v2
  have hc := Cps.of (n1 := n1) (n2 := n2) t2 t4 o1 o2
  have hl := Cpl.of v1 v2 o1 o2
  have HC := Hb.mk (iCps_yes h1 h2 h3 h4 v1 v2 o1 o2)
  have KK := Hb.mk (fun w => exactF (cosineTurns_any hc.fC w) hl.K.fin)
  have fK : Fl .f32 (cosC (cpsC n1 e1 n2 e2)) (cosC (cpsC n1 e1 n2 e2)) := sine_ok hl.K.fin
  have KA := Hb.mk (absolute_any fK hl.K.fin)
  have fA := (fabs32_fl hl.K.fin).1
  have hq : fcmp .leq .f32 (fabs32 (cosC (cpsC n1 e1 n2 e2))) 1008981770 = false := by
    have hf := (fabs32_fl hl.K.fin).2
    rw [(fcmp_fin hf (by decide +kernel)).2.2.1, decide_eq_true_eq] at hg
    rw [(fcmp_fin hf (by decide +kernel)).2.1, decide_eq_false_iff_not]; omega
  have hF := hl.F hg
  have fF : Fl .f32 (cplF n1 e1 n2 e2) (cplF n1 e1 n2 e2) := fop_fl (op := .quo) hF
  have KB := Hb.mk (absolute_any fF hF)
  have fB := (fabs32_fl hF).1
  have HF : Ab .f32 (cplF n1 e1 n2 e2) (cplF n1 e1 n2 e2) := ab_self hF
  have fD : Fl .f32 (cplD n1 n2) (cplD n1 n2) := fop_fl (op := .sub) (k := .f32) (x := n2) (y := n1) hl.D.fin
  have eD := Hb.mk (show fop .sub .f32 (n2) (n1) = cplD n1 n2 from rfl)
  have kD := Hb.mk (fin_notN hl.D.fin)
  have mD : Hb (∀ w, (binOp .sub 22 (.float .f32 (n2)) (.float .f32 (n1))).run Try.prog w = .ok (.float .f32 (cplD n1 n2)) w) := ⟨fop_exact _ hl.D.fin⟩
  have fF : Fl .f32 (cplF n1 e1 n2 e2) (cplF n1 e1 n2 e2) := fop_fl (op := .quo) (k := .f32) (x := cplD n1 n2) (y := cosC (cpsC n1 e1 n2 e2)) HF.fin
  have eF := Hb.mk (show fop .quo .f32 (cplD n1 n2) (cosC (cpsC n1 e1 n2 e2)) = cplF n1 e1 n2 e2 from rfl)
  have kF := Hb.mk (fin_notN HF.fin)
  have mF : Hb (∀ w, (binOp .quo 22 (.float .f32 (cplD n1 n2)) (.float .f32 (cosC (cpsC n1 e1 n2 e2)))).run Try.prog w = .ok (.float .f32 (cplF n1 e1 n2 e2)) w) := ⟨fop_exact _ HF.fin⟩
  have fn1 := h1
  have fn2 := h3
  clear HF hF hl hc v1 v2 o1 o2 t1 t2 t3 t4 hg
  generalize fabs32 (cplF n1 e1 n2 e2) = Bv at *
  generalize cplF n1 e1 n2 e2 = F at *
  generalize cplD n1 n2 = D at *
  generalize fabs32 (cosC (cpsC n1 e1 n2 e2)) = Av at *
  generalize cosC (cpsC n1 e1 n2 e2) = K at *
  generalize cpsC n1 e1 n2 e2 = G at *
  have B0 := Hb.mk (Below.refl w.heap.size w)
  go_enter Try.func33, Try.ntmps33
  go_wp2_with (first
    | (go_at_call 31; refine (HC.out _).mono ?_; rintro ex w1 ⟨rfl, b1⟩; have B1 := Hb.mk (Below.on (B := w.heap.size) (a := w) (by repeat (first | exact B0.out | refine Below.drews ?_ | refine Below.drew ?_ | refine Below.alloc ?_ (by have hq_ := B0.out.size; first | omega | (simp <;> omega)) _ | refine Below.setCell ?_ (by have hq_ := B0.out.size; first | omega | (simp <;> omega)) _)) b1 (by have hq_ := B0.out.size; first | omega | (simp <;> omega))); have p0 := Hb.mk (At.keep b1 (p := ⟨w.heap.size, 0, none⟩) (v := .float .f32 n1) (by simp [go_sem]) (by simp [go_sem])); obtain ⟨p0c, p0z, p0l⟩ := p0.out; have p1 := Hb.mk (At.keep b1 (p := ⟨w.heap.size, 1, none⟩) (v := .float .f32 e1) (by simp [go_sem]) (by simp [go_sem])); obtain ⟨p1c, p1z, p1l⟩ := p1.out; have q0 := Hb.mk (At.keep b1 (p := ⟨w.heap.size + 1, 0, none⟩) (v := .float .f32 n2) (by simp [go_sem]) (by simp [go_sem])); obtain ⟨q0c, q0z, q0l⟩ := q0.out; have q1 := Hb.mk (At.keep b1 (p := ⟨w.heap.size + 1, 1, none⟩) (v := .float .f32 e2) (by simp [go_sem]) (by simp [go_sem])); obtain ⟨q1c, q1z, q1l⟩ := q1.out; clear b1)
    | (go_at_call_of 85 (Value.float .f32 G); refine (KK.out _).mono ?_; rintro ee ww ⟨rfl, nn, rfl⟩)
    | (go_at_call_of 92 (Value.float .f32 K); refine (KA.out _).mono ?_; rintro ee ww ⟨rfl, nn, rfl⟩)
    | (refine wpList_fcmp rfl rfl rfl rfl rfl (by first | (with_reducible assumption) | (with_reducible exact Fl.ofInt _ _) | exact Fl.not (by decide +kernel) (by decide +kernel)) (by first | (with_reducible assumption) | (with_reducible exact Fl.ofInt _ _) | exact Fl.not (by decide +kernel) (by decide +kernel)) ?_; simp only [Act.put, List.setIfInBounds_toArray, List.set_cons_succ, List.set_cons_zero, hq])
    | (refine wpList_fop rfl rfl rfl rfl rfl fn2 fn1 ?_; intro rr nn hr; rw [eD.out] at hr; obtain rfl := (hr.word kD.out).symm; simp only [Act.put, List.setIfInBounds_toArray, List.set_cons_succ, List.set_cons_zero]) | (refine wpList_fop rfl rfl rfl rfl rfl fD fK ?_; intro rr nn hr; rw [eF.out] at hr; obtain rfl := (hr.word kF.out).symm; simp only [Act.put, List.setIfInBounds_toArray, List.set_cons_succ, List.set_cons_zero])
    | (go_at_call_of 92 (Value.float .f32 F); refine (KB.out _).mono ?_; rintro ee ww ⟨rfl, nn, rfl⟩))
  go_ret2
  exact ⟨rfl, (by repeat (first | exact Below.refl _ _ | exact B1.out | refine Below.drews ?_ | refine Below.drew ?_ | refine Below.alloc ?_ (by first | omega | (simp <;> omega)) _ | refine Below.setCell ?_ (by first | omega | (simp <;> omega)) _))⟩
set_option maxHeartbeats 2000000 in
theorem iCpl_near {n1 e1 n2 e2 : Nat} (h1 : Fl .f32 n1 n1) (h2 : Fl .f32 e1 e1) (h3 : Fl .f32 n2 n2) (h4 : Fl .f32 e2 e2) (v1 : validC n1 e1 = true) (v2 : validC n2 e2 = true) (o1 : stretOk n1 = true) (o2 : stretOk n2 = true) (hg : fcmp .gtr .f32 (fabs32 (cosC (cpsC n1 e1 n2 e2))) 1008981770 = false) (w : World) : Calls Try.prog 33 #[pl n1 e1, pl n2 e2] w (RS (flT2 (fabs32 (cplM n1 e1 e2)) true) w) := by
  obtain ⟨t1, t2⟩ := turns_of v1
  obtain ⟨t3, t4⟩ := turns_of v2
  have hc := Cps.of (n1 := n1) (n2 := n2) t2 t4 o1 o2
  have hl := Cpl.of v1 v2 o1 o2
  have HC := Hb.mk (iCps_yes h1 h2 h3 h4 v1 v2 o1 o2)
  have KK := Hb.mk (fun w => exactF (cosineTurns_any hc.fC w) hl.K.fin)
  have fK : Fl .f32 (cosC (cpsC n1 e1 n2 e2)) (cosC (cpsC n1 e1 n2 e2)) := sine_ok hl.K.fin
  have KA := Hb.mk (absolute_any fK hl.K.fin)
  have fA := (fabs32_fl hl.K.fin).1
  have hq : fcmp .leq .f32 (fabs32 (cosC (cpsC n1 e1 n2 e2))) 1008981770 = true := by
    have hf := (fabs32_fl hl.K.fin).2
    rw [(fcmp_fin hf (by decide +kernel)).2.2.1, decide_eq_false_iff_not] at hg
    rw [(fcmp_fin hf (by decide +kernel)).2.1, decide_eq_true_eq]; omega
  have hE' := hc.E.mono (c := 1148846080) (by decide +kernel) (by decide +kernel)
  have KW := Hb.mk (fun w => exactF (wrapped_any (c := crsE e1 e2) (x := crsE e1 e2) (fop_fl (op := .sub) hc.E.fin) hE' w) hc.W.fin)
  change Hb (∀ w, Calls Try.prog 89 #[.float .f32 (crsE e1 e2)] w (RT (.float .f32 (cpsW e1 e2)) w)) at KW
  have KX := Hb.mk (absolute_any hc.fW hc.W.fin)
  have fX := (fabs32_fl hc.W.fin).1
  have KO := Hb.mk (fun w => exactF (cosineTurns_any h1 w) t1.cos.fin)
  have fO : Fl .f32 (cosC n1) (cosC n1) := sine_ok t1.cos.fin
  have fM' : Fl .f32 (cplM n1 e1 e2) (cplM n1 e1 e2) := fop_fl (op := .mul) hl.M
  have KB := Hb.mk (absolute_any fM' hl.M)
  have fB := (fabs32_fl hl.M).1
  have HM : Ab .f32 (cplM n1 e1 e2) (cplM n1 e1 e2) := ab_self hl.M
  have fE : Fl .f32 (crsE e1 e2) (crsE e1 e2) := fop_fl (op := .sub) (k := .f32) (x := e2) (y := e1) hc.E.fin
  have eE := Hb.mk (show fop .sub .f32 (e2) (e1) = crsE e1 e2 from rfl)
  have kE := Hb.mk (fin_notN hc.E.fin)
  have mE : Hb (∀ w, (binOp .sub 22 (.float .f32 (e2)) (.float .f32 (e1))).run Try.prog w = .ok (.float .f32 (crsE e1 e2)) w) := ⟨fop_exact _ hc.E.fin⟩
  have fM : Fl .f32 (cplM n1 e1 e2) (cplM n1 e1 e2) := fop_fl (op := .mul) (k := .f32) (x := fabs32 (cpsW e1 e2)) (y := cosC n1) HM.fin
  have eM := Hb.mk (show fop .mul .f32 (fabs32 (cpsW e1 e2)) (cosC n1) = cplM n1 e1 e2 from rfl)
  have kM := Hb.mk (fin_notN HM.fin)
  have mM : Hb (∀ w, (binOp .mul 22 (.float .f32 (fabs32 (cpsW e1 e2))) (.float .f32 (cosC n1))).run Try.prog w = .ok (.float .f32 (cplM n1 e1 e2)) w) := ⟨fop_exact _ HM.fin⟩
  have fe1 := h2
  have fe2 := h4
  clear HM hE' hl hc v1 v2 o1 o2 t1 t2 t3 t4 hg
  generalize fabs32 (cplM n1 e1 e2) = Bv at *
  generalize cplM n1 e1 e2 = M at *
  generalize cosC n1 = O at *
  generalize fabs32 (cpsW e1 e2) = X at *
  generalize cpsW e1 e2 = W at *
  generalize crsE e1 e2 = E at *
  generalize fabs32 (cosC (cpsC n1 e1 n2 e2)) = Av at *
  generalize cosC (cpsC n1 e1 n2 e2) = K at *
  generalize cpsC n1 e1 n2 e2 = G at *
  have B0 := Hb.mk (Below.refl w.heap.size w)
  go_enter Try.func33, Try.ntmps33
  go_wp2_with (first
    | (go_at_call 31; refine (HC.out _).mono ?_; rintro ex w1 ⟨rfl, b1⟩; have B1 := Hb.mk (Below.on (B := w.heap.size) (a := w) (by repeat (first | exact B0.out | refine Below.drews ?_ | refine Below.drew ?_ | refine Below.alloc ?_ (by have hq_ := B0.out.size; first | omega | (simp <;> omega)) _ | refine Below.setCell ?_ (by have hq_ := B0.out.size; first | omega | (simp <;> omega)) _)) b1 (by have hq_ := B0.out.size; first | omega | (simp <;> omega))); have p0 := Hb.mk (At.keep b1 (p := ⟨w.heap.size, 0, none⟩) (v := .float .f32 n1) (by simp [go_sem]) (by simp [go_sem])); obtain ⟨p0c, p0z, p0l⟩ := p0.out; have p1 := Hb.mk (At.keep b1 (p := ⟨w.heap.size, 1, none⟩) (v := .float .f32 e1) (by simp [go_sem]) (by simp [go_sem])); obtain ⟨p1c, p1z, p1l⟩ := p1.out; have q0 := Hb.mk (At.keep b1 (p := ⟨w.heap.size + 1, 0, none⟩) (v := .float .f32 n2) (by simp [go_sem]) (by simp [go_sem])); obtain ⟨q0c, q0z, q0l⟩ := q0.out; have q1 := Hb.mk (At.keep b1 (p := ⟨w.heap.size + 1, 1, none⟩) (v := .float .f32 e2) (by simp [go_sem]) (by simp [go_sem])); obtain ⟨q1c, q1z, q1l⟩ := q1.out; clear b1)
    | (go_at_call_of 85 (Value.float .f32 G); refine (KK.out _).mono ?_; rintro ee ww ⟨rfl, nn, rfl⟩)
    | (go_at_call_of 92 (Value.float .f32 K); refine (KA.out _).mono ?_; rintro ee ww ⟨rfl, nn, rfl⟩)
    | (refine wpList_fcmp rfl rfl rfl rfl rfl (by first | (with_reducible assumption) | (with_reducible exact Fl.ofInt _ _) | exact Fl.not (by decide +kernel) (by decide +kernel)) (by first | (with_reducible assumption) | (with_reducible exact Fl.ofInt _ _) | exact Fl.not (by decide +kernel) (by decide +kernel)) ?_; simp only [Act.put, List.setIfInBounds_toArray, List.set_cons_succ, List.set_cons_zero, hq]))
  refine region_all (by kernel_rfl) (by kernel_rfl) (fun I F hne HB hcl => ?_)
  have a0 := keepF HB (p := ⟨w.heap.size, 0, none⟩) (v := .float .f32 n1) (by first | exact p0c | simp [go_sem, p0c])
  have a1 := keepF HB (p := ⟨w.heap.size, 1, none⟩) (v := .float .f32 e1) (by first | exact p1c | simp [go_sem, p1c])
  have b1 := keepF HB (p := ⟨w.heap.size + 1, 1, none⟩) (v := .float .f32 e2) (by first | exact q1c | simp [go_sem, q1c])
  have gE := mE.out
  have gM := mM.out
  repeat (quiet_step (first | (go_at_call 89; exact callD hcl (KW.out _)) | (go_at_call_of 92 (Value.float .f32 W); exact callD hcl (KX.out _)) | (go_at_call_of 85 (Value.float .f32 n1); exact callD hcl (KO.out _)) | (go_at_call_of 92 (Value.float .f32 M); exact callD hcl (KB.out _))))
  refine wpQuiet_nil ?_
  intro _ hw'
  obtain ⟨iq, rfl⟩ := hw'
  clear hcl
  have E1 := Hb.mk (HB.out iq)
  go_wp2
  go_ret2
  exact ⟨rfl, (by repeat (first | exact Below.refl _ _ | refine Below.on ?_ E1.out (by first | omega | (simp <;> omega)) | exact B1.out | refine Below.drews ?_ | refine Below.drew ?_ | refine Below.alloc ?_ (by first | omega | (simp <;> omega)) _ | refine Below.setCell ?_ (by first | omega | (simp <;> omega)) _))⟩
theorem iCpl_no {a b c d : Nat} (K : ∀ w, Calls Try.prog 31 #[pl a b, pl c d] w (RS (flT2 0 false) w)) (w : World) : Calls Try.prog 33 #[pl a b, pl c d] w (RS (flT2 0 false) w) := by
  have HC := Hb.mk K
  clear K
  have B0 := Hb.mk (Below.refl w.heap.size w)
  go_enter Try.func33, Try.ntmps33
  go_wp2_with (first | (go_at_call 31; refine (HC.out _).mono ?_; rintro ex w1 ⟨rfl, b1⟩; have B1 := Hb.mk (Below.on (B := w.heap.size) (a := w) (by repeat (first | exact B0.out | refine Below.drews ?_ | refine Below.drew ?_ | refine Below.alloc ?_ (by have hq_ := B0.out.size; first | omega | (simp <;> omega)) _ | refine Below.setCell ?_ (by have hq_ := B0.out.size; first | omega | (simp <;> omega)) _)) b1 (by have hq_ := B0.out.size; first | omega | (simp <;> omega))); clear b1))
  go_ret2
  exact ⟨rfl, (by repeat (first | exact Below.refl _ _ | exact B1.out | refine Below.drews ?_ | refine Below.drew ?_ | refine Below.alloc ?_ (by first | omega | (simp <;> omega)) _ | refine Below.setCell ?_ (by first | omega | (simp <;> omega)) _))⟩
set_option maxHeartbeats 2000000 in
theorem sCpl_far {n1 e1 n2 e2 : Nat} (h1 : Fl .f32 n1 n1) (h2 : Fl .f32 e1 e1) (h3 : Fl .f32 n2 n2) (h4 : Fl .f32 e2 e2) (v1 : validC n1 e1 = true) (v2 : validC n2 e2 = true) (o1 : stretOk n1 = true) (o2 : stretOk n2 = true) (hg : fcmp .gtr .f32 (fabs32 (cosC (cpsC n1 e1 n2 e2))) 1008981770 = true) (w : World) : Calls Try.prog 32 #[pl n1 e1, pl n2 e2] w (RS (flT2 (fabs32 (cplF n1 e1 n2 e2)) true) w) := by
  obtain ⟨t1, t2⟩ := turns_of v1
  obtain ⟨t3, t4⟩ := turns_of v2
  have hc := Cps.of (n1 := n1) (n2 := n2) t2 t4 o1 o2
  have hl := Cpl.of v1 v2 o1 o2
  have HC := Hb.mk (sCps_yes h1 h2 h3 h4 v1 v2 o1 o2)
  have KK := Hb.mk (fun w => exactF (l02Cosine_any hc.fC w) hl.K.fin)
  have fK : Fl .f32 (cosC (cpsC n1 e1 n2 e2)) (cosC (cpsC n1 e1 n2 e2)) := sine_ok hl.K.fin
  have KA := Hb.mk (l02Size_any fK hl.K.fin)
  have fA := (fabs32_fl hl.K.fin).1
  have hF := hl.F hg
  have fF : Fl .f32 (cplF n1 e1 n2 e2) (cplF n1 e1 n2 e2) := fop_fl (op := .quo) hF
  have KB := Hb.mk (l02Size_any fF hF)
  have fB := (fabs32_fl hF).1
  have HF : Ab .f32 (cplF n1 e1 n2 e2) (cplF n1 e1 n2 e2) := ab_self hF
  have fD : Fl .f32 (cplD n1 n2) (cplD n1 n2) := fop_fl (op := .sub) (k := .f32) (x := n2) (y := n1) hl.D.fin
  have eD := Hb.mk (show fop .sub .f32 (n2) (n1) = cplD n1 n2 from rfl)
  have kD := Hb.mk (fin_notN hl.D.fin)
  have mD : Hb (∀ w, (binOp .sub 22 (.float .f32 (n2)) (.float .f32 (n1))).run Try.prog w = .ok (.float .f32 (cplD n1 n2)) w) := ⟨fop_exact _ hl.D.fin⟩
  have fF : Fl .f32 (cplF n1 e1 n2 e2) (cplF n1 e1 n2 e2) := fop_fl (op := .quo) (k := .f32) (x := cplD n1 n2) (y := cosC (cpsC n1 e1 n2 e2)) HF.fin
  have eF := Hb.mk (show fop .quo .f32 (cplD n1 n2) (cosC (cpsC n1 e1 n2 e2)) = cplF n1 e1 n2 e2 from rfl)
  have kF := Hb.mk (fin_notN HF.fin)
  have mF : Hb (∀ w, (binOp .quo 22 (.float .f32 (cplD n1 n2)) (.float .f32 (cosC (cpsC n1 e1 n2 e2)))).run Try.prog w = .ok (.float .f32 (cplF n1 e1 n2 e2)) w) := ⟨fop_exact _ HF.fin⟩
  have fn1 := h1
  have fn2 := h3
  have KN := Hb.mk (fun w => exactP (l02Number_yes fB (fabs32_fl hF).2 w) (fabs32_fl hF).2)
  clear HF hF hl hc v1 v2 o1 o2 t1 t2 t3 t4
  generalize fabs32 (cplF n1 e1 n2 e2) = Bv at *
  generalize cplF n1 e1 n2 e2 = F at *
  generalize cplD n1 n2 = D at *
  generalize fabs32 (cosC (cpsC n1 e1 n2 e2)) = Av at *
  generalize cosC (cpsC n1 e1 n2 e2) = K at *
  generalize cpsC n1 e1 n2 e2 = G at *
  have B0 := Hb.mk (Below.refl w.heap.size w)
  go_enter Try.func32, Try.ntmps32
  go_wp2_with (first
    | (go_at_call 30; refine (HC.out _).mono ?_; rintro ex w1 ⟨rfl, b1⟩; have B1 := Hb.mk (Below.on (B := w.heap.size) (a := w) (by repeat (first | exact B0.out | refine Below.drews ?_ | refine Below.drew ?_ | refine Below.alloc ?_ (by have hq_ := B0.out.size; first | omega | (simp <;> omega)) _ | refine Below.setCell ?_ (by have hq_ := B0.out.size; first | omega | (simp <;> omega)) _)) b1 (by have hq_ := B0.out.size; first | omega | (simp <;> omega))); have p0 := Hb.mk (At.keep b1 (p := ⟨w.heap.size, 0, none⟩) (v := .float .f32 n1) (by simp [go_sem]) (by simp [go_sem])); obtain ⟨p0c, p0z, p0l⟩ := p0.out; have p1 := Hb.mk (At.keep b1 (p := ⟨w.heap.size, 1, none⟩) (v := .float .f32 e1) (by simp [go_sem]) (by simp [go_sem])); obtain ⟨p1c, p1z, p1l⟩ := p1.out; have q0 := Hb.mk (At.keep b1 (p := ⟨w.heap.size + 1, 0, none⟩) (v := .float .f32 n2) (by simp [go_sem]) (by simp [go_sem])); obtain ⟨q0c, q0z, q0l⟩ := q0.out; have q1 := Hb.mk (At.keep b1 (p := ⟨w.heap.size + 1, 1, none⟩) (v := .float .f32 e2) (by simp [go_sem]) (by simp [go_sem])); obtain ⟨q1c, q1z, q1l⟩ := q1.out; clear b1)
    | (go_at_call_of 90 (Value.float .f32 G); refine (KK.out _).mono ?_; rintro ee ww ⟨rfl, nn, rfl⟩)
    | (go_at_call_of 91 (Value.float .f32 K); refine (KA.out _).mono ?_; rintro ee ww ⟨rfl, nn, rfl⟩)
    | (refine wpList_fcmp rfl rfl rfl rfl rfl (by first | (with_reducible assumption) | (with_reducible exact Fl.ofInt _ _) | exact Fl.not (by decide +kernel) (by decide +kernel)) (by first | (with_reducible assumption) | (with_reducible exact Fl.ofInt _ _) | exact Fl.not (by decide +kernel) (by decide +kernel)) ?_; simp only [Act.put, List.setIfInBounds_toArray, List.set_cons_succ, List.set_cons_zero, hg])
    | (refine wpList_fop rfl rfl rfl rfl rfl fn2 fn1 ?_; intro rr nn hr; rw [eD.out] at hr; obtain rfl := (hr.word kD.out).symm; simp only [Act.put, List.setIfInBounds_toArray, List.set_cons_succ, List.set_cons_zero]) | (refine wpList_fop rfl rfl rfl rfl rfl fD fK ?_; intro rr nn hr; rw [eF.out] at hr; obtain rfl := (hr.word kF.out).symm; simp only [Act.put, List.setIfInBounds_toArray, List.set_cons_succ, List.set_cons_zero])
    | (go_at_call_of 91 (Value.float .f32 F); refine (KB.out _).mono ?_; rintro ee ww ⟨rfl, nn, rfl⟩)
    | (go_at_call 70; refine (KN.out _).mono ?_; rintro ee ww ⟨rfl, nn, rfl⟩))
  go_ret2
  exact ⟨rfl, (by repeat (first | exact Below.refl _ _ | exact B1.out | refine Below.drews ?_ | refine Below.drew ?_ | refine Below.alloc ?_ (by first | omega | (simp <;> omega)) _ | refine Below.setCell ?_ (by first | omega | (simp <;> omega)) _))⟩
set_option maxHeartbeats 2000000 in
theorem sCpl_near {n1 e1 n2 e2 : Nat} (h1 : Fl .f32 n1 n1) (h2 : Fl .f32 e1 e1) (h3 : Fl .f32 n2 n2) (h4 : Fl .f32 e2 e2) (v1 : validC n1 e1 = true) (v2 : validC n2 e2 = true) (o1 : stretOk n1 = true) (o2 : stretOk n2 = true) (hg : fcmp .gtr .f32 (fabs32 (cosC (cpsC n1 e1 n2 e2))) 1008981770 = false) (w : World) : Calls Try.prog 32 #[pl n1 e1, pl n2 e2] w (RS (flT2 (fabs32 (cplM n1 e1 e2)) true) w) := by
  obtain ⟨t1, t2⟩ := turns_of v1
  obtain ⟨t3, t4⟩ := turns_of v2
  have hc := Cps.of (n1 := n1) (n2 := n2) t2 t4 o1 o2
  have hl := Cpl.of v1 v2 o1 o2
  have HC := Hb.mk (sCps_yes h1 h2 h3 h4 v1 v2 o1 o2)
  have KK := Hb.mk (fun w => exactF (l02Cosine_any hc.fC w) hl.K.fin)
  have fK : Fl .f32 (cosC (cpsC n1 e1 n2 e2)) (cosC (cpsC n1 e1 n2 e2)) := sine_ok hl.K.fin
  have KA := Hb.mk (l02Size_any fK hl.K.fin)
  have fA := (fabs32_fl hl.K.fin).1
  have hE' := hc.E.mono (c := 1148846080) (by decide +kernel) (by decide +kernel)
  have KW := Hb.mk (fun w => exactF (l02Wrap_any (c := crsE e1 e2) (x := crsE e1 e2) (fop_fl (op := .sub) hc.E.fin) hE' w) hc.W.fin)
  change Hb (∀ w, Calls Try.prog 87 #[.float .f32 (crsE e1 e2)] w (RT (.float .f32 (cpsW e1 e2)) w)) at KW
  have KX := Hb.mk (l02Size_any hc.fW hc.W.fin)
  have fX := (fabs32_fl hc.W.fin).1
  have KO := Hb.mk (fun w => exactF (l02Cosine_any h1 w) t1.cos.fin)
  have fO : Fl .f32 (cosC n1) (cosC n1) := sine_ok t1.cos.fin
  have fM' : Fl .f32 (cplM n1 e1 e2) (cplM n1 e1 e2) := fop_fl (op := .mul) hl.M
  have KB := Hb.mk (l02Size_any fM' hl.M)
  have fB := (fabs32_fl hl.M).1
  have HM : Ab .f32 (cplM n1 e1 e2) (cplM n1 e1 e2) := ab_self hl.M
  have fE : Fl .f32 (crsE e1 e2) (crsE e1 e2) := fop_fl (op := .sub) (k := .f32) (x := e2) (y := e1) hc.E.fin
  have eE := Hb.mk (show fop .sub .f32 (e2) (e1) = crsE e1 e2 from rfl)
  have kE := Hb.mk (fin_notN hc.E.fin)
  have mE : Hb (∀ w, (binOp .sub 22 (.float .f32 (e2)) (.float .f32 (e1))).run Try.prog w = .ok (.float .f32 (crsE e1 e2)) w) := ⟨fop_exact _ hc.E.fin⟩
  have fM : Fl .f32 (cplM n1 e1 e2) (cplM n1 e1 e2) := fop_fl (op := .mul) (k := .f32) (x := fabs32 (cpsW e1 e2)) (y := cosC n1) HM.fin
  have eM := Hb.mk (show fop .mul .f32 (fabs32 (cpsW e1 e2)) (cosC n1) = cplM n1 e1 e2 from rfl)
  have kM := Hb.mk (fin_notN HM.fin)
  have mM : Hb (∀ w, (binOp .mul 22 (.float .f32 (fabs32 (cpsW e1 e2))) (.float .f32 (cosC n1))).run Try.prog w = .ok (.float .f32 (cplM n1 e1 e2)) w) := ⟨fop_exact _ HM.fin⟩
  have fe1 := h2
  have fe2 := h4
  have KN := Hb.mk (fun w => exactP (l02Number_yes fB (fabs32_fl hl.M).2 w) (fabs32_fl hl.M).2)
  clear HM hE' hl hc v1 v2 o1 o2 t1 t2 t3 t4
  generalize fabs32 (cplM n1 e1 e2) = Bv at *
  generalize cplM n1 e1 e2 = M at *
  generalize cosC n1 = O at *
  generalize fabs32 (cpsW e1 e2) = X at *
  generalize cpsW e1 e2 = W at *
  generalize crsE e1 e2 = E at *
  generalize fabs32 (cosC (cpsC n1 e1 n2 e2)) = Av at *
  generalize cosC (cpsC n1 e1 n2 e2) = K at *
  generalize cpsC n1 e1 n2 e2 = G at *
  have B0 := Hb.mk (Below.refl w.heap.size w)
  go_enter Try.func32, Try.ntmps32
  go_wp2_with (first
    | (go_at_call 30; refine (HC.out _).mono ?_; rintro ex w1 ⟨rfl, b1⟩; have B1 := Hb.mk (Below.on (B := w.heap.size) (a := w) (by repeat (first | exact B0.out | refine Below.drews ?_ | refine Below.drew ?_ | refine Below.alloc ?_ (by have hq_ := B0.out.size; first | omega | (simp <;> omega)) _ | refine Below.setCell ?_ (by have hq_ := B0.out.size; first | omega | (simp <;> omega)) _)) b1 (by have hq_ := B0.out.size; first | omega | (simp <;> omega))); have p0 := Hb.mk (At.keep b1 (p := ⟨w.heap.size, 0, none⟩) (v := .float .f32 n1) (by simp [go_sem]) (by simp [go_sem])); obtain ⟨p0c, p0z, p0l⟩ := p0.out; have p1 := Hb.mk (At.keep b1 (p := ⟨w.heap.size, 1, none⟩) (v := .float .f32 e1) (by simp [go_sem]) (by simp [go_sem])); obtain ⟨p1c, p1z, p1l⟩ := p1.out; have q0 := Hb.mk (At.keep b1 (p := ⟨w.heap.size + 1, 0, none⟩) (v := .float .f32 n2) (by simp [go_sem]) (by simp [go_sem])); obtain ⟨q0c, q0z, q0l⟩ := q0.out; have q1 := Hb.mk (At.keep b1 (p := ⟨w.heap.size + 1, 1, none⟩) (v := .float .f32 e2) (by simp [go_sem]) (by simp [go_sem])); obtain ⟨q1c, q1z, q1l⟩ := q1.out; clear b1)
    | (go_at_call_of 90 (Value.float .f32 G); refine (KK.out _).mono ?_; rintro ee ww ⟨rfl, nn, rfl⟩)
    | (go_at_call_of 91 (Value.float .f32 K); refine (KA.out _).mono ?_; rintro ee ww ⟨rfl, nn, rfl⟩)
    | (refine wpList_fcmp rfl rfl rfl rfl rfl (by first | (with_reducible assumption) | (with_reducible exact Fl.ofInt _ _) | exact Fl.not (by decide +kernel) (by decide +kernel)) (by first | (with_reducible assumption) | (with_reducible exact Fl.ofInt _ _) | exact Fl.not (by decide +kernel) (by decide +kernel)) ?_; simp only [Act.put, List.setIfInBounds_toArray, List.set_cons_succ, List.set_cons_zero, hg])
    | (refine wpList_fop rfl rfl rfl rfl rfl fe2 fe1 ?_; intro rr nn hr; rw [eE.out] at hr; obtain rfl := (hr.word kE.out).symm; simp only [Act.put, List.setIfInBounds_toArray, List.set_cons_succ, List.set_cons_zero]) | (refine wpList_fop rfl rfl rfl rfl rfl fX fO ?_; intro rr nn hr; rw [eM.out] at hr; obtain rfl := (hr.word kM.out).symm; simp only [Act.put, List.setIfInBounds_toArray, List.set_cons_succ, List.set_cons_zero])
    | (go_at_call 87; refine (KW.out _).mono ?_; rintro ee ww ⟨rfl, nn, rfl⟩)
    | (go_at_call_of 91 (Value.float .f32 W); refine (KX.out _).mono ?_; rintro ee ww ⟨rfl, nn, rfl⟩)
    | (go_at_call_of 90 (Value.float .f32 n1); refine (KO.out _).mono ?_; rintro ee ww ⟨rfl, nn, rfl⟩)
    | (go_at_call_of 91 (Value.float .f32 M); refine (KB.out _).mono ?_; rintro ee ww ⟨rfl, nn, rfl⟩)
    | (go_at_call 70; refine (KN.out _).mono ?_; rintro ee ww ⟨rfl, nn, rfl⟩))
  go_ret2
  exact ⟨rfl, (by repeat (first | exact Below.refl _ _ | exact B1.out | refine Below.drews ?_ | refine Below.drew ?_ | refine Below.alloc ?_ (by first | omega | (simp <;> omega)) _ | refine Below.setCell ?_ (by first | omega | (simp <;> omega)) _))⟩
theorem sCpl_no {a b c d : Nat} (K : ∀ w, Calls Try.prog 30 #[pl a b, pl c d] w (RS (flT2 0 false) w)) (w : World) : Calls Try.prog 32 #[pl a b, pl c d] w (RS (flT2 0 false) w) := by
  have HC := Hb.mk K
  clear K
  have B0 := Hb.mk (Below.refl w.heap.size w)
  go_enter Try.func32, Try.ntmps32
  go_wp2_with (first | (go_at_call 30; refine (HC.out _).mono ?_; rintro ex w1 ⟨rfl, b1⟩; have B1 := Hb.mk (Below.on (B := w.heap.size) (a := w) (by repeat (first | exact B0.out | refine Below.drews ?_ | refine Below.drew ?_ | refine Below.alloc ?_ (by have hq_ := B0.out.size; first | omega | (simp <;> omega)) _ | refine Below.setCell ?_ (by have hq_ := B0.out.size; first | omega | (simp <;> omega)) _)) b1 (by have hq_ := B0.out.size; first | omega | (simp <;> omega))); clear b1))
  go_ret2
  exact ⟨rfl, (by repeat (first | exact Below.refl _ _ | exact B1.out | refine Below.drews ?_ | refine Below.drew ?_ | refine Below.alloc ?_ (by first | omega | (simp <;> omega)) _ | refine Below.setCell ?_ (by first | omega | (simp <;> omega)) _))⟩
theorem pair_CompassLong {a b c d : Nat} (wa : (Lit.float .f32 a).wf = true) (wb : (Lit.float .f32 b).wf = true) (wc : (Lit.float .f32 c).wf = true) (wd : (Lit.float .f32 d).wf = true) :
    ∃ V ok, Hb (∀ w, Calls Try.prog 32 #[pl a b, pl c d] w (RS (flT2 V ok) w)) ∧ Hb (∀ w, Calls Try.prog 33 #[pl a b, pl c d] w (RS (flT2 V ok) w)) ∧ Fl .f32 V V := by
  have h1 := Fl.own wa
  have h2 := Fl.own wb
  have h3 := Fl.own wc
  have h4 := Fl.own wd
  cases v1 : validC (nrm .f32 a) (nrm .f32 b)
  · exact ⟨_, _, ⟨sCpl_no (sCps_no h1 h2 h3 h4 (by rw [v1]; rfl))⟩, ⟨iCpl_no (iCps_no1 h1 h2 h3 h4 v1)⟩, fl0⟩
  · cases v2 : validC (nrm .f32 c) (nrm .f32 d)
    · exact ⟨_, _, ⟨sCpl_no (sCps_no h1 h2 h3 h4 (by rw [v1, v2]; rfl))⟩, ⟨iCpl_no (iCps_no2 h1 h2 h3 h4 v1 v2)⟩, fl0⟩
    · obtain ⟨t1, t2⟩ := turns_of v1
      obtain ⟨t3, t4⟩ := turns_of v2
      have x1 := t1.word h1
      have x2 := t2.word h2
      have x3 := t3.word h3
      have x4 := t4.word h4
      rw [← x1] at h1 v1 t1
      rw [← x2] at h2 v1 t2
      rw [← x3] at h3 v2 t3
      rw [← x4] at h4 v2 t4
      cases o1 : stretOk a
      · exact ⟨_, _, ⟨sCpl_no (sCps_no3 h1 h2 h3 h4 v1 v2 o1)⟩, ⟨iCpl_no (iCps_no3 h1 h2 h3 h4 v1 v2 o1)⟩, fl0⟩
      · cases o2 : stretOk c
        · exact ⟨_, _, ⟨sCpl_no (sCps_no4 h1 h2 h3 h4 v1 v2 o1 o2)⟩, ⟨iCpl_no (iCps_no4 h1 h2 h3 h4 v1 v2 o1 o2)⟩, fl0⟩
        · have hl := Cpl.of v1 v2 o1 o2
          cases hg : fcmp .gtr .f32 (fabs32 (cosC (cpsC a b c d))) 1008981770
          · exact ⟨_, _, ⟨sCpl_near h1 h2 h3 h4 v1 v2 o1 o2 hg⟩, ⟨iCpl_near h1 h2 h3 h4 v1 v2 o1 o2 hg⟩, (fabs32_fl hl.M).1⟩
          · exact ⟨_, _, ⟨sCpl_far h1 h2 h3 h4 v1 v2 o1 o2 hg⟩, ⟨iCpl_far h1 h2 h3 h4 v1 v2 o1 o2 hg⟩, (fabs32_fl (hl.F hg)).1⟩
set_option maxHeartbeats 2000000 in
theorem law_CompassLong {a0 b0 a1 b1 : Nat} (wa0 : (Lit.float .f32 a0).wf = true) (wb0 : (Lit.float .f32 b0).wf = true) (wa1 : (Lit.float .f32 a1).wf = true) (wb1 : (Lit.float .f32 b1).wf = true) (w : World) : Calls Try.prog 10 #[pl a0 b0, pl a1 b1] w (RS (.bool true) w) := by
  obtain ⟨V, ok, KS, KG, hf⟩ := pair_CompassLong wa0 wb0 wa1 wb1
  have B0 := Hb.mk (Below.refl w.heap.size w)
  cases ok
  all_goals
    go_enter Try.func10, Try.ntmps10
    go_wp2
    refine region_all (by kernel_rfl) (by kernel_rfl) (fun I1 F1 hne1 HB1 hcl => ?_)
    have p1_0_0 := keepF HB1 (p := ⟨w.heap.size, 0, none⟩) (v := .float .f32 a0) (by simp)
    have p1_0_1 := keepF HB1 (p := ⟨w.heap.size, 1, none⟩) (v := .float .f32 b0) (by simp)
    have p1_1_0 := keepF HB1 (p := ⟨w.heap.size + 1, 0, none⟩) (v := .float .f32 a1) (by simp)
    have p1_1_1 := keepF HB1 (p := ⟨w.heap.size + 1, 1, none⟩) (v := .float .f32 b1) (by simp)
    repeat (quiet_step (first | (go_at_call 16; exact callS hcl (toPlace_any _ _ _)) | (go_at_call 32; exact callS hcl (KS.out _)) | (go_at_call 33; exact callS hcl (KG.out _))))
    refine wpQuiet_nil ?_
    intro _ hw'
    obtain ⟨i1, rfl⟩ := hw'
    clear hcl
    go_wp2
    refine region_all (by kernel_rfl) (by kernel_rfl) (fun I2 F2 hne2 HB2 hcl => ?_)
    have p2_0_0 := keepF HB2 (p := ⟨w.heap.size, 0, none⟩) (v := .float .f32 a0) (p1_0_0 i1)
    have p2_0_1 := keepF HB2 (p := ⟨w.heap.size, 1, none⟩) (v := .float .f32 b0) (p1_0_1 i1)
    have p2_1_0 := keepF HB2 (p := ⟨w.heap.size + 1, 0, none⟩) (v := .float .f32 a1) (p1_1_0 i1)
    have p2_1_1 := keepF HB2 (p := ⟨w.heap.size + 1, 1, none⟩) (v := .float .f32 b1) (p1_1_1 i1)
    repeat (quiet_step (first | (go_at_call 16; exact callS hcl (toPlace_any _ _ _)) | (go_at_call 32; exact callS hcl (KS.out _)) | (go_at_call 33; exact callS hcl (KG.out _))))
    refine wpQuiet_nil ?_
    intro _ hw'
    obtain ⟨i2, rfl⟩ := hw'
    clear hcl
    go_wp2_with (first | (refine wpList_fcv rfl rfl rfl (by kernel_rfl) Try.underlying38 (by decide) (by first | (with_reducible assumption) | (with_reducible exact Fl.ofInt _ _) | exact Fl.not (by decide +kernel) (by decide +kernel)) (fits_wide _) ?_; intro r n hr; simp only [Act.put, List.setIfInBounds_toArray, List.set_cons_succ, List.set_cons_zero]) | (go_at_call 25; refine (sameFloat_any (by assumption) (by assumption) _).mono ?_; rintro e w' ⟨rfl, n, rfl⟩))
    go_ret
    refine ⟨rfl, ?_⟩
    have E1 := HB1.out i1
    have E2 := HB2.out i2
    exact Below.drews (Below.on (Below.on (by repeat (first | exact Below.refl _ _ | with_reducible assumption | refine Below.drews ?_ | refine Below.drew ?_ | refine Below.alloc ?_ (by simp <;> omega) _ | refine Below.setCell ?_ (by simp <;> omega) _)) E1 (by simp <;> omega)) E2 (by have := E1.size; simp at this; omega))
end Go.Proofs.Ytjjhklfpdllijaa
