/-
  The course that does not change, of the program and of its model; the exact law CompassCourse. No condition.
-/
import Derived.Test.YtjjhklfpdllijaaCrs
import Derived.Test.YtjjhklfpdllijaaOpp
namespace Go.Proofs.Ytjjhklfpdllijaa
open Go Go.RowKit
set_option maxRecDepth 100000

theorem exactP {k : FloatKind} {c : Nat} {b : Bool} {w : World} {f : FuncId} {args : Array Value} (h : Calls Try.prog f args w (RP k c b w)) (hn : fin k c = true) : Calls Try.prog f args w (RT (.tuple #[.float k c, .bool b]) w) :=
  h.mono fun _ _ ⟨r, n, he, hf, hw⟩ => ⟨by rw [he, hf.word (fin_notN hn)], n, hw⟩
theorem stretV_fin (n : Nat) : fin .f32 (stretV n) = true := by
  cases h : stretOk n
  · have : stretV n = 0 := by unfold stretV; rw [h]; rfl
    rw [this]; exact fin_zero _
  · have : stretV n = stretC n := by unfold stretV; rw [h]; rfl
    rw [this]; unfold stretOk at h; rw [Bool.and_eq_true] at h; exact h.2
theorem lt32_fop (op : BinOp) (x y : Nat) : fop op .f32 x y < 4294967296 := by have := wf_fop op .f32 x y; simpa [Lit.wf] using this
theorem stret_ab {n : Nat} (h : stretOk n = true) : Ab .f32 (stretC n) 1434451968 ∧ stretV n = stretC n := by
  have hv : stretV n = stretC n := by unfold stretV; rw [h]; rfl
  refine ⟨?_, hv⟩
  unfold stretOk at h; rw [Bool.and_eq_true] at h
  have hf := h.2
  unfold stretC at hf ⊢
  have hq := lt32_fop .quo (fop .add .f32 1065353216 (sineC n)) (cosC n)
  generalize fop .quo .f32 (fop .add .f32 1065353216 (sineC n)) (cosC n) = q at *
  have hqn : fin .f32 (qn .f32) = false := by decide +kernel
  rcases classes hq with g | g | g | ⟨g1, g2⟩ | ⟨g1, g2⟩
  · have e : logC q = qn .f32 := by unfold logC; rw [if_pos g]
    rw [e, fop_nan_l (isN_qn _), hqn] at hf; exact absurd hf (by decide)
  · rcases g with rfl | rfl
    · exact absurd hf (by decide +kernel)
    · exact absurd hf (by decide +kernel)
  · subst g; exact absurd hf (by decide +kernel)
  · obtain ⟨r1, r2⟩ := wide_range g1 g2
    obtain ⟨p1, p2, _⟩ := pos_class g1 g2
    have e : logC q = fcv .f64 .f32 (logW (fcv .f32 .f64 q)) := by
      unfold logC
      rw [if_neg (by rw [fin_notN p1]; decide), if_neg (by omega), if_neg (by omega), if_pos (by omega)]
    rw [e]
    have hb := ((logW_bd r1 r2).fits (by decide) (by decide)).2
    have ha : Ab .f32 (fcv .f64 .f32 (logW (fcv .f32 .f64 q))) 1434451968 := ab_of_bd hb (by decide +kernel) (by decide +kernel)
    exact (quo_ab (d := 1082130432) ha (by decide +kernel) (by decide +kernel) (by decide +kernel) (by decide +kernel) (by decide +kernel)).1
  · have e : logC q = qn .f32 := by
      unfold logC
      by_cases hn : isN .f32 q = true
      · rw [if_pos hn]
      · rw [if_neg hn, if_neg (by omega), if_neg (by omega), if_neg (by omega)]
    rw [e, fop_nan_l (isN_qn _), hqn] at hf; exact absurd hf (by decide)
def cpsW (e1 e2 : Nat) : Nat := wrapC (crsE e1 e2)
def cpsT (n1 n2 : Nat) : Nat := fop .sub .f32 (stretC n2) (stretC n1)
def cpsC (n1 e1 n2 e2 : Nat) : Nat := aboveC (angleC (cpsW e1 e2) (cpsT n1 n2))
structure Cps (n1 e1 n2 e2 : Nat) : Prop where
  E : Ab .f32 (crsE e1 e2) 1065353216
  W : Ab .f32 (cpsW e1 e2) 1174405120
  fW : Fl .f32 (cpsW e1 e2) (cpsW e1 e2)
  T : Ab .f32 (cpsT n1 n2) 1442840576
  A : fin .f32 (angleC (cpsW e1 e2) (cpsT n1 n2)) = true
  C : Ab .f32 (cpsC n1 e1 n2 e2) 1073741824
  fC : Fl .f32 (cpsC n1 e1 n2 e2) (cpsC n1 e1 n2 e2)
theorem Cps.of {n1 e1 n2 e2 : Nat} (t2 : Turn e1) (t4 : Turn e2) (o1 : stretOk n1 = true) (o2 : stretOk n2 = true) : Cps n1 e1 n2 e2 := by
  have hE : Ab .f32 (crsE e1 e2) 1065353216 := sub_ab t4.ab t2.ab (by decide +kernel) (by decide +kernel)
  have hE' := hE.mono (c := 1148846080) (by decide +kernel) (by decide +kernel)
  have hT : Ab .f32 (cpsT n1 n2) 1442840576 := sub_ab (stret_ab o2).1 (stret_ab o1).1 (by decide +kernel) (by decide +kernel)
  have ha := (angle_ab (wrap_ab hE').fin hT.fin).1
  exact ⟨hE, wrap_ab hE', wrap_fl hE', hT, ha.fin, above_ab ha, Fl.not (fin_notN (above_ab ha).fin) (wf_above (wf_angle _ _))⟩
set_option maxHeartbeats 2000000 in
theorem iCps_yes {n1 e1 n2 e2 : Nat} (h1 : Fl .f32 n1 n1) (h2 : Fl .f32 e1 e1) (h3 : Fl .f32 n2 n2) (h4 : Fl .f32 e2 e2) (v1 : validC n1 e1 = true) (v2 : validC n2 e2 = true) (o1 : stretOk n1 = true) (o2 : stretOk n2 = true) (w : World) : Calls Try.prog 31 #[pl n1 e1, pl n2 e2] w (RS (flT2 (cpsC n1 e1 n2 e2) true) w) := by
  obtain ⟨t1, t2⟩ := turns_of v1
  obtain ⟨t3, t4⟩ := turns_of v2
  have KS1 := fun w => exactP (iStretch_any h1 w) (stretV_fin n1)
  have KS2 := fun w => exactP (iStretch_any h3 w) (stretV_fin n2)
  rw [o1] at KS1
  rw [(stret_ab o1).2] at KS1
  rw [o2, (stret_ab o2).2] at KS2
  have HS1 := Hb.mk KS1
  have HS2 := Hb.mk KS2
  have hc := Cps.of (n1 := n1) (n2 := n2) t2 t4 o1 o2
  have fE : Fl .f32 (crsE e1 e2) (crsE e1 e2) := fop_fl (op := .sub) (k := .f32) (x := e2) (y := e1) hc.E.fin
  have eE := Hb.mk (show fop .sub .f32 (e2) (e1) = crsE e1 e2 from rfl)
  have kE := Hb.mk (fin_notN hc.E.fin)
  have mE : Hb (∀ w, (binOp .sub 22 (.float .f32 (e2)) (.float .f32 (e1))).run Try.prog w = .ok (.float .f32 (crsE e1 e2)) w) := ⟨fop_exact _ hc.E.fin⟩
  have fT : Fl .f32 (cpsT n1 n2) (cpsT n1 n2) := fop_fl (op := .sub) (k := .f32) (x := stretC n2) (y := stretC n1) hc.T.fin
  have eT := Hb.mk (show fop .sub .f32 (stretC n2) (stretC n1) = cpsT n1 n2 from rfl)
  have kT := Hb.mk (fin_notN hc.T.fin)
  have mT : Hb (∀ w, (binOp .sub 22 (.float .f32 (stretC n2)) (.float .f32 (stretC n1))).run Try.prog w = .ok (.float .f32 (cpsT n1 n2)) w) := ⟨fop_exact _ hc.T.fin⟩
  have fe1 := h2
  have fe2 := h4
  have fW := hc.fW
  have fS1 : Fl .f32 (stretC n1) (stretC n1) := fop_fl (op := .quo) (stret_ab o1).1.fin
  have fS2 : Fl .f32 (stretC n2) (stretC n2) := fop_fl (op := .quo) (stret_ab o2).1.fin
  have KW := Hb.mk (fun w => exactF (wrapped_any fE (hc.E.mono (by decide +kernel) (by decide +kernel)) w) hc.W.fin)
  change Hb (∀ w, Calls Try.prog 89 #[.float .f32 (crsE e1 e2)] w (RT (.float .f32 (cpsW e1 e2)) w)) at KW
  have KG := Hb.mk (fun w => exactF (c := cpsC n1 e1 n2 e2) (compassOf_any fW fT w) hc.C.fin)
  have KV1 := iValidPlace_any h1 h2
  rw [v1] at KV1
  have KV2 := iValidPlace_any h3 h4
  rw [v2] at KV2
  have V1 := Hb.mk KV1
  have V2 := Hb.mk KV2
  clear KV1 KV2
  clear KS1 KS2 v1 v2 t1 t2 t3 t4 o1 o2 hc
  generalize cpsC n1 e1 n2 e2 = G at *
  generalize cpsT n1 n2 = T at *
  generalize cpsW e1 e2 = W at *
  generalize crsE e1 e2 = E at *
  generalize stretC n1 = S1 at *
  generalize stretC n2 = S2 at *
  have B0 := Hb.mk (Below.refl w.heap.size w)
  go_enter Try.func31, Try.ntmps31
  have tk_a : True := trivial; have tk_b : True := trivial
  go_wp2_with (first
    | (go_at_call 60; clear tk_a; refine (V1.out _).mono ?_; rintro ex w1 ⟨rfl, b1⟩; have B1 := Hb.mk (Below.on (B := w.heap.size) (a := w) (by repeat (first | exact B0.out | refine Below.drews ?_ | refine Below.drew ?_ | refine Below.alloc ?_ (by have hq_ := B0.out.size; first | omega | (simp <;> omega)) _ | refine Below.setCell ?_ (by have hq_ := B0.out.size; first | omega | (simp <;> omega)) _)) b1 (by have hq_ := B0.out.size; first | omega | (simp <;> omega))); have p0 := Hb.mk (At.keep b1 (p := ⟨w.heap.size, 0, none⟩) (v := .float .f32 n1) (by simp [go_sem]) (by simp [go_sem])); obtain ⟨p0c, p0z, p0l⟩ := p0.out; have p1 := Hb.mk (At.keep b1 (p := ⟨w.heap.size, 1, none⟩) (v := .float .f32 e1) (by simp [go_sem]) (by simp [go_sem])); obtain ⟨p1c, p1z, p1l⟩ := p1.out; have q0 := Hb.mk (At.keep b1 (p := ⟨w.heap.size + 1, 0, none⟩) (v := .float .f32 n2) (by simp [go_sem]) (by simp [go_sem])); obtain ⟨q0c, q0z, q0l⟩ := q0.out; have q1 := Hb.mk (At.keep b1 (p := ⟨w.heap.size + 1, 1, none⟩) (v := .float .f32 e2) (by simp [go_sem]) (by simp [go_sem])); obtain ⟨q1c, q1z, q1l⟩ := q1.out; clear b1)
    | (go_at_call 60; clear tk_b; refine (V2.out _).mono ?_; rintro ex w2 ⟨rfl, b2⟩; have B2 := Hb.mk (Below.on (B := w.heap.size) (a := w) (by repeat (first | exact B1.out | refine Below.drews ?_ | refine Below.drew ?_ | refine Below.alloc ?_ (by have hq_ := B1.out.size; first | omega | (simp <;> omega)) _ | refine Below.setCell ?_ (by have hq_ := B1.out.size; first | omega | (simp <;> omega)) _)) b2 (by have hq_ := B1.out.size; first | omega | (simp <;> omega))); have p0 := Hb.mk (At.re p0.out b2 (by first | exact p0c | simp [go_sem, p0c, p0l]) (by first | exact p0z | simp [go_sem, p0z, p0l])); obtain ⟨p0c, p0z, p0l⟩ := p0.out; have p1 := Hb.mk (At.re p1.out b2 (by first | exact p1c | simp [go_sem, p1c, p1l]) (by first | exact p1z | simp [go_sem, p1z, p1l])); obtain ⟨p1c, p1z, p1l⟩ := p1.out; have q0 := Hb.mk (At.re q0.out b2 (by first | exact q0c | simp [go_sem, q0c, q0l]) (by first | exact q0z | simp [go_sem, q0z, q0l])); obtain ⟨q0c, q0z, q0l⟩ := q0.out; have q1 := Hb.mk (At.re q1.out b2 (by first | exact q1c | simp [go_sem, q1c, q1l]) (by first | exact q1z | simp [go_sem, q1z, q1l])); obtain ⟨q1c, q1z, q1l⟩ := q1.out; clear b2)
    | (go_at_call_of 29 (Value.float .f32 n1); refine (HS1.out _).mono ?_; rintro ee ww ⟨rfl, nn, rfl⟩)
    | (go_at_call_of 29 (Value.float .f32 n2); refine (HS2.out _).mono ?_; rintro ee ww ⟨rfl, nn, rfl⟩)
    | (go_at_call 89; refine (KW.out _).mono ?_; rintro ee ww ⟨rfl, nn, rfl⟩)
    | (refine wpList_fop rfl rfl rfl rfl rfl fe2 fe1 ?_; intro rr nn hr; rw [eE.out] at hr; obtain rfl := (hr.word kE.out).symm; simp only [Act.put, List.setIfInBounds_toArray, List.set_cons_succ, List.set_cons_zero]) | (refine wpList_fop rfl rfl rfl rfl rfl fS2 fS1 ?_; intro rr nn hr; rw [eT.out] at hr; obtain rfl := (hr.word kT.out).symm; simp only [Act.put, List.setIfInBounds_toArray, List.set_cons_succ, List.set_cons_zero])
    | (go_at_call 88; refine (KG.out _).mono ?_; rintro ee ww ⟨rfl, nn, rfl⟩))
  go_ret2
  exact ⟨rfl, (by repeat (first | exact Below.refl _ _ | exact B2.out | refine Below.drews ?_ | refine Below.drew ?_ | refine Below.alloc ?_ (by first | omega | (simp <;> omega)) _ | refine Below.setCell ?_ (by first | omega | (simp <;> omega)) _))⟩
set_option maxHeartbeats 2000000 in
theorem iCps_no3 {n1 e1 n2 e2 : Nat} (h1 : Fl .f32 n1 n1) (h2 : Fl .f32 e1 e1) (h3 : Fl .f32 n2 n2) (h4 : Fl .f32 e2 e2) (v1 : validC n1 e1 = true) (v2 : validC n2 e2 = true) (o1 : stretOk n1 = false) (w : World) : Calls Try.prog 31 #[pl n1 e1, pl n2 e2] w (RS (flT2 0 false) w) := by
  obtain ⟨t1, t2⟩ := turns_of v1
  obtain ⟨t3, t4⟩ := turns_of v2
  have KS1 := fun w => exactP (iStretch_any h1 w) (stretV_fin n1)
  have KS2 := fun w => exactP (iStretch_any h3 w) (stretV_fin n2)
  rw [o1] at KS1
  have HS1 := Hb.mk KS1
  have HS2 := Hb.mk KS2
  have KV1 := iValidPlace_any h1 h2
  rw [v1] at KV1
  have KV2 := iValidPlace_any h3 h4
  rw [v2] at KV2
  have V1 := Hb.mk KV1
  have V2 := Hb.mk KV2
  clear KV1 KV2
  clear KS1 KS2 v1 v2 t1 t2 t3 t4 o1
  generalize stretV n1 = S1 at *
  generalize stretV n2 = S2 at *
  generalize stretOk n2 = O2 at *
  have B0 := Hb.mk (Below.refl w.heap.size w)
  go_enter Try.func31, Try.ntmps31
  have tk_a : True := trivial; have tk_b : True := trivial
  go_wp2_with (first
    | (go_at_call 60; clear tk_a; refine (V1.out _).mono ?_; rintro ex w1 ⟨rfl, b1⟩; have B1 := Hb.mk (Below.on (B := w.heap.size) (a := w) (by repeat (first | exact B0.out | refine Below.drews ?_ | refine Below.drew ?_ | refine Below.alloc ?_ (by have hq_ := B0.out.size; first | omega | (simp <;> omega)) _ | refine Below.setCell ?_ (by have hq_ := B0.out.size; first | omega | (simp <;> omega)) _)) b1 (by have hq_ := B0.out.size; first | omega | (simp <;> omega))); have p0 := Hb.mk (At.keep b1 (p := ⟨w.heap.size, 0, none⟩) (v := .float .f32 n1) (by simp [go_sem]) (by simp [go_sem])); obtain ⟨p0c, p0z, p0l⟩ := p0.out; have p1 := Hb.mk (At.keep b1 (p := ⟨w.heap.size, 1, none⟩) (v := .float .f32 e1) (by simp [go_sem]) (by simp [go_sem])); obtain ⟨p1c, p1z, p1l⟩ := p1.out; have q0 := Hb.mk (At.keep b1 (p := ⟨w.heap.size + 1, 0, none⟩) (v := .float .f32 n2) (by simp [go_sem]) (by simp [go_sem])); obtain ⟨q0c, q0z, q0l⟩ := q0.out; have q1 := Hb.mk (At.keep b1 (p := ⟨w.heap.size + 1, 1, none⟩) (v := .float .f32 e2) (by simp [go_sem]) (by simp [go_sem])); obtain ⟨q1c, q1z, q1l⟩ := q1.out; clear b1)
    | (go_at_call 60; clear tk_b; refine (V2.out _).mono ?_; rintro ex w2 ⟨rfl, b2⟩; have B2 := Hb.mk (Below.on (B := w.heap.size) (a := w) (by repeat (first | exact B1.out | refine Below.drews ?_ | refine Below.drew ?_ | refine Below.alloc ?_ (by have hq_ := B1.out.size; first | omega | (simp <;> omega)) _ | refine Below.setCell ?_ (by have hq_ := B1.out.size; first | omega | (simp <;> omega)) _)) b2 (by have hq_ := B1.out.size; first | omega | (simp <;> omega))); have p0 := Hb.mk (At.re p0.out b2 (by first | exact p0c | simp [go_sem, p0c, p0l]) (by first | exact p0z | simp [go_sem, p0z, p0l])); obtain ⟨p0c, p0z, p0l⟩ := p0.out; have p1 := Hb.mk (At.re p1.out b2 (by first | exact p1c | simp [go_sem, p1c, p1l]) (by first | exact p1z | simp [go_sem, p1z, p1l])); obtain ⟨p1c, p1z, p1l⟩ := p1.out; have q0 := Hb.mk (At.re q0.out b2 (by first | exact q0c | simp [go_sem, q0c, q0l]) (by first | exact q0z | simp [go_sem, q0z, q0l])); obtain ⟨q0c, q0z, q0l⟩ := q0.out; have q1 := Hb.mk (At.re q1.out b2 (by first | exact q1c | simp [go_sem, q1c, q1l]) (by first | exact q1z | simp [go_sem, q1z, q1l])); obtain ⟨q1c, q1z, q1l⟩ := q1.out; clear b2)
    | (go_at_call_of 29 (Value.float .f32 n1); refine (HS1.out _).mono ?_; rintro ee ww ⟨rfl, nn, rfl⟩)
    | (go_at_call_of 29 (Value.float .f32 n2); refine (HS2.out _).mono ?_; rintro ee ww ⟨rfl, nn, rfl⟩))
  all_goals
    go_ret2
    exact ⟨rfl, (by repeat (first | exact Below.refl _ _ | exact B2.out | refine Below.drews ?_ | refine Below.drew ?_ | refine Below.alloc ?_ (by first | omega | (simp <;> omega)) _ | refine Below.setCell ?_ (by first | omega | (simp <;> omega)) _))⟩
set_option maxHeartbeats 2000000 in
theorem iCps_no4 {n1 e1 n2 e2 : Nat} (h1 : Fl .f32 n1 n1) (h2 : Fl .f32 e1 e1) (h3 : Fl .f32 n2 n2) (h4 : Fl .f32 e2 e2) (v1 : validC n1 e1 = true) (v2 : validC n2 e2 = true) (o1 : stretOk n1 = true) (o2 : stretOk n2 = false) (w : World) : Calls Try.prog 31 #[pl n1 e1, pl n2 e2] w (RS (flT2 0 false) w) := by
  obtain ⟨t1, t2⟩ := turns_of v1
  obtain ⟨t3, t4⟩ := turns_of v2
  have KS1 := fun w => exactP (iStretch_any h1 w) (stretV_fin n1)
  have KS2 := fun w => exactP (iStretch_any h3 w) (stretV_fin n2)
  rw [o1] at KS1
  rw [o2] at KS2
  have HS1 := Hb.mk KS1
  have HS2 := Hb.mk KS2
  have KV1 := iValidPlace_any h1 h2
  rw [v1] at KV1
  have KV2 := iValidPlace_any h3 h4
  rw [v2] at KV2
  have V1 := Hb.mk KV1
  have V2 := Hb.mk KV2
  clear KV1 KV2
  clear KS1 KS2 v1 v2 t1 t2 t3 t4 o1 o2
  generalize stretV n1 = S1 at *
  generalize stretV n2 = S2 at *
  have B0 := Hb.mk (Below.refl w.heap.size w)
  go_enter Try.func31, Try.ntmps31
  have tk_a : True := trivial; have tk_b : True := trivial
  go_wp2_with (first
    | (go_at_call 60; clear tk_a; refine (V1.out _).mono ?_; rintro ex w1 ⟨rfl, b1⟩; have B1 := Hb.mk (Below.on (B := w.heap.size) (a := w) (by repeat (first | exact B0.out | refine Below.drews ?_ | refine Below.drew ?_ | refine Below.alloc ?_ (by have hq_ := B0.out.size; first | omega | (simp <;> omega)) _ | refine Below.setCell ?_ (by have hq_ := B0.out.size; first | omega | (simp <;> omega)) _)) b1 (by have hq_ := B0.out.size; first | omega | (simp <;> omega))); have p0 := Hb.mk (At.keep b1 (p := ⟨w.heap.size, 0, none⟩) (v := .float .f32 n1) (by simp [go_sem]) (by simp [go_sem])); obtain ⟨p0c, p0z, p0l⟩ := p0.out; have p1 := Hb.mk (At.keep b1 (p := ⟨w.heap.size, 1, none⟩) (v := .float .f32 e1) (by simp [go_sem]) (by simp [go_sem])); obtain ⟨p1c, p1z, p1l⟩ := p1.out; have q0 := Hb.mk (At.keep b1 (p := ⟨w.heap.size + 1, 0, none⟩) (v := .float .f32 n2) (by simp [go_sem]) (by simp [go_sem])); obtain ⟨q0c, q0z, q0l⟩ := q0.out; have q1 := Hb.mk (At.keep b1 (p := ⟨w.heap.size + 1, 1, none⟩) (v := .float .f32 e2) (by simp [go_sem]) (by simp [go_sem])); obtain ⟨q1c, q1z, q1l⟩ := q1.out; clear b1)
    | (go_at_call 60; clear tk_b; refine (V2.out _).mono ?_; rintro ex w2 ⟨rfl, b2⟩; have B2 := Hb.mk (Below.on (B := w.heap.size) (a := w) (by repeat (first | exact B1.out | refine Below.drews ?_ | refine Below.drew ?_ | refine Below.alloc ?_ (by have hq_ := B1.out.size; first | omega | (simp <;> omega)) _ | refine Below.setCell ?_ (by have hq_ := B1.out.size; first | omega | (simp <;> omega)) _)) b2 (by have hq_ := B1.out.size; first | omega | (simp <;> omega))); have p0 := Hb.mk (At.re p0.out b2 (by first | exact p0c | simp [go_sem, p0c, p0l]) (by first | exact p0z | simp [go_sem, p0z, p0l])); obtain ⟨p0c, p0z, p0l⟩ := p0.out; have p1 := Hb.mk (At.re p1.out b2 (by first | exact p1c | simp [go_sem, p1c, p1l]) (by first | exact p1z | simp [go_sem, p1z, p1l])); obtain ⟨p1c, p1z, p1l⟩ := p1.out; have q0 := Hb.mk (At.re q0.out b2 (by first | exact q0c | simp [go_sem, q0c, q0l]) (by first | exact q0z | simp [go_sem, q0z, q0l])); obtain ⟨q0c, q0z, q0l⟩ := q0.out; have q1 := Hb.mk (At.re q1.out b2 (by first | exact q1c | simp [go_sem, q1c, q1l]) (by first | exact q1z | simp [go_sem, q1z, q1l])); obtain ⟨q1c, q1z, q1l⟩ := q1.out; clear b2)
    | (go_at_call_of 29 (Value.float .f32 n1); refine (HS1.out _).mono ?_; rintro ee ww ⟨rfl, nn, rfl⟩)
    | (go_at_call_of 29 (Value.float .f32 n2); refine (HS2.out _).mono ?_; rintro ee ww ⟨rfl, nn, rfl⟩))
  go_ret2
  exact ⟨rfl, (by repeat (first | exact Below.refl _ _ | exact B2.out | refine Below.drews ?_ | refine Below.drew ?_ | refine Below.alloc ?_ (by first | omega | (simp <;> omega)) _ | refine Below.setCell ?_ (by first | omega | (simp <;> omega)) _))⟩
theorem iCps_no1 {n1 e1 n2 e2 a b c d : Nat} (h1 : Fl .f32 n1 a) (h2 : Fl .f32 e1 b) (_h3 : Fl .f32 n2 c) (_h4 : Fl .f32 e2 d) (v1 : validC n1 e1 = false) (w : World) : Calls Try.prog 31 #[pl a b, pl c d] w (RS (flT2 0 false) w) := by
  have KV1 := iValidPlace_any h1 h2
  rw [v1] at KV1
  have V1 := Hb.mk KV1
  clear KV1 v1
  have B0 := Hb.mk (Below.refl w.heap.size w)
  go_enter Try.func31, Try.ntmps31
  go_wp2_with (first
    | (go_at_call 60; refine (V1.out _).mono ?_; rintro ex w1 ⟨rfl, b1⟩; have B1 := Hb.mk (Below.on (B := w.heap.size) (a := w) (by repeat (first | exact B0.out | refine Below.drews ?_ | refine Below.drew ?_ | refine Below.alloc ?_ (by have hq_ := B0.out.size; first | omega | (simp <;> omega)) _ | refine Below.setCell ?_ (by have hq_ := B0.out.size; first | omega | (simp <;> omega)) _)) b1 (by have hq_ := B0.out.size; first | omega | (simp <;> omega))); clear b1))
  go_ret2
  exact ⟨rfl, (by repeat (first | exact B1.out | refine Below.drews ?_ | refine Below.drew ?_ | refine Below.alloc ?_ (by have hq_ := B1.out.size; first | omega | (simp <;> omega)) _ | refine Below.setCell ?_ (by have hq_ := B1.out.size; first | omega | (simp <;> omega)) _))⟩
theorem iCps_no2 {n1 e1 n2 e2 a b c d : Nat} (h1 : Fl .f32 n1 a) (h2 : Fl .f32 e1 b) (h3 : Fl .f32 n2 c) (h4 : Fl .f32 e2 d) (v1 : validC n1 e1 = true) (v2 : validC n2 e2 = false) (w : World) : Calls Try.prog 31 #[pl a b, pl c d] w (RS (flT2 0 false) w) := by
  have KV1 := iValidPlace_any h1 h2
  rw [v1] at KV1
  have V1 := Hb.mk KV1
  have KV2 := iValidPlace_any h3 h4
  rw [v2] at KV2
  have V2 := Hb.mk KV2
  clear KV1 KV2 v1 v2
  have B0 := Hb.mk (Below.refl w.heap.size w)
  go_enter Try.func31, Try.ntmps31
  have tk_a : True := trivial; have tk_b : True := trivial
  go_wp2_with (first
    | (go_at_call 60; clear tk_a; refine (V1.out _).mono ?_; rintro ex w1 ⟨rfl, b1⟩; have B1 := Hb.mk (Below.on (B := w.heap.size) (a := w) (by repeat (first | exact B0.out | refine Below.drews ?_ | refine Below.drew ?_ | refine Below.alloc ?_ (by have hq_ := B0.out.size; first | omega | (simp <;> omega)) _ | refine Below.setCell ?_ (by have hq_ := B0.out.size; first | omega | (simp <;> omega)) _)) b1 (by have hq_ := B0.out.size; first | omega | (simp <;> omega))); have q0 := Hb.mk (At.keep b1 (p := ⟨w.heap.size + 1, 0, none⟩) (v := .float .f32 c) (by simp [go_sem]) (by simp [go_sem])); obtain ⟨q0c, q0z, q0l⟩ := q0.out; have q1 := Hb.mk (At.keep b1 (p := ⟨w.heap.size + 1, 1, none⟩) (v := .float .f32 d) (by simp [go_sem]) (by simp [go_sem])); obtain ⟨q1c, q1z, q1l⟩ := q1.out; clear b1)
    | (go_at_call 60; clear tk_b; refine (V2.out _).mono ?_; rintro ex w2 ⟨rfl, b2⟩; have B2 := Hb.mk (Below.on (B := w.heap.size) (a := w) (by repeat (first | exact B1.out | refine Below.drews ?_ | refine Below.drew ?_ | refine Below.alloc ?_ (by have hq_ := B1.out.size; first | omega | (simp <;> omega)) _ | refine Below.setCell ?_ (by have hq_ := B1.out.size; first | omega | (simp <;> omega)) _)) b2 (by have hq_ := B1.out.size; first | omega | (simp <;> omega))); clear b2))
  go_ret2
  exact ⟨rfl, (by repeat (first | exact B2.out | refine Below.drews ?_ | refine Below.drew ?_ | refine Below.alloc ?_ (by have hq_ := B2.out.size; first | omega | (simp <;> omega)) _ | refine Below.setCell ?_ (by have hq_ := B2.out.size; first | omega | (simp <;> omega)) _))⟩
set_option maxHeartbeats 2000000 in
theorem sCps_yes {n1 e1 n2 e2 : Nat} (h1 : Fl .f32 n1 n1) (h2 : Fl .f32 e1 e1) (h3 : Fl .f32 n2 n2) (h4 : Fl .f32 e2 e2) (v1 : validC n1 e1 = true) (v2 : validC n2 e2 = true) (o1 : stretOk n1 = true) (o2 : stretOk n2 = true) (w : World) : Calls Try.prog 30 #[pl n1 e1, pl n2 e2] w (RS (flT2 (cpsC n1 e1 n2 e2) true) w) := by
  obtain ⟨t1, t2⟩ := turns_of v1
  obtain ⟨t3, t4⟩ := turns_of v2
  have KS1 := fun w => exactP (l02Stretch_any h1 w) (stretV_fin n1)
  have KS2 := fun w => exactP (l02Stretch_any h3 w) (stretV_fin n2)
  rw [o1] at KS1
  rw [(stret_ab o1).2] at KS1
  rw [o2, (stret_ab o2).2] at KS2
  have HS1 := Hb.mk KS1
  have HS2 := Hb.mk KS2
  have hc := Cps.of (n1 := n1) (n2 := n2) t2 t4 o1 o2
  have fE : Fl .f32 (crsE e1 e2) (crsE e1 e2) := fop_fl (op := .sub) (k := .f32) (x := e2) (y := e1) hc.E.fin
  have eE := Hb.mk (show fop .sub .f32 (e2) (e1) = crsE e1 e2 from rfl)
  have kE := Hb.mk (fin_notN hc.E.fin)
  have mE : Hb (∀ w, (binOp .sub 22 (.float .f32 (e2)) (.float .f32 (e1))).run Try.prog w = .ok (.float .f32 (crsE e1 e2)) w) := ⟨fop_exact _ hc.E.fin⟩
  have fT : Fl .f32 (cpsT n1 n2) (cpsT n1 n2) := fop_fl (op := .sub) (k := .f32) (x := stretC n2) (y := stretC n1) hc.T.fin
  have eT := Hb.mk (show fop .sub .f32 (stretC n2) (stretC n1) = cpsT n1 n2 from rfl)
  have kT := Hb.mk (fin_notN hc.T.fin)
  have mT : Hb (∀ w, (binOp .sub 22 (.float .f32 (stretC n2)) (.float .f32 (stretC n1))).run Try.prog w = .ok (.float .f32 (cpsT n1 n2)) w) := ⟨fop_exact _ hc.T.fin⟩
  have fe1 := h2
  have fe2 := h4
  have fW := hc.fW
  have fS1 : Fl .f32 (stretC n1) (stretC n1) := fop_fl (op := .quo) (stret_ab o1).1.fin
  have fS2 : Fl .f32 (stretC n2) (stretC n2) := fop_fl (op := .quo) (stret_ab o2).1.fin
  have KW := Hb.mk (fun w => exactF (l02Wrap_any fE (hc.E.mono (by decide +kernel) (by decide +kernel)) w) hc.W.fin)
  change Hb (∀ w, Calls Try.prog 87 #[.float .f32 (crsE e1 e2)] w (RT (.float .f32 (cpsW e1 e2)) w)) at KW
  have KA := Hb.mk (fun w => exactF (l01Angle_any fW fT w) hc.A)
  have KG := Hb.mk (fun w => exactF (c := cpsC n1 e1 n2 e2) (l02Above0_any (Fl.not (fin_notN hc.A) (wf_angle _ _)) w) hc.C.fin)
  have KN := Hb.mk (fun w => exactP (l02Number_yes hc.fC hc.C.fin w) hc.C.fin)
  have KV := l02Two_any h1 h2 h3 h4
  rw [v1, v2] at KV
  have V := Hb.mk KV
  clear KV
  clear KS1 KS2 v1 v2 t1 t2 t3 t4 o1 o2 hc
  generalize cpsC n1 e1 n2 e2 = G at *
  generalize angleC (cpsW e1 e2) (cpsT n1 n2) = A at *
  generalize cpsT n1 n2 = T at *
  generalize cpsW e1 e2 = W at *
  generalize crsE e1 e2 = E at *
  generalize stretC n1 = S1 at *
  generalize stretC n2 = S2 at *
  have B0 := Hb.mk (Below.refl w.heap.size w)
  go_enter Try.func30, Try.ntmps30
  have tk_a : True := trivial; have tk_b : True := trivial
  go_wp2_with (first
    | (go_at_call 45; refine (V.out _).mono ?_; rintro ex w1 ⟨rfl, b1⟩; have B1 := Hb.mk (Below.on (B := w.heap.size) (a := w) (by repeat (first | exact B0.out | refine Below.drews ?_ | refine Below.drew ?_ | refine Below.alloc ?_ (by have hq_ := B0.out.size; first | omega | (simp <;> omega)) _ | refine Below.setCell ?_ (by have hq_ := B0.out.size; first | omega | (simp <;> omega)) _)) b1 (by have hq_ := B0.out.size; first | omega | (simp <;> omega))); have p0 := Hb.mk (At.keep b1 (p := ⟨w.heap.size, 0, none⟩) (v := .float .f32 n1) (by simp [go_sem]) (by simp [go_sem])); obtain ⟨p0c, p0z, p0l⟩ := p0.out; have p1 := Hb.mk (At.keep b1 (p := ⟨w.heap.size, 1, none⟩) (v := .float .f32 e1) (by simp [go_sem]) (by simp [go_sem])); obtain ⟨p1c, p1z, p1l⟩ := p1.out; have q0 := Hb.mk (At.keep b1 (p := ⟨w.heap.size + 1, 0, none⟩) (v := .float .f32 n2) (by simp [go_sem]) (by simp [go_sem])); obtain ⟨q0c, q0z, q0l⟩ := q0.out; have q1 := Hb.mk (At.keep b1 (p := ⟨w.heap.size + 1, 1, none⟩) (v := .float .f32 e2) (by simp [go_sem]) (by simp [go_sem])); obtain ⟨q1c, q1z, q1l⟩ := q1.out; clear b1)
    | (go_at_call_of 82 (Value.float .f32 n1); refine (HS1.out _).mono ?_; rintro ee ww ⟨rfl, nn, rfl⟩)
    | (go_at_call_of 82 (Value.float .f32 n2); refine (HS2.out _).mono ?_; rintro ee ww ⟨rfl, nn, rfl⟩)
    | (go_at_call 87; refine (KW.out _).mono ?_; rintro ee ww ⟨rfl, nn, rfl⟩)
    | (refine wpList_fop rfl rfl rfl rfl rfl fe2 fe1 ?_; intro rr nn hr; rw [eE.out] at hr; obtain rfl := (hr.word kE.out).symm; simp only [Act.put, List.setIfInBounds_toArray, List.set_cons_succ, List.set_cons_zero]) | (refine wpList_fop rfl rfl rfl rfl rfl fS2 fS1 ?_; intro rr nn hr; rw [eT.out] at hr; obtain rfl := (hr.word kT.out).symm; simp only [Act.put, List.setIfInBounds_toArray, List.set_cons_succ, List.set_cons_zero])
    | (go_at_call 71; refine (KA.out _).mono ?_; rintro ee ww ⟨rfl, nn, rfl⟩)
    | (go_at_call 86; refine (KG.out _).mono ?_; rintro ee ww ⟨rfl, nn, rfl⟩)
    | (go_at_call 70; refine (KN.out _).mono ?_; rintro ee ww ⟨rfl, nn, rfl⟩))
  go_ret2
  exact ⟨rfl, (by repeat (first | exact Below.refl _ _ | exact B1.out | refine Below.drews ?_ | refine Below.drew ?_ | refine Below.alloc ?_ (by first | omega | (simp <;> omega)) _ | refine Below.setCell ?_ (by first | omega | (simp <;> omega)) _))⟩
set_option maxHeartbeats 2000000 in
theorem sCps_no3 {n1 e1 n2 e2 : Nat} (h1 : Fl .f32 n1 n1) (h2 : Fl .f32 e1 e1) (h3 : Fl .f32 n2 n2) (h4 : Fl .f32 e2 e2) (v1 : validC n1 e1 = true) (v2 : validC n2 e2 = true) (o1 : stretOk n1 = false) (w : World) : Calls Try.prog 30 #[pl n1 e1, pl n2 e2] w (RS (flT2 0 false) w) := by
  obtain ⟨t1, t2⟩ := turns_of v1
  obtain ⟨t3, t4⟩ := turns_of v2
  have KS1 := fun w => exactP (l02Stretch_any h1 w) (stretV_fin n1)
  have KS2 := fun w => exactP (l02Stretch_any h3 w) (stretV_fin n2)
  rw [o1] at KS1
  have HS1 := Hb.mk KS1
  have HS2 := Hb.mk KS2
  have KV := l02Two_any h1 h2 h3 h4
  rw [v1, v2] at KV
  have V := Hb.mk KV
  clear KV
  clear KS1 KS2 v1 v2 t1 t2 t3 t4 o1
  generalize stretV n1 = S1 at *
  generalize stretV n2 = S2 at *
  generalize stretOk n2 = O2 at *
  have B0 := Hb.mk (Below.refl w.heap.size w)
  go_enter Try.func30, Try.ntmps30
  have tk_a : True := trivial; have tk_b : True := trivial
  go_wp2_with (first
    | (go_at_call 45; refine (V.out _).mono ?_; rintro ex w1 ⟨rfl, b1⟩; have B1 := Hb.mk (Below.on (B := w.heap.size) (a := w) (by repeat (first | exact B0.out | refine Below.drews ?_ | refine Below.drew ?_ | refine Below.alloc ?_ (by have hq_ := B0.out.size; first | omega | (simp <;> omega)) _ | refine Below.setCell ?_ (by have hq_ := B0.out.size; first | omega | (simp <;> omega)) _)) b1 (by have hq_ := B0.out.size; first | omega | (simp <;> omega))); have p0 := Hb.mk (At.keep b1 (p := ⟨w.heap.size, 0, none⟩) (v := .float .f32 n1) (by simp [go_sem]) (by simp [go_sem])); obtain ⟨p0c, p0z, p0l⟩ := p0.out; have p1 := Hb.mk (At.keep b1 (p := ⟨w.heap.size, 1, none⟩) (v := .float .f32 e1) (by simp [go_sem]) (by simp [go_sem])); obtain ⟨p1c, p1z, p1l⟩ := p1.out; have q0 := Hb.mk (At.keep b1 (p := ⟨w.heap.size + 1, 0, none⟩) (v := .float .f32 n2) (by simp [go_sem]) (by simp [go_sem])); obtain ⟨q0c, q0z, q0l⟩ := q0.out; have q1 := Hb.mk (At.keep b1 (p := ⟨w.heap.size + 1, 1, none⟩) (v := .float .f32 e2) (by simp [go_sem]) (by simp [go_sem])); obtain ⟨q1c, q1z, q1l⟩ := q1.out; clear b1)
    | (go_at_call_of 82 (Value.float .f32 n1); refine (HS1.out _).mono ?_; rintro ee ww ⟨rfl, nn, rfl⟩)
    | (go_at_call_of 82 (Value.float .f32 n2); refine (HS2.out _).mono ?_; rintro ee ww ⟨rfl, nn, rfl⟩))
  all_goals
    go_ret2
    exact ⟨rfl, (by repeat (first | exact Below.refl _ _ | exact B1.out | refine Below.drews ?_ | refine Below.drew ?_ | refine Below.alloc ?_ (by first | omega | (simp <;> omega)) _ | refine Below.setCell ?_ (by first | omega | (simp <;> omega)) _))⟩
set_option maxHeartbeats 2000000 in
theorem sCps_no4 {n1 e1 n2 e2 : Nat} (h1 : Fl .f32 n1 n1) (h2 : Fl .f32 e1 e1) (h3 : Fl .f32 n2 n2) (h4 : Fl .f32 e2 e2) (v1 : validC n1 e1 = true) (v2 : validC n2 e2 = true) (o1 : stretOk n1 = true) (o2 : stretOk n2 = false) (w : World) : Calls Try.prog 30 #[pl n1 e1, pl n2 e2] w (RS (flT2 0 false) w) := by
  obtain ⟨t1, t2⟩ := turns_of v1
  obtain ⟨t3, t4⟩ := turns_of v2
  have KS1 := fun w => exactP (l02Stretch_any h1 w) (stretV_fin n1)
  have KS2 := fun w => exactP (l02Stretch_any h3 w) (stretV_fin n2)
  rw [o1] at KS1
  rw [o2] at KS2
  have HS1 := Hb.mk KS1
  have HS2 := Hb.mk KS2
  have KV := l02Two_any h1 h2 h3 h4
  rw [v1, v2] at KV
  have V := Hb.mk KV
  clear KV
  clear KS1 KS2 v1 v2 t1 t2 t3 t4 o1 o2
  generalize stretV n1 = S1 at *
  generalize stretV n2 = S2 at *
  have B0 := Hb.mk (Below.refl w.heap.size w)
  go_enter Try.func30, Try.ntmps30
  have tk_a : True := trivial; have tk_b : True := trivial
  go_wp2_with (first
    | (go_at_call 45; refine (V.out _).mono ?_; rintro ex w1 ⟨rfl, b1⟩; have B1 := Hb.mk (Below.on (B := w.heap.size) (a := w) (by repeat (first | exact B0.out | refine Below.drews ?_ | refine Below.drew ?_ | refine Below.alloc ?_ (by have hq_ := B0.out.size; first | omega | (simp <;> omega)) _ | refine Below.setCell ?_ (by have hq_ := B0.out.size; first | omega | (simp <;> omega)) _)) b1 (by have hq_ := B0.out.size; first | omega | (simp <;> omega))); have p0 := Hb.mk (At.keep b1 (p := ⟨w.heap.size, 0, none⟩) (v := .float .f32 n1) (by simp [go_sem]) (by simp [go_sem])); obtain ⟨p0c, p0z, p0l⟩ := p0.out; have p1 := Hb.mk (At.keep b1 (p := ⟨w.heap.size, 1, none⟩) (v := .float .f32 e1) (by simp [go_sem]) (by simp [go_sem])); obtain ⟨p1c, p1z, p1l⟩ := p1.out; have q0 := Hb.mk (At.keep b1 (p := ⟨w.heap.size + 1, 0, none⟩) (v := .float .f32 n2) (by simp [go_sem]) (by simp [go_sem])); obtain ⟨q0c, q0z, q0l⟩ := q0.out; have q1 := Hb.mk (At.keep b1 (p := ⟨w.heap.size + 1, 1, none⟩) (v := .float .f32 e2) (by simp [go_sem]) (by simp [go_sem])); obtain ⟨q1c, q1z, q1l⟩ := q1.out; clear b1)
    | (go_at_call_of 82 (Value.float .f32 n1); refine (HS1.out _).mono ?_; rintro ee ww ⟨rfl, nn, rfl⟩)
    | (go_at_call_of 82 (Value.float .f32 n2); refine (HS2.out _).mono ?_; rintro ee ww ⟨rfl, nn, rfl⟩))
  go_ret2
  exact ⟨rfl, (by repeat (first | exact Below.refl _ _ | exact B1.out | refine Below.drews ?_ | refine Below.drew ?_ | refine Below.alloc ?_ (by first | omega | (simp <;> omega)) _ | refine Below.setCell ?_ (by first | omega | (simp <;> omega)) _))⟩
theorem sCps_no {n1 e1 n2 e2 a b c d : Nat} (h1 : Fl .f32 n1 a) (h2 : Fl .f32 e1 b) (h3 : Fl .f32 n2 c) (h4 : Fl .f32 e2 d) (v : (validC n1 e1 && validC n2 e2) = false) (w : World) : Calls Try.prog 30 #[pl a b, pl c d] w (RS (flT2 0 false) w) := by
  have KV := l02Two_any h1 h2 h3 h4
  rw [v] at KV
  have V := Hb.mk KV
  clear KV v
  have B0 := Hb.mk (Below.refl w.heap.size w)
  go_enter Try.func30, Try.ntmps30
  go_wp2_with (first
    | (go_at_call 45; refine (V.out _).mono ?_; rintro ex w1 ⟨rfl, b1⟩; have B1 := Hb.mk (Below.on (B := w.heap.size) (a := w) (by repeat (first | exact B0.out | refine Below.drews ?_ | refine Below.drew ?_ | refine Below.alloc ?_ (by have hq_ := B0.out.size; first | omega | (simp <;> omega)) _ | refine Below.setCell ?_ (by have hq_ := B0.out.size; first | omega | (simp <;> omega)) _)) b1 (by have hq_ := B0.out.size; first | omega | (simp <;> omega))); clear b1))
  go_ret2
  exact ⟨rfl, (by repeat (first | exact B1.out | refine Below.drews ?_ | refine Below.drew ?_ | refine Below.alloc ?_ (by have hq_ := B1.out.size; first | omega | (simp <;> omega)) _ | refine Below.setCell ?_ (by have hq_ := B1.out.size; first | omega | (simp <;> omega)) _))⟩
theorem pair_CompassCourse {a b c d : Nat} (wa : (Lit.float .f32 a).wf = true) (wb : (Lit.float .f32 b).wf = true) (wc : (Lit.float .f32 c).wf = true) (wd : (Lit.float .f32 d).wf = true) :
    ∃ V ok, Hb (∀ w, Calls Try.prog 30 #[pl a b, pl c d] w (RS (flT2 V ok) w)) ∧ Hb (∀ w, Calls Try.prog 31 #[pl a b, pl c d] w (RS (flT2 V ok) w)) ∧ Fl .f32 V V := by
  have h1 := Fl.own wa
  have h2 := Fl.own wb
  have h3 := Fl.own wc
  have h4 := Fl.own wd
  cases v1 : validC (nrm .f32 a) (nrm .f32 b)
  · exact ⟨_, _, ⟨sCps_no h1 h2 h3 h4 (by rw [v1]; rfl)⟩, ⟨iCps_no1 h1 h2 h3 h4 v1⟩, fl0⟩
  · cases v2 : validC (nrm .f32 c) (nrm .f32 d)
    · exact ⟨_, _, ⟨sCps_no h1 h2 h3 h4 (by rw [v1, v2]; rfl)⟩, ⟨iCps_no2 h1 h2 h3 h4 v1 v2⟩, fl0⟩
    · obtain ⟨t1, t2⟩ := turns_of v1
      obtain ⟨t3, t4⟩ := turns_of v2
      have x1 := t1.word h1
      have x2 := t2.word h2
      have x3 := t3.word h3
      have x4 := t4.word h4
      rw [← x1] at h1 v1 t1
      rw [← x2] at h2 v1 t2
      rw [← x3] at h3 v2 t3
      rw [← x4] at h4 v2 t4
      cases o1 : stretOk a
      · exact ⟨_, _, ⟨sCps_no3 h1 h2 h3 h4 v1 v2 o1⟩, ⟨iCps_no3 h1 h2 h3 h4 v1 v2 o1⟩, fl0⟩
      · cases o2 : stretOk c
        · exact ⟨_, _, ⟨sCps_no4 h1 h2 h3 h4 v1 v2 o1 o2⟩, ⟨iCps_no4 h1 h2 h3 h4 v1 v2 o1 o2⟩, fl0⟩
        · exact ⟨_, _, ⟨sCps_yes h1 h2 h3 h4 v1 v2 o1 o2⟩, ⟨iCps_yes h1 h2 h3 h4 v1 v2 o1 o2⟩, (Cps.of t2 t4 o1 o2).fC⟩
set_option maxHeartbeats 2000000 in
theorem law_CompassCourse {a0 b0 a1 b1 : Nat} (wa0 : (Lit.float .f32 a0).wf = true) (wb0 : (Lit.float .f32 b0).wf = true) (wa1 : (Lit.float .f32 a1).wf = true) (wb1 : (Lit.float .f32 b1).wf = true) (w : World) : Calls Try.prog 9 #[pl a0 b0, pl a1 b1] w (RS (.bool true) w) := by
  obtain ⟨V, ok, KS, KG, hf⟩ := pair_CompassCourse wa0 wb0 wa1 wb1
  have B0 := Hb.mk (Below.refl w.heap.size w)
  cases ok
  all_goals
    go_enter Try.func9, Try.ntmps9
    go_wp2
    refine region_all (by kernel_rfl) (by kernel_rfl) (fun I1 F1 hne1 HB1 hcl => ?_)
    have p1_0_0 := keepF HB1 (p := ⟨w.heap.size, 0, none⟩) (v := .float .f32 a0) (by simp)
    have p1_0_1 := keepF HB1 (p := ⟨w.heap.size, 1, none⟩) (v := .float .f32 b0) (by simp)
    have p1_1_0 := keepF HB1 (p := ⟨w.heap.size + 1, 0, none⟩) (v := .float .f32 a1) (by simp)
    have p1_1_1 := keepF HB1 (p := ⟨w.heap.size + 1, 1, none⟩) (v := .float .f32 b1) (by simp)
    repeat (quiet_step (first | (go_at_call 16; exact callS hcl (toPlace_any _ _ _)) | (go_at_call 30; exact callS hcl (KS.out _)) | (go_at_call 31; exact callS hcl (KG.out _))))
    refine wpQuiet_nil ?_
    intro _ hw'
    obtain ⟨i1, rfl⟩ := hw'
    clear hcl
    go_wp2
    refine region_all (by kernel_rfl) (by kernel_rfl) (fun I2 F2 hne2 HB2 hcl => ?_)
    have p2_0_0 := keepF HB2 (p := ⟨w.heap.size, 0, none⟩) (v := .float .f32 a0) (p1_0_0 i1)
    have p2_0_1 := keepF HB2 (p := ⟨w.heap.size, 1, none⟩) (v := .float .f32 b0) (p1_0_1 i1)
    have p2_1_0 := keepF HB2 (p := ⟨w.heap.size + 1, 0, none⟩) (v := .float .f32 a1) (p1_1_0 i1)
    have p2_1_1 := keepF HB2 (p := ⟨w.heap.size + 1, 1, none⟩) (v := .float .f32 b1) (p1_1_1 i1)
    repeat (quiet_step (first | (go_at_call 16; exact callS hcl (toPlace_any _ _ _)) | (go_at_call 30; exact callS hcl (KS.out _)) | (go_at_call 31; exact callS hcl (KG.out _))))
    refine wpQuiet_nil ?_
    intro _ hw'
    obtain ⟨i2, rfl⟩ := hw'
    clear hcl
    go_wp2_with (first | (refine wpList_fcv rfl rfl rfl (by kernel_rfl) Try.underlying38 (by decide) (by first | (with_reducible assumption) | (with_reducible exact Fl.ofInt _ _) | exact Fl.not (by decide +kernel) (by decide +kernel)) (fits_wide _) ?_; intro r n hr; simp only [Act.put, List.setIfInBounds_toArray, List.set_cons_succ, List.set_cons_zero]) | (go_at_call 25; refine (sameFloat_any (by assumption) (by assumption) _).mono ?_; rintro e w' ⟨rfl, n, rfl⟩))
    go_ret
    refine ⟨rfl, ?_⟩
    have E1 := HB1.out i1
    have E2 := HB2.out i2
    exact Below.drews (Below.on (Below.on (by repeat (first | exact Below.refl _ _ | with_reducible assumption | refine Below.drews ?_ | refine Below.drew ?_ | refine Below.alloc ?_ (by simp <;> omega) _ | refine Below.setCell ?_ (by simp <;> omega) _)) E1 (by simp <;> omega)) E2 (by have := E1.size; simp at this; omega))
end Go.Proofs.Ytjjhklfpdllijaa
