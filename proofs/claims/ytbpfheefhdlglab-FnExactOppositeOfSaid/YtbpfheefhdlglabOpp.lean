/-
  The opposite place, of the program and of its model; the exact law OppositeOf. No condition.
-/
import Derived.Test.YtbpfheefhdlglabWay
namespace Go.Proofs.Ytbpfheefhdlglab
open Go Go.RowKit
set_option maxRecDepth 100000

theorem wrap_ab {c : Nat} (hc : Ab .f32 c 1148846080) : Ab .f32 (wrapC c) 1174405120 := by
  have h1 := wide_ab (sum_ab hc)
  have hb : Bd .f64 (fcv .f32 .f64 (sumC c)) (11 : Nat) := bd_of_ab h1 (by decide +kernel) (by decide) (by decide)
  have hf := ((ffloor_bd hb (by decide)).fits (by decide) (by decide)).2
  have ha : Ab .f32 (floorC c) 1166016512 := ab_of_bd hf (by decide +kernel) (by decide +kernel)
  have hd : Ab .f32 (wrapD c) 1174405120 := sub_ab hc ha (by decide +kernel) (by decide +kernel)
  unfold wrapC
  split
  · exact ⟨by decide +kernel, by decide +kernel⟩
  · exact hd
theorem wrap_fl {c : Nat} (hc : Ab .f32 c 1148846080) : Fl .f32 (wrapC c) (wrapC c) := by
  refine Fl.not (fin_notN (wrap_ab hc).fin) ?_
  unfold wrapC
  split
  · decide +kernel
  · exact wf_fop _ _ _ _
theorem neg_fl {n : Nat} (h : Ab .f32 n 1056964608) (hf : Fl .f32 n n) : Fl .f32 (Op.negFloat .f32 n) (Op.negFloat .f32 n) := by
  have := hf.neg
  unfold fneg at this
  rw [nrm_not (by rw [isN_neg]; exact fin_notN h.fin)] at this
  exact this
def oppE (e : Nat) : Nat := wrapC (sumC e)
theorem opp_ab {e : Nat} (h : Ab .f32 e 1056964608) : Ab .f32 (sumC e) 1148846080 := (add_ab (c := 1065353216) h (ab_self (c := 1056964608) (by decide +kernel)) (by decide +kernel) (by decide +kernel)).mono (by decide +kernel) (by decide +kernel)
set_option maxHeartbeats 1000000 in
theorem iOpp_yes {n e : Nat} (h1 : Fl .f32 n n) (h2 : Fl .f32 e e) (hv : validC n e = true) (w : World) : Calls Try.prog 29 #[pl n e] w (RS (plT (Op.negFloat .f32 n) (oppE e) true) w) := by
  obtain ⟨hn, he⟩ := turns_of hv
  have ha := opp_ab he.ab
  have KW := Hb.mk (fun w => exactF (wrapped_any (fop_fl (op := .add) (x := e) (y := 1056964608) ha.fin) ha w) (wrap_ab ha).fin)
  have m1 : ∀ w, (binOp .add 22 (.float .f32 e) (.float .f32 1056964608)).run Try.prog w = .ok (.float .f32 (sumC e)) w := fop_exact _ ha.fin
  change Hb (∀ w, Calls Try.prog 66 #[.float .f32 (sumC e)] w (RT (.float .f32 (oppE e)) w)) at KW
  have KV := iValidPlace_any h1 h2
  rw [hv] at KV
  have HV := Hb.mk KV
  clear KV hv ha hn he
  generalize oppE e = O at *
  generalize sumC e = S at *
  have B0 := Hb.mk (Below.refl w.heap.size w)
  go_enter Try.func29, Try.ntmps29
  go_wp2_with (first | (go_at_call 51; refine (HV.out _).mono ?_; rintro e1 w1 ⟨rfl, b1⟩; have B1 := Hb.mk (Below.on (B := w.heap.size) (a := w) (by repeat (first | exact B0.out | refine Below.drews ?_ | refine Below.drew ?_ | refine Below.alloc ?_ (by have hq_ := B0.out.size; first | omega | (simp <;> omega)) _ | refine Below.setCell ?_ (by have hq_ := B0.out.size; first | omega | (simp <;> omega)) _)) b1 (by have hq_ := B0.out.size; first | omega | (simp <;> omega))); have p0 := Hb.mk (At.keep b1 (p := ⟨w.heap.size, 0, none⟩) (v := .float .f32 n) (by simp [go_sem]) (by simp [go_sem])); obtain ⟨p0c, p0z, p0l⟩ := p0.out; have p1 := Hb.mk (At.keep b1 (p := ⟨w.heap.size, 1, none⟩) (v := .float .f32 e) (by simp [go_sem]) (by simp [go_sem])); obtain ⟨p1c, p1z, p1l⟩ := p1.out; have g0 := Hb.mk (At.keep b1 (p := ⟨w.heap.size + 1, 0, none⟩) (v := .float .f32 0) (by simp [go_sem]) (by simp [go_sem])); obtain ⟨g0c, g0z, g0l⟩ := g0.out; have g1 := Hb.mk (At.keep b1 (p := ⟨w.heap.size + 1, 1, none⟩) (v := .float .f32 0) (by simp [go_sem]) (by simp [go_sem])); obtain ⟨g1c, g1z, g1l⟩ := g1.out; clear b1))
  refine region_keep 8 (by kernel_rfl) (by kernel_rfl) (fun I F hne HB hcl => ?_)
  have f1 := keepF HB (p := ⟨w.heap.size, 0, none⟩) (v := .float .f32 n) (by first | exact p0c | simp [go_sem, p0c])
  have f2 := keepF HB (p := ⟨w.heap.size, 1, none⟩) (v := .float .f32 e) (by first | exact p1c | simp [go_sem, p1c])
  have d0 := keepF HB (p := ⟨w.heap.size + 1, 0, none⟩) (v := .float .f32 0) (by first | exact g0c | simp [go_sem, g0c])
  have d1 := keepF HB (p := ⟨w.heap.size + 1, 1, none⟩) (v := .float .f32 0) (by first | exact g1c | simp [go_sem, g1c])
  have z0 := keepZ HB (p := ⟨w.heap.size + 1, 0, none⟩) (by first | exact g0l | simp [go_sem, g0l]) (by first | exact g0z | simp [go_sem, g0z])
  have z1 := keepZ HB (p := ⟨w.heap.size + 1, 1, none⟩) (by first | exact g1l | simp [go_sem, g1l]) (by first | exact g1z | simp [go_sem, g1z])
  simp only [List.take_succ_cons, List.take_zero, List.drop_succ_cons, List.drop_zero]
  repeat (quiet_step (first | (go_at_call 66; exact callD hcl (KW.out _))))
  refine wpQuiet_nil ?_
  intro _ hw'
  obtain ⟨iq, rfl⟩ := hw'
  clear hcl
  have E1 := Hb.mk (HB.out iq)
  have x0 := d0 iq
  have x1 := d1 iq
  have y0 := z0 iq
  have y1 := z1 iq
  go_wp2
  exact bodyPost_ret (v := plT (Op.negFloat .f32 n) O true) (by simp [results, Try.results29, go_sem, x0, x1]) rfl ⟨rfl, (by repeat (first | exact Below.refl _ _ | refine Below.on ?_ E1.out (by first | omega | (simp <;> omega)) | exact B1.out | refine Below.drews ?_ | refine Below.drew ?_ | refine Below.alloc ?_ (by simp <;> omega) _ | refine Below.setCell ?_ (by simp <;> omega) _))⟩
theorem iOpp_no {n e a b : Nat} (h1 : Fl .f32 n a) (h2 : Fl .f32 e b) (hv : validC n e = false) (w : World) : Calls Try.prog 29 #[pl a b] w (RS (plT 0 0 false) w) := by
  have KV := iValidPlace_any h1 h2
  rw [hv] at KV
  have HV := Hb.mk KV
  clear KV hv
  have B0 := Hb.mk (Below.refl w.heap.size w)
  go_enter Try.func29, Try.ntmps29
  go_wp2_with (first | (go_at_call 51; refine (HV.out _).mono ?_; rintro e1 w1 ⟨rfl, b1⟩; have B1 := Hb.mk (Below.on (B := w.heap.size) (a := w) (by repeat (first | exact B0.out | refine Below.drews ?_ | refine Below.drew ?_ | refine Below.alloc ?_ (by have hq_ := B0.out.size; first | omega | (simp <;> omega)) _ | refine Below.setCell ?_ (by have hq_ := B0.out.size; first | omega | (simp <;> omega)) _)) b1 (by have hq_ := B0.out.size; first | omega | (simp <;> omega))); have g0 := Hb.mk (At.keep b1 (p := ⟨w.heap.size + 1, 0, none⟩) (v := .float .f32 0) (by simp [go_sem]) (by simp [go_sem])); obtain ⟨g0c, g0z, g0l⟩ := g0.out; have g1 := Hb.mk (At.keep b1 (p := ⟨w.heap.size + 1, 1, none⟩) (v := .float .f32 0) (by simp [go_sem]) (by simp [go_sem])); obtain ⟨g1c, g1z, g1l⟩ := g1.out; clear b1))
  exact bodyPost_ret (v := plT 0 0 false) (by simp [results, Try.results29, go_sem, g0c, g1c]) rfl ⟨rfl, (by repeat (first | exact Below.refl _ _ | exact B1.out | refine Below.drews ?_ | refine Below.drew ?_ | refine Below.alloc ?_ (by simp <;> omega) _ | refine Below.setCell ?_ (by simp <;> omega) _))⟩
set_option maxHeartbeats 1000000 in
theorem sOpp_yes {n e : Nat} (h1 : Fl .f32 n n) (h2 : Fl .f32 e e) (hv : validC n e = true) (w : World) : Calls Try.prog 28 #[pl n e] w (RS (plT (Op.negFloat .f32 n) (oppE e) true) w) := by
  obtain ⟨hn, he⟩ := turns_of hv
  have ha := opp_ab he.ab
  have KW := Hb.mk (fun w => exactF (l02Wrap_any (fop_fl (op := .add) (x := e) (y := 1056964608) ha.fin) ha w) (wrap_ab ha).fin)
  have m1 : ∀ w, (binOp .add 22 (.float .f32 e) (.float .f32 1056964608)).run Try.prog w = .ok (.float .f32 (sumC e)) w := fop_exact _ ha.fin
  change Hb (∀ w, Calls Try.prog 65 #[.float .f32 (sumC e)] w (RT (.float .f32 (oppE e)) w)) at KW
  have HV := Hb.mk hv
  clear hv ha hn he
  generalize oppE e = O at *
  generalize sumC e = S at *
  have B0 := Hb.mk (Below.refl w.heap.size w)
  go_enter Try.func28, Try.ntmps28
  go_wp2_with (first | (go_at_call 55; refine (l02Is_any h1 h2 _ (by simp [go_sem]) (by simp [go_sem])).mono ?_; rw [HV.out]; rintro e1 w1 ⟨rfl, n1, rfl⟩))
  refine region_keep 8 (by kernel_rfl) (by kernel_rfl) (fun I F hne HB hcl => ?_)
  have f1 := keepF HB (p := ⟨w.heap.size, 0, none⟩) (v := .float .f32 n) (by simp [go_sem])
  have f2 := keepF HB (p := ⟨w.heap.size, 1, none⟩) (v := .float .f32 e) (by simp [go_sem])
  have d0 := keepF HB (p := ⟨w.heap.size + 1, 0, none⟩) (v := .float .f32 0) (by simp [go_sem])
  have d1 := keepF HB (p := ⟨w.heap.size + 1, 1, none⟩) (v := .float .f32 0) (by simp [go_sem])
  have z0 := keepZ HB (p := ⟨w.heap.size + 1, 0, none⟩) (by simp [go_sem]) (by simp [go_sem])
  have z1 := keepZ HB (p := ⟨w.heap.size + 1, 1, none⟩) (by simp [go_sem]) (by simp [go_sem])
  simp only [List.take_succ_cons, List.take_zero, List.drop_succ_cons, List.drop_zero]
  repeat (quiet_step (first | (go_at_call 65; exact callD hcl (KW.out _))))
  refine wpQuiet_nil ?_
  intro _ hw'
  obtain ⟨iq, rfl⟩ := hw'
  clear hcl
  have E1 := Hb.mk (HB.out iq)
  have x0 := d0 iq
  have x1 := d1 iq
  have y0 := z0 iq
  have y1 := z1 iq
  go_wp2
  exact bodyPost_ret (v := plT (Op.negFloat .f32 n) O true) (by simp [results, Try.results28, go_sem, x0, x1]) rfl ⟨rfl, (by repeat (first | exact Below.refl _ _ | refine Below.on ?_ E1.out (by first | omega | (simp <;> omega)) | refine Below.drews ?_ | refine Below.drew ?_ | refine Below.alloc ?_ (by simp <;> omega) _ | refine Below.setCell ?_ (by simp <;> omega) _))⟩
theorem sOpp_no {n e a b : Nat} (h1 : Fl .f32 n a) (h2 : Fl .f32 e b) (hv : validC n e = false) (w : World) : Calls Try.prog 28 #[pl a b] w (RS (plT 0 0 false) w) := by
  have HV := Hb.mk hv
  clear hv
  go_enter Try.func28, Try.ntmps28
  go_wp2_with (first | (go_at_call 55; refine (l02Is_any h1 h2 _ (by simp [go_sem]) (by simp [go_sem])).mono ?_; rw [HV.out]; rintro e1 w1 ⟨rfl, n1, rfl⟩))
  exact bodyPost_ret (v := plT 0 0 false) (by simp [results, Try.results28, go_sem]) rfl ⟨rfl, (by repeat (first | exact Below.refl _ _ | with_reducible assumption | refine Below.drews ?_ | refine Below.drew ?_ | refine Below.alloc ?_ (by simp <;> omega) _ | refine Below.setCell ?_ (by simp <;> omega) _))⟩
theorem pair_OppositeOf {a b : Nat} (wa : (Lit.float .f32 a).wf = true) (wb : (Lit.float .f32 b).wf = true) :
    ∃ X Y ok, Hb (∀ w, Calls Try.prog 28 #[pl a b] w (RS (plT X Y ok) w)) ∧ Hb (∀ w, Calls Try.prog 29 #[pl a b] w (RS (plT X Y ok) w)) ∧ Fl .f32 X X ∧ Fl .f32 Y Y := by
  have h1 := Fl.own wa
  have h2 := Fl.own wb
  cases hv : validC (nrm .f32 a) (nrm .f32 b)
  · exact ⟨_, _, _, ⟨sOpp_no h1 h2 hv⟩, ⟨iOpp_no h1 h2 hv⟩, fl0, fl0⟩
  · obtain ⟨hn, he⟩ := turns_of hv
    have e1 := hn.word h1
    have e2 := he.word h2
    rw [← e1] at hn h1 hv
    rw [← e2] at he h2 hv
    exact ⟨_, _, _, ⟨sOpp_yes h1 h2 hv⟩, ⟨iOpp_yes h1 h2 hv⟩, neg_fl hn.ab h1, wrap_fl (opp_ab he.ab)⟩
set_option maxHeartbeats 2000000 in
theorem law_OppositeOf {a0 b0 : Nat} (wa0 : (Lit.float .f32 a0).wf = true) (wb0 : (Lit.float .f32 b0).wf = true) (w : World) : Calls Try.prog 8 #[pl a0 b0] w (RS (.bool true) w) := by
  obtain ⟨X, Y, ok, KS, KG, f1, f2⟩ := pair_OppositeOf wa0 wb0
  have B0 := Hb.mk (Below.refl w.heap.size w)
  cases ok
  all_goals
    go_enter Try.func8, Try.ntmps8
    have tk_a : True := trivial; have tk_b : True := trivial
    go_wp2_with (first
      | (go_at_call 16; clear tk_a; refine (toPlace_any _ _ _).mono ?_; rintro e w1 ⟨rfl, b1⟩; have B1 := Hb.mk (Below.on (B := w.heap.size) (a := w) (by repeat (first | exact B0.out | refine Below.drews ?_ | refine Below.drew ?_ | refine Below.alloc ?_ (by have hq_ := B0.out.size; first | omega | (simp <;> omega)) _ | refine Below.setCell ?_ (by have hq_ := B0.out.size; first | omega | (simp <;> omega)) _)) b1 (by have hq_ := B0.out.size; first | omega | (simp <;> omega))); have p0 := Hb.mk (At.keep b1 (p := ⟨w.heap.size, 0, none⟩) (v := .float .f32 a0) (by simp [go_sem]) (by simp [go_sem])); obtain ⟨p0c, p0z, p0l⟩ := p0.out; have p1 := Hb.mk (At.keep b1 (p := ⟨w.heap.size, 1, none⟩) (v := .float .f32 b0) (by simp [go_sem]) (by simp [go_sem])); obtain ⟨p1c, p1z, p1l⟩ := p1.out; clear b1)
      | (go_at_call 28; refine (KS.out _).mono ?_; rintro e w2 ⟨rfl, b2⟩; have B2 := Hb.mk (Below.on (B := w.heap.size) (a := w) (by repeat (first | exact B1.out | refine Below.drews ?_ | refine Below.drew ?_ | refine Below.alloc ?_ (by have hq_ := B1.out.size; first | omega | (simp <;> omega)) _ | refine Below.setCell ?_ (by have hq_ := B1.out.size; first | omega | (simp <;> omega)) _)) b2 (by have hq_ := B1.out.size; first | omega | (simp <;> omega))); have p0 := Hb.mk (At.re p0.out b2 (by first | exact p0c | simp [go_sem, p0c, p0l]) (by first | exact p0z | simp [go_sem, p0z, p0l])); obtain ⟨p0c, p0z, p0l⟩ := p0.out; have p1 := Hb.mk (At.re p1.out b2 (by first | exact p1c | simp [go_sem, p1c, p1l]) (by first | exact p1z | simp [go_sem, p1z, p1l])); obtain ⟨p1c, p1z, p1l⟩ := p1.out; clear b2)
      | (go_at_call 16; clear tk_b; refine (toPlace_any _ _ _).mono ?_; rintro e w3 ⟨rfl, b3⟩; have B3 := Hb.mk (Below.on (B := w.heap.size) (a := w) (by repeat (first | exact B2.out | refine Below.drews ?_ | refine Below.drew ?_ | refine Below.alloc ?_ (by have hq_ := B2.out.size; first | omega | (simp <;> omega)) _ | refine Below.setCell ?_ (by have hq_ := B2.out.size; first | omega | (simp <;> omega)) _)) b3 (by have hq_ := B2.out.size; first | omega | (simp <;> omega))); have g0 := Hb.mk (At.keep b3 (p := ⟨w2.heap.size, 0, none⟩) (v := .float .f32 X) (by simp [go_sem]) (by simp [go_sem])); obtain ⟨g0c, g0z, g0l⟩ := g0.out; have g1 := Hb.mk (At.keep b3 (p := ⟨w2.heap.size, 1, none⟩) (v := .float .f32 Y) (by simp [go_sem]) (by simp [go_sem])); obtain ⟨g1c, g1z, g1l⟩ := g1.out; clear b3)
      | (go_at_call 29; refine (KG.out _).mono ?_; rintro e w4 ⟨rfl, b4⟩; have B4 := Hb.mk (Below.on (B := w.heap.size) (a := w) (by repeat (first | exact B3.out | refine Below.drews ?_ | refine Below.drew ?_ | refine Below.alloc ?_ (by have hq_ := B3.out.size; first | omega | (simp <;> omega)) _ | refine Below.setCell ?_ (by have hq_ := B3.out.size; first | omega | (simp <;> omega)) _)) b4 (by have hq_ := B3.out.size; first | omega | (simp <;> omega))); have g0 := Hb.mk (At.re g0.out b4 (by first | exact g0c | simp [go_sem, g0c, g0l]) (by first | exact g0z | simp [go_sem, g0z, g0l])); obtain ⟨g0c, g0z, g0l⟩ := g0.out; have g1 := Hb.mk (At.re g1.out b4 (by first | exact g1c | simp [go_sem, g1c, g1l]) (by first | exact g1z | simp [go_sem, g1z, g1l])); obtain ⟨g1c, g1z, g1l⟩ := g1.out; clear b4)
      | (go_at_call 23; refine (eqPlace_any f1 f2 f1 f2 _).mono ?_; rintro e w5 ⟨rfl, b5⟩; have B5 := Hb.mk (Below.on (B := w.heap.size) (a := w) (by repeat (first | exact B4.out | refine Below.drews ?_ | refine Below.drew ?_ | refine Below.alloc ?_ (by have hq_ := B4.out.size; first | omega | (simp <;> omega)) _ | refine Below.setCell ?_ (by have hq_ := B4.out.size; first | omega | (simp <;> omega)) _)) b5 (by have hq_ := B4.out.size; first | omega | (simp <;> omega))); clear b5))
    go_ret
    exact ⟨rfl, (by repeat (first | exact B5.out | refine Below.drews ?_ | refine Below.drew ?_ | refine Below.alloc ?_ (by have hq_ := B5.out.size; first | omega | (simp <;> omega)) _ | refine Below.setCell ?_ (by have hq_ := B5.out.size; first | omega | (simp <;> omega)) _))⟩
end Go.Proofs.Ytbpfheefhdlglab
