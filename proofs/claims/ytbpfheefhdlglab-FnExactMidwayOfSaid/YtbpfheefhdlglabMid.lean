/-
  The middle of two places, of the program and of its model; the exact law MidwayOf. No condition.
-/
import Derived.Test.YtbpfheefhdlglabApt
import Derived.Test.YtbpfheefhdlglabPla
import Derived.Test.YtbpfheefhdlglabLat0
namespace Go.Proofs.Ytbpfheefhdlglab
open Go Go.RowKit
set_option maxRecDepth 100000
theorem extract_pure {P : Program} {ops : Array Oper} {o : Oper} {x : Operand} {j : Nat} (ho : o.op = .extract x j) (C : World → Prop) (R : World → World → Prop) (a : Act) (v : Value) (hC : ∃ w, C w) (hy : YR P ops C R o v a) : Yields P ops o v a := by
  obtain ⟨dst, op, ty, pos, af, gd⟩ := o
  change op = .extract x j at ho
  subst ho
  rcases hy with ⟨h1, h2⟩ | h
  · obtain ⟨w0, hw0⟩ := hC
    refine .inl ⟨h1, fun w => ?_⟩
    have h3 := h2 w0 hw0
    revert h3
    simp only [execOp]
    generalize a.eval x = y
    unfold Instr.extract
    cases y
    case tuple vs =>
      cases hv : vs[j]?
      · simp [Oper.quietUpon, stuck, hv, Result.andThen, go_sem]
      · simp [Oper.quietUpon, hv, go_sem]
    all_goals simp [Oper.quietUpon, stuck, Result.andThen, go_sem]
  · exact .inr h
theorem wayPlus_any {x y z a b c x' y' z' a' b' c' : Nat} (h1 : Fl .f32 x a) (h2 : Fl .f32 y b) (h3 : Fl .f32 z c) (h4 : Fl .f32 x' a') (h5 : Fl .f32 y' b') (h6 : Fl .f32 z' c') (w : World) : Calls Try.prog 64 #[wy a b c, wy a' b' c'] w (RWB (fop .add .f32 x x') (fop .add .f32 y y') (fop .add .f32 z z') w) := by
  go_enter Try.func64, Try.ntmps64
  have tk_m1 : True := trivial; have tk_m2 : True := trivial; have tk_m3 : True := trivial
  go_wp2_with (first | (clear tk_m1; refine wpList_fop rfl rfl rfl rfl rfl h1 h4 ?_; intro m1 n_m1 h_m1; simp only [Act.put, List.setIfInBounds_toArray, List.set_cons_succ, List.set_cons_zero]) | (clear tk_m2; refine wpList_fop rfl rfl rfl rfl rfl h2 h5 ?_; intro m2 n_m2 h_m2; simp only [Act.put, List.setIfInBounds_toArray, List.set_cons_succ, List.set_cons_zero]) | (clear tk_m3; refine wpList_fop rfl rfl rfl rfl rfl h3 h6 ?_; intro m3 n_m3 h_m3; simp only [Act.put, List.setIfInBounds_toArray, List.set_cons_succ, List.set_cons_zero]))
  exact bodyPost_ret (v := wy m1 m2 m3) (by simp [results, Try.results64, go_sem]) rfl ⟨_, _, _, rfl, h_m1, h_m2, h_m3, (by repeat (first | exact Below.refl _ _ | with_reducible assumption | refine Below.drews ?_ | refine Below.drew ?_ | refine Below.alloc ?_ (by simp <;> omega) _ | refine Below.setCell ?_ (by simp <;> omega) _))⟩
theorem l02Add_any {x y z a b c x' y' z' a' b' c' : Nat} (h1 : Fl .f32 x a) (h2 : Fl .f32 y b) (h3 : Fl .f32 z c) (h4 : Fl .f32 x' a') (h5 : Fl .f32 y' b') (h6 : Fl .f32 z' c') (w : World) : Calls Try.prog 61 #[wy a b c, wy a' b' c'] w (RWB (fop .add .f32 x x') (fop .add .f32 y y') (fop .add .f32 z z') w) := by
  go_enter Try.func61, Try.ntmps61
  have tk_m1 : True := trivial; have tk_m2 : True := trivial; have tk_m3 : True := trivial
  go_wp2_with (first | (clear tk_m1; refine wpList_fop rfl rfl rfl rfl rfl h1 h4 ?_; intro m1 n_m1 h_m1; simp only [Act.put, List.setIfInBounds_toArray, List.set_cons_succ, List.set_cons_zero]) | (clear tk_m2; refine wpList_fop rfl rfl rfl rfl rfl h2 h5 ?_; intro m2 n_m2 h_m2; simp only [Act.put, List.setIfInBounds_toArray, List.set_cons_succ, List.set_cons_zero]) | (clear tk_m3; refine wpList_fop rfl rfl rfl rfl rfl h3 h6 ?_; intro m3 n_m3 h_m3; simp only [Act.put, List.setIfInBounds_toArray, List.set_cons_succ, List.set_cons_zero]))
  exact bodyPost_ret (v := wy m1 m2 m3) (by simp [results, Try.results61, go_sem]) rfl ⟨_, _, _, rfl, h_m1, h_m2, h_m3, (by repeat (first | exact Below.refl _ _ | with_reducible assumption | refine Below.drews ?_ | refine Below.drew ?_ | refine Below.alloc ?_ (by simp <;> omega) _ | refine Below.setCell ?_ (by simp <;> omega) _))⟩
theorem Wb.plus {x y z x' y' z' : Nat} (h : Wb x y z 1082130432) (g : Wb x' y' z' 1082130432) : Wb (fop .add .f32 x x') (fop .add .f32 y y') (fop .add .f32 z z') 1090519040 := by
  have a1 : Ab .f32 (fop .add .f32 x x') 1090519040 := add_ab h.ax g.ax (by decide +kernel) (by decide +kernel)
  have a2 : Ab .f32 (fop .add .f32 y y') 1090519040 := add_ab h.ay g.ay (by decide +kernel) (by decide +kernel)
  have a3 : Ab .f32 (fop .add .f32 z z') 1090519040 := add_ab h.az g.az (by decide +kernel) (by decide +kernel)
  exact ⟨a1, a2, a3, fop_fl (op := .add) a1.fin, fop_fl (op := .add) a2.fin, fop_fl (op := .add) a3.fin⟩
set_option maxHeartbeats 4000000 in
theorem iMid_yes {n0 e0 n1 e1 : Nat} (f0 : Fl .f32 n0 n0) (h0 : Fl .f32 e0 e0) (f1 : Fl .f32 n1 n1) (h1 : Fl .f32 e1 e1) {X Y : Nat} {ok : Bool} (v0 : validC n0 e0 = true) (v1 : validC n1 e1 = true) (KP : Hb (∀ w, Calls Try.prog 63 #[wy (fop .add .f32 (wxC n0 e0) (wxC n1 e1)) (fop .add .f32 (wyC n0 e0) (wyC n1 e1)) (fop .add .f32 (sineC n0) (sineC n1))] w (RS (plT X Y ok) w))) (w : World) : Calls Try.prog 25 #[pl n0 e0, pl n1 e1] w (RS (plT X Y ok) w) := by
  obtain ⟨tn0, te0⟩ := turns_of v0
  obtain ⟨tn1, te1⟩ := turns_of v1
  have wb0 := Wb.way tn0 te0
  have wb1 := Wb.way tn1 te1
  have hs := wb0.plus wb1
  have KA := Hb.mk (fun w => exactW (wayPlus_any wb0.fx wb0.fy wb0.fz wb1.fx wb1.fy wb1.fz w) hs.ax.fin hs.ay.fin hs.az.fin)
  have KS := Hb.mk (fun (g : Nat) => ws2 (g := g) f0 h0 f1 h1 v0 v1)
  clear v0 v1 tn0 te0 tn1 te1 wb0 wb1 hs
  generalize fop .add .f32 (wxC n0 e0) (wxC n1 e1) = SX at *
  generalize fop .add .f32 (wyC n0 e0) (wyC n1 e1) = SY at *
  generalize fop .add .f32 (sineC n0) (sineC n1) = SZ at *
  generalize wxC n0 e0 = a at *
  generalize wyC n0 e0 = b at *
  generalize sineC n0 = c at *
  generalize wxC n1 e1 = x at *
  generalize wyC n1 e1 = y at *
  generalize sineC n1 = z at *
  have B0 := Hb.mk (Below.refl w.heap.size w)
  go_enter Try.func25, Try.ntmps25
  go_wp2_with (first | (go_at_call 48; refine (KS.out _ _ (by simp [go_sem]) (by simp [go_sem]) (by simp [go_sem]) (by simp [go_sem])).mono ?_; rintro ex w1 ⟨rfl, b1, l1, k1⟩; have B1 := Hb.mk (Below.on (B := w.heap.size) (a := w) (by repeat (first | exact B0.out | refine Below.drews ?_ | refine Below.drew ?_ | refine Below.alloc ?_ (by have hq_ := B0.out.size; first | omega | (simp <;> omega)) _ | refine Below.setCell ?_ (by have hq_ := B0.out.size; first | omega | (simp <;> omega)) _)) b1 (by have hq_ := B0.out.size; first | omega | (simp <;> omega))); have r0 := Hb.mk (At.keep b1 (p := ⟨w.heap.size + 2, 0, none⟩) (v := .float .f32 0) (by simp [go_sem]) (by simp [go_sem])); obtain ⟨r0c, r0z, r0l⟩ := r0.out; have r1 := Hb.mk (At.keep b1 (p := ⟨w.heap.size + 2, 1, none⟩) (v := .float .f32 0) (by simp [go_sem]) (by simp [go_sem])); obtain ⟨r1c, r1z, r1l⟩ := r1.out; have q0 := k1 0 (by decide); have q1 := k1 1 (by decide); have q2 := k1 2 (by decide); have q3 := k1 3 (by decide); have q4 := k1 4 (by decide); have q5 := k1 5 (by decide); simp at q0 q1 q2 q3 q4 q5 l1; clear k1 b1))
  refine region_late0 10 9 (by kernel_rfl) (by kernel_rfl) rfl (extract_pure rfl) (fun d v c a w h => by cases d <;> exact h) (fun I F hne HB => ?_)
  have p0 := keepF HB (p := ⟨w.heap.size + 4, 0, none⟩) (v := .float .f32 a) q0
  have p1 := keepF HB (p := ⟨w.heap.size + 4, 1, none⟩) (v := .float .f32 b) q1
  have p2 := keepF HB (p := ⟨w.heap.size + 4, 2, none⟩) (v := .float .f32 c) q2
  have p3 := keepF HB (p := ⟨w.heap.size + 4, 3, none⟩) (v := .float .f32 x) q3
  have p4 := keepF HB (p := ⟨w.heap.size + 4, 4, none⟩) (v := .float .f32 y) q4
  have p5 := keepF HB (p := ⟨w.heap.size + 4, 5, none⟩) (v := .float .f32 z) q5
  have d0 := keepF HB (p := ⟨w.heap.size + 2, 0, none⟩) (v := .float .f32 0) (by first | exact r0c | simp [go_sem, r0c])
  have z0 := keepZ HB (p := ⟨w.heap.size + 2, 0, none⟩) (by first | exact r0l | simp [go_sem, r0l]) (by first | exact r0z | simp [go_sem, r0z])
  have d1 := keepF HB (p := ⟨w.heap.size + 2, 1, none⟩) (v := .float .f32 0) (by first | exact r1c | simp [go_sem, r1c])
  have z1 := keepZ HB (p := ⟨w.heap.size + 2, 1, none⟩) (by first | exact r1l | simp [go_sem, r1l]) (by first | exact r1z | simp [go_sem, r1z])
  simp only [List.take_succ_cons, List.take_zero, List.drop_succ_cons, List.drop_zero]
  repeat (refine lex_step (fun K hK => ?_); go_simp; first | (refine hK _ ?_; clear hK K) | (apply Exists.intro; refine ⟨fun _ => ?_, hK _ ?_⟩; (first | (go_at_call 64; exact callR (KA.out _)) | (go_at_call 63; exact callR (KP.out _))); clear hK K))
  refine lex_nil ?_
  intro iq
  have x0 := d0 iq
  have x1 := d1 iq
  have y0 := z0 iq
  have y1 := z1 iq
  have E1 := Hb.mk (HB.out iq)
  have sB := B1.out.size
  go_wp2
  exact bodyPost_ret (v := plT X Y ok) (by simp [results, Try.results25, go_sem, x0, x1]) rfl ⟨rfl, (by repeat (first | exact Below.refl _ _ | refine Below.on ?_ E1.out (by first | omega | (simp <;> omega)) | exact B1.out | refine Below.drews ?_ | refine Below.drew ?_ | refine Below.alloc ?_ (by first | omega | (simp <;> omega)) _ | refine Below.setCell ?_ (by first | omega | (simp <;> omega)) _))⟩
theorem iMid_no0 {n0 e0 n1 e1 cn ce : Nat} (f0 : Fl .f32 cn n0) (h0 : Fl .f32 ce e0) (v0 : validC cn ce = false) (w : World) : Calls Try.prog 25 #[pl n0 e0, pl n1 e1] w (RS (plT 0 0 false) w) := by
  have KS := Hb.mk (fun (g : Nat) => ws2_no0 (g := g) (n0 := n0) (e0 := e0) (n1 := n1) (e1 := e1) f0 h0 v0)
  clear v0
  have B0 := Hb.mk (Below.refl w.heap.size w)
  go_enter Try.func25, Try.ntmps25
  go_wp2_with (first | (go_at_call 48; refine (KS.out _ _ (by simp [go_sem]) (by simp [go_sem]) (by simp [go_sem]) (by simp [go_sem])).mono ?_; rintro ex w1 ⟨rfl, b1⟩; have B1 := Hb.mk (Below.on (B := w.heap.size) (a := w) (by repeat (first | exact B0.out | refine Below.drews ?_ | refine Below.drew ?_ | refine Below.alloc ?_ (by have hq_ := B0.out.size; first | omega | (simp <;> omega)) _ | refine Below.setCell ?_ (by have hq_ := B0.out.size; first | omega | (simp <;> omega)) _)) b1 (by have hq_ := B0.out.size; first | omega | (simp <;> omega))); have r0 := Hb.mk (At.keep b1 (p := ⟨w.heap.size + 2, 0, none⟩) (v := .float .f32 0) (by simp [go_sem]) (by simp [go_sem])); obtain ⟨r0c, r0z, r0l⟩ := r0.out; have r1 := Hb.mk (At.keep b1 (p := ⟨w.heap.size + 2, 1, none⟩) (v := .float .f32 0) (by simp [go_sem]) (by simp [go_sem])); obtain ⟨r1c, r1z, r1l⟩ := r1.out; clear b1))
  exact bodyPost_ret (v := plT 0 0 false) (by simp [results, Try.results25, go_sem, r0c, r1c]) rfl ⟨rfl, (by repeat (first | exact Below.refl _ _ | exact B1.out | refine Below.drews ?_ | refine Below.drew ?_ | refine Below.alloc ?_ (by first | omega | (simp <;> omega)) _ | refine Below.setCell ?_ (by first | omega | (simp <;> omega)) _))⟩
theorem iMid_no1 {n0 e0 n1 e1 cn ce : Nat} (f0 : Fl .f32 n0 n0) (h0 : Fl .f32 e0 e0) (f1 : Fl .f32 cn n1) (h1 : Fl .f32 ce e1) (v0 : validC n0 e0 = true) (v1 : validC cn ce = false) (w : World) : Calls Try.prog 25 #[pl n0 e0, pl n1 e1] w (RS (plT 0 0 false) w) := by
  have KS := Hb.mk (fun (g : Nat) => ws2_no1 (g := g) (n0 := n0) (e0 := e0) (n1 := n1) (e1 := e1) f0 h0 f1 h1 v0 v1)
  clear v0 v1
  have B0 := Hb.mk (Below.refl w.heap.size w)
  go_enter Try.func25, Try.ntmps25
  go_wp2_with (first | (go_at_call 48; refine (KS.out _ _ (by simp [go_sem]) (by simp [go_sem]) (by simp [go_sem]) (by simp [go_sem])).mono ?_; rintro ex w1 ⟨rfl, b1⟩; have B1 := Hb.mk (Below.on (B := w.heap.size) (a := w) (by repeat (first | exact B0.out | refine Below.drews ?_ | refine Below.drew ?_ | refine Below.alloc ?_ (by have hq_ := B0.out.size; first | omega | (simp <;> omega)) _ | refine Below.setCell ?_ (by have hq_ := B0.out.size; first | omega | (simp <;> omega)) _)) b1 (by have hq_ := B0.out.size; first | omega | (simp <;> omega))); have r0 := Hb.mk (At.keep b1 (p := ⟨w.heap.size + 2, 0, none⟩) (v := .float .f32 0) (by simp [go_sem]) (by simp [go_sem])); obtain ⟨r0c, r0z, r0l⟩ := r0.out; have r1 := Hb.mk (At.keep b1 (p := ⟨w.heap.size + 2, 1, none⟩) (v := .float .f32 0) (by simp [go_sem]) (by simp [go_sem])); obtain ⟨r1c, r1z, r1l⟩ := r1.out; clear b1))
  exact bodyPost_ret (v := plT 0 0 false) (by simp [results, Try.results25, go_sem, r0c, r1c]) rfl ⟨rfl, (by repeat (first | exact Below.refl _ _ | exact B1.out | refine Below.drews ?_ | refine Below.drew ?_ | refine Below.alloc ?_ (by first | omega | (simp <;> omega)) _ | refine Below.setCell ?_ (by first | omega | (simp <;> omega)) _))⟩
set_option maxHeartbeats 4000000 in
theorem sMid_yes {n0 e0 n1 e1 : Nat} (f0 : Fl .f32 n0 n0) (h0 : Fl .f32 e0 e0) (f1 : Fl .f32 n1 n1) (h1 : Fl .f32 e1 e1) {X Y : Nat} {ok : Bool} (v0 : validC n0 e0 = true) (v1 : validC n1 e1 = true) (KP : Hb (∀ w, Calls Try.prog 60 #[wy (fop .add .f32 (wxC n0 e0) (wxC n1 e1)) (fop .add .f32 (wyC n0 e0) (wyC n1 e1)) (fop .add .f32 (sineC n0) (sineC n1))] w (RS (plT X Y ok) w))) (w : World) : Calls Try.prog 24 #[pl n0 e0, pl n1 e1] w (RS (plT X Y ok) w) := by
  obtain ⟨tn0, te0⟩ := turns_of v0
  obtain ⟨tn1, te1⟩ := turns_of v1
  have wb0 := Wb.way tn0 te0
  have wb1 := Wb.way tn1 te1
  have hs := wb0.plus wb1
  have KA := Hb.mk (fun w => exactW (l02Add_any wb0.fx wb0.fy wb0.fz wb1.fx wb1.fy wb1.fz w) hs.ax.fin hs.ay.fin hs.az.fin)
  have KV := l02Two_any f0 h0 f1 h1
  rw [v0, v1] at KV
  have V := Hb.mk KV
  have KW0 := Hb.mk (l02Way_any f0 h0 tn0 te0)
  have KW1 := Hb.mk (l02Way_any f1 h1 tn1 te1)
  clear KV v0 v1 tn0 te0 tn1 te1 wb0 wb1 hs
  generalize fop .add .f32 (wxC n0 e0) (wxC n1 e1) = SX at *
  generalize fop .add .f32 (wyC n0 e0) (wyC n1 e1) = SY at *
  generalize fop .add .f32 (sineC n0) (sineC n1) = SZ at *
  generalize wxC n0 e0 = a at *
  generalize wyC n0 e0 = b at *
  generalize sineC n0 = c at *
  generalize wxC n1 e1 = x at *
  generalize wyC n1 e1 = y at *
  generalize sineC n1 = z at *
  have B0 := Hb.mk (Below.refl w.heap.size w)
  go_enter Try.func24, Try.ntmps24
  go_wp2_with (first | (go_at_call 45; refine (V.out _).mono ?_; rintro ex w1 ⟨rfl, b1⟩; have B1 := Hb.mk (Below.on (B := w.heap.size) (a := w) (by repeat (first | exact B0.out | refine Below.drews ?_ | refine Below.drew ?_ | refine Below.alloc ?_ (by have hq_ := B0.out.size; first | omega | (simp <;> omega)) _ | refine Below.setCell ?_ (by have hq_ := B0.out.size; first | omega | (simp <;> omega)) _)) b1 (by have hq_ := B0.out.size; first | omega | (simp <;> omega))); have p0 := Hb.mk (At.keep b1 (p := ⟨w.heap.size, 0, none⟩) (v := .float .f32 n0) (by simp [go_sem]) (by simp [go_sem])); obtain ⟨p0c, p0z, p0l⟩ := p0.out; have p1 := Hb.mk (At.keep b1 (p := ⟨w.heap.size, 1, none⟩) (v := .float .f32 e0) (by simp [go_sem]) (by simp [go_sem])); obtain ⟨p1c, p1z, p1l⟩ := p1.out; have q0 := Hb.mk (At.keep b1 (p := ⟨w.heap.size + 1, 0, none⟩) (v := .float .f32 n1) (by simp [go_sem]) (by simp [go_sem])); obtain ⟨q0c, q0z, q0l⟩ := q0.out; have q1 := Hb.mk (At.keep b1 (p := ⟨w.heap.size + 1, 1, none⟩) (v := .float .f32 e1) (by simp [go_sem]) (by simp [go_sem])); obtain ⟨q1c, q1z, q1l⟩ := q1.out; have r0 := Hb.mk (At.keep b1 (p := ⟨w.heap.size + 2, 0, none⟩) (v := .float .f32 0) (by simp [go_sem]) (by simp [go_sem])); obtain ⟨r0c, r0z, r0l⟩ := r0.out; have r1 := Hb.mk (At.keep b1 (p := ⟨w.heap.size + 2, 1, none⟩) (v := .float .f32 0) (by simp [go_sem]) (by simp [go_sem])); obtain ⟨r1c, r1z, r1l⟩ := r1.out; clear b1))
  refine region_late0 8 7 (by kernel_rfl) (by kernel_rfl) rfl (extract_pure rfl) (fun d v c a w h => by cases d <;> exact h) (fun I F hne HB => ?_)
  have u00 := keepF HB (p := ⟨w.heap.size, 0, none⟩) (v := .float .f32 n0) p0c
  have u01 := keepF HB (p := ⟨w.heap.size, 1, none⟩) (v := .float .f32 e0) p1c
  have u10 := keepF HB (p := ⟨w.heap.size + 1, 0, none⟩) (v := .float .f32 n1) q0c
  have u11 := keepF HB (p := ⟨w.heap.size + 1, 1, none⟩) (v := .float .f32 e1) q1c
  have d0 := keepF HB (p := ⟨w.heap.size + 2, 0, none⟩) (v := .float .f32 0) (by first | exact r0c | simp [go_sem, r0c])
  have z0 := keepZ HB (p := ⟨w.heap.size + 2, 0, none⟩) (by first | exact r0l | simp [go_sem, r0l]) (by first | exact r0z | simp [go_sem, r0z])
  have d1 := keepF HB (p := ⟨w.heap.size + 2, 1, none⟩) (v := .float .f32 0) (by first | exact r1c | simp [go_sem, r1c])
  have z1 := keepZ HB (p := ⟨w.heap.size + 2, 1, none⟩) (by first | exact r1l | simp [go_sem, r1l]) (by first | exact r1z | simp [go_sem, r1z])
  simp only [List.take_succ_cons, List.take_zero, List.drop_succ_cons, List.drop_zero]
  repeat (refine lex_step (fun K hK => ?_); go_simp; first | (refine hK _ ?_; clear hK K) | (apply Exists.intro; refine ⟨fun _ => ?_, hK _ ?_⟩; (first | (go_at_call_of 62 (Value.float .f32 n0); exact callR (KW0.out _)) | (go_at_call_of 62 (Value.float .f32 n1); exact callR (KW1.out _)) | (go_at_call 61; exact callR (KA.out _)) | (go_at_call 60; exact callR (KP.out _))); clear hK K))
  refine lex_nil ?_
  intro iq
  have x0 := d0 iq
  have x1 := d1 iq
  have y0 := z0 iq
  have y1 := z1 iq
  have E1 := Hb.mk (HB.out iq)
  have sB := B1.out.size
  go_wp2
  exact bodyPost_ret (v := plT X Y ok) (by simp [results, Try.results24, go_sem, x0, x1]) rfl ⟨rfl, (by repeat (first | exact Below.refl _ _ | refine Below.on ?_ E1.out (by first | omega | (simp <;> omega)) | exact B1.out | refine Below.drews ?_ | refine Below.drew ?_ | refine Below.alloc ?_ (by first | omega | (simp <;> omega)) _ | refine Below.setCell ?_ (by first | omega | (simp <;> omega)) _))⟩
theorem sMid_no {n1 e1 n2 e2 a b c d : Nat} (h1 : Fl .f32 n1 a) (h2 : Fl .f32 e1 b) (h3 : Fl .f32 n2 c) (h4 : Fl .f32 e2 d) (v : (validC n1 e1 && validC n2 e2) = false) (w : World) : Calls Try.prog 24 #[pl a b, pl c d] w (RS (plT 0 0 false) w) := by
  have KV := l02Two_any h1 h2 h3 h4
  rw [v] at KV
  have V := Hb.mk KV
  clear KV v
  have B0 := Hb.mk (Below.refl w.heap.size w)
  go_enter Try.func24, Try.ntmps24
  go_wp2_with (first | (go_at_call 45; refine (V.out _).mono ?_; rintro ex w1 ⟨rfl, b1⟩; have B1 := Hb.mk (Below.on (B := w.heap.size) (a := w) (by repeat (first | exact B0.out | refine Below.drews ?_ | refine Below.drew ?_ | refine Below.alloc ?_ (by have hq_ := B0.out.size; first | omega | (simp <;> omega)) _ | refine Below.setCell ?_ (by have hq_ := B0.out.size; first | omega | (simp <;> omega)) _)) b1 (by have hq_ := B0.out.size; first | omega | (simp <;> omega))); have r0 := Hb.mk (At.keep b1 (p := ⟨w.heap.size + 2, 0, none⟩) (v := .float .f32 0) (by simp [go_sem]) (by simp [go_sem])); obtain ⟨r0c, r0z, r0l⟩ := r0.out; have r1 := Hb.mk (At.keep b1 (p := ⟨w.heap.size + 2, 1, none⟩) (v := .float .f32 0) (by simp [go_sem]) (by simp [go_sem])); obtain ⟨r1c, r1z, r1l⟩ := r1.out; clear b1))
  exact bodyPost_ret (v := plT 0 0 false) (by simp [results, Try.results24, go_sem, r0c, r1c]) rfl ⟨rfl, (by repeat (first | exact Below.refl _ _ | exact B1.out | refine Below.drews ?_ | refine Below.drew ?_ | refine Below.alloc ?_ (by first | omega | (simp <;> omega)) _ | refine Below.setCell ?_ (by first | omega | (simp <;> omega)) _))⟩
set_option maxHeartbeats 4000000 in
theorem law_MidwayOf_of {a0 b0 a1 b1 X Y : Nat} {ok : Bool} (KS : Hb (∀ w, Calls Try.prog 24 #[pl a0 b0, pl a1 b1] w (RS (plT X Y ok) w))) (KG : Hb (∀ w, Calls Try.prog 25 #[pl a0 b0, pl a1 b1] w (RS (plT X Y ok) w))) (f0 : Fl .f32 X X) (f1 : Fl .f32 Y Y) (w : World) :
    Calls Try.prog 6 #[pl a0 b0, pl a1 b1] w (RS (.bool true) w) := by
  have B0 := Hb.mk (Below.refl w.heap.size w)
  cases ok
  all_goals
    go_enter Try.func6, Try.ntmps6
    go_wp2
    refine region_freshl (o := ?o1) 8 7 (by kernel_rfl) (by kernel_rfl) (by kernel_rfl) rfl rfl (extract_pure rfl) (fun d v c a w h => by cases d <;> exact h) rfl rfl (fun a w => ?hA1) (fun I1 F1 hne1 HB1 => ?h1)
    case hA1 =>
      go_simp
      try rfl
    case h1 =>
      have p1_0_0 := keepF HB1 (p := ⟨w.heap.size, 0, none⟩) (v := .float .f32 a0) (by first | simp | simp [go_sem])
      have p1_0_1 := keepF HB1 (p := ⟨w.heap.size, 1, none⟩) (v := .float .f32 b0) (by first | simp | simp [go_sem])
      have p1_1_0 := keepF HB1 (p := ⟨w.heap.size + 1, 0, none⟩) (v := .float .f32 a1) (by first | simp | simp [go_sem])
      have p1_1_1 := keepF HB1 (p := ⟨w.heap.size + 1, 1, none⟩) (v := .float .f32 b1) (by first | simp | simp [go_sem])
      simp only [List.take_succ_cons, List.take_zero, List.drop_succ_cons, List.drop_zero]
      repeat (refine lex_step (fun K hK => ?_); go_simp; first | (refine hK _ ?_; clear hK K) | (apply Exists.intro; refine ⟨fun _ => ?_, hK _ ?_⟩; (first | (go_at_call 16; exact callR (toPlace_any _ _ _)) | (go_at_call 24; exact callR (KS.out _)) | (go_at_call 25; exact callR (KG.out _))); clear hK K))
      refine lex_nil ?_
      intro i1 w1 hb1
      have bF1 : Below (F1 i1).heap.size (F1 i1) w1 := Below.on ((Below.refl _ _).alloc (Nat.le_refl _) _) hb1 (by simp)
      have d1_0 := Below.keep hb1 (p := ⟨(F1 i1).heap.size, 0, none⟩) (v := .float .f32 0) (by simp)
      have z1_0 : w1.frozen? ⟨(F1 i1).heap.size, 0, none⟩ = false := by rw [hb1.frozen (by simp)]; simp
      have d1_1 := Below.keep hb1 (p := ⟨(F1 i1).heap.size, 1, none⟩) (v := .float .f32 0) (by simp)
      have z1_1 : w1.frozen? ⟨(F1 i1).heap.size, 1, none⟩ = false := by rw [hb1.frozen (by simp)]; simp
      have q1_0_0 := Below.keep bF1 (p1_0_0 i1)
      have q1_0_1 := Below.keep bF1 (p1_0_1 i1)
      have q1_1_0 := Below.keep bF1 (p1_1_0 i1)
      have q1_1_1 := Below.keep bF1 (p1_1_1 i1)
      have BF1 := Hb.mk (Below.on (HB1.out i1) bF1 (HB1.out i1).size)
      have lt1 : (F1 i1).heap.size < w1.heap.size := by have := hb1.size; simp at this; omega
      have hs1 := (HB1.out i1).size
      simp at hs1
      have n1_0 : w.heap.size ≠ (F1 i1).heap.size := by omega
      have n1_1 : w.heap.size + 1 ≠ (F1 i1).heap.size := by omega
      go_wp2
      generalize hW : World.setCell (World.setCell (w1) ⟨(F1 i1).heap.size, 0, none⟩ (.float .f32 X)) ⟨(F1 i1).heap.size, 1, none⟩ (.float .f32 Y) = W
      have r1_0_0 : W.cell? ⟨w.heap.size, 0, none⟩ = some (.float .f32 a0) := by rw [← hW]; simp [go_sem, q1_0_0]
      have r1_0_1 : W.cell? ⟨w.heap.size, 1, none⟩ = some (.float .f32 b0) := by rw [← hW]; simp [go_sem, q1_0_1]
      have r1_1_0 : W.cell? ⟨w.heap.size + 1, 0, none⟩ = some (.float .f32 a1) := by rw [← hW]; simp [go_sem, q1_1_0]
      have r1_1_1 : W.cell? ⟨w.heap.size + 1, 1, none⟩ = some (.float .f32 b1) := by rw [← hW]; simp [go_sem, q1_1_1]
      have s1_0 : W.cell? ⟨(F1 i1).heap.size, 0, none⟩ = some (.float .f32 X) := by rw [← hW]; simp [go_sem, d1_0]
      have s1_1 : W.cell? ⟨(F1 i1).heap.size, 1, none⟩ = some (.float .f32 Y) := by rw [← hW]; simp [go_sem, d1_1]
      have lW : (F1 i1).heap.size < W.heap.size := by rw [← hW]; simp; exact lt1
      have BW : Below w.heap.size w W := by
        rw [← hW]
        refine Below.setCell ?_ (by show w.heap.size ≤ (F1 i1).heap.size; omega) _
        refine Below.setCell ?_ (by show w.heap.size ≤ (F1 i1).heap.size; omega) _
        exact Below.on (by repeat (first | exact Below.refl _ _ | refine Below.alloc ?_ (by first | omega | (simp <;> omega)) _)) BF1.out (by simp <;> omega)
      generalize (F1 i1).heap.size = N at *
      clear hW HB1 BF1 bF1 hb1 lt1 hs1 B0 p1_0_0 q1_0_0 p1_0_1 q1_0_1 p1_1_0 q1_1_0 p1_1_1 q1_1_1 d1_0 z1_0 d1_1 z1_1 n1_0 n1_1
      refine region_freshl (o := ?o2) 8 7 (by kernel_rfl) (by kernel_rfl) (by kernel_rfl) rfl rfl (extract_pure rfl) (fun d v c a w h => by cases d <;> exact h) rfl rfl (fun a w => ?hA2) (fun I2 F2 hne2 HB2 => ?h2)
      case hA2 =>
        go_simp
        try rfl
      case h2 =>
        have p2_0_0 := keepF HB2 (p := ⟨w.heap.size, 0, none⟩) (v := .float .f32 a0) r1_0_0
        have p2_0_1 := keepF HB2 (p := ⟨w.heap.size, 1, none⟩) (v := .float .f32 b0) r1_0_1
        have p2_1_0 := keepF HB2 (p := ⟨w.heap.size + 1, 0, none⟩) (v := .float .f32 a1) r1_1_0
        have p2_1_1 := keepF HB2 (p := ⟨w.heap.size + 1, 1, none⟩) (v := .float .f32 b1) r1_1_1
        simp only [List.take_succ_cons, List.take_zero, List.drop_succ_cons, List.drop_zero]
        repeat (refine lex_step (fun K hK => ?_); go_simp; first | (refine hK _ ?_; clear hK K) | (apply Exists.intro; refine ⟨fun _ => ?_, hK _ ?_⟩; (first | (go_at_call 16; exact callR (toPlace_any _ _ _)) | (go_at_call 24; exact callR (KS.out _)) | (go_at_call 25; exact callR (KG.out _))); clear hK K))
        refine lex_nil ?_
        intro i2 w2 hb2
        have bF2 : Below (F2 i2).heap.size (F2 i2) w2 := Below.on ((Below.refl _ _).alloc (Nat.le_refl _) _) hb2 (by simp)
        have d2_0 := Below.keep hb2 (p := ⟨(F2 i2).heap.size, 0, none⟩) (v := .float .f32 0) (by simp)
        have z2_0 : w2.frozen? ⟨(F2 i2).heap.size, 0, none⟩ = false := by rw [hb2.frozen (by simp)]; simp
        have d2_1 := Below.keep hb2 (p := ⟨(F2 i2).heap.size, 1, none⟩) (v := .float .f32 0) (by simp)
        have z2_1 : w2.frozen? ⟨(F2 i2).heap.size, 1, none⟩ = false := by rw [hb2.frozen (by simp)]; simp
        have q2_0_0 := Below.keep bF2 (p2_0_0 i2)
        have q2_0_1 := Below.keep bF2 (p2_0_1 i2)
        have q2_1_0 := Below.keep bF2 (p2_1_0 i2)
        have q2_1_1 := Below.keep bF2 (p2_1_1 i2)
        have t2_0 := Below.keep bF2 (Below.keep (HB2.out i2) s1_0)
        have t2_1 := Below.keep bF2 (Below.keep (HB2.out i2) s1_1)
        have BF2 := Hb.mk (Below.on (HB2.out i2) bF2 (HB2.out i2).size)
        have lt2 : (F2 i2).heap.size < w2.heap.size := by have := hb2.size; simp at this; omega
        have hs2 := (HB2.out i2).size
        have n2 : N ≠ (F2 i2).heap.size := by omega
        have n2' : (F2 i2).heap.size ≠ N := by omega
        go_wp2_with (first | (go_at_call 23; refine (eqPlace_any f0 f1 f0 f1 _).mono ?_; rintro e w5 ⟨rfl, b5⟩; have B5 := Hb.mk b5; clear b5))
        go_ret
        refine ⟨rfl, ?_⟩
        refine Below.on ?_ B5.out (by have := BW.size; simp; omega)
        refine Below.setCell ?_ (by have := BW.size; show w.heap.size ≤ (F2 i2).heap.size; omega) _
        refine Below.setCell ?_ (by have := BW.size; show w.heap.size ≤ (F2 i2).heap.size; omega) _
        exact Below.on BW BF2.out BW.size
theorem law_MidwayOf {a b c d : Nat} (wa : (Lit.float .f32 a).wf = true) (wb : (Lit.float .f32 b).wf = true) (wc : (Lit.float .f32 c).wf = true) (wd : (Lit.float .f32 d).wf = true) (w : World) : Calls Try.prog 6 #[pl a b, pl c d] w (RS (.bool true) w) := by
  have h1 := Fl.own wa
  have h2 := Fl.own wb
  have h3 := Fl.own wc
  have h4 := Fl.own wd
  cases v1 : validC (nrm .f32 a) (nrm .f32 b)
  · exact law_MidwayOf_of ⟨sMid_no h1 h2 h3 h4 (by rw [v1]; rfl)⟩ ⟨iMid_no0 h1 h2 v1⟩ fl0 fl0 w
  · obtain ⟨t1, t2⟩ := turns_of v1
    have x1 := t1.word h1
    have x2 := t2.word h2
    rw [← x1] at h1 v1 t1
    rw [← x2] at h2 v1 t2
    cases v2 : validC (nrm .f32 c) (nrm .f32 d)
    · exact law_MidwayOf_of ⟨sMid_no h1 h2 h3 h4 (by rw [v1, v2]; rfl)⟩ ⟨iMid_no1 h1 h2 h3 h4 v1 v2⟩ fl0 fl0 w
    · obtain ⟨t3, t4⟩ := turns_of v2
      have x3 := t3.word h3
      have x4 := t4.word h4
      rw [← x3] at h3 v2 t3
      rw [← x4] at h4 v2 t4
      have hs := (Wb.way t1 t2).plus (Wb.way t3 t4)
      cases hk : placeOk (fop .add .f32 (wxC a b) (wxC c d)) (fop .add .f32 (wyC a b) (wyC c d)) (fop .add .f32 (sineC a) (sineC c))
      · exact law_MidwayOf_of ⟨sMid_yes h1 h2 h3 h4 v1 v2 ⟨l02From_no hs.fx hs.fy hs.fz hk⟩⟩ ⟨iMid_yes h1 h2 h3 h4 v1 v2 ⟨iPlaceOfWay_no hs.fx hs.fy hs.fz hk⟩⟩ fl0 fl0 w
      · obtain ⟨g1, g2⟩ := place_fls hk
        exact law_MidwayOf_of ⟨sMid_yes h1 h2 h3 h4 v1 v2 ⟨l02From_yes hs.fx hs.fy hs.fz hk⟩⟩ ⟨iMid_yes h1 h2 h3 h4 v1 v2 ⟨iPlaceOfWay_yes hs.fx hs.fy hs.fz hk⟩⟩ g1 g2 w
end Go.Proofs.Ytbpfheefhdlglab
