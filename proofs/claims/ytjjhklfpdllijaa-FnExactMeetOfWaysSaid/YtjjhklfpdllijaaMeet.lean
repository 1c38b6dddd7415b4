/-
  Where two lines meet, of the program and of its model; the exact law MeetOfWays. No condition.
-/
import Derived.Test.YtjjhklfpdllijaaMid
namespace Go.Proofs.Ytjjhklfpdllijaa
open Go Go.RowKit
set_option maxRecDepth 100000
def ngf (x : Nat) : Nat := Op.negFloat .f32 x
theorem ngf_fl {x : Nat} (h : Fl .f32 x x) (hf : fin .f32 x = true) : Fl .f32 (ngf x) (ngf x) := by
  refine Fl.not ?_ (wf_neg h.wf)
  unfold ngf
  rw [isN_neg]
  exact fin_notN hf
theorem wayOpp_any {x y z : Nat} (w : World) : Calls Try.prog 55 #[wy x y z] w (RS (wy (ngf x) (ngf y) (ngf z)) w) := by
  go_enter Try.func55, Try.ntmps55
  go_wp2
  exact bodyPost_ret (v := wy (ngf x) (ngf y) (ngf z)) (by simp [results, Try.results55, go_sem, ngf]) rfl ⟨rfl, (by repeat (first | exact Below.refl _ _ | with_reducible assumption | refine Below.drews ?_ | refine Below.drew ?_ | refine Below.alloc ?_ (by simp <;> omega) _ | refine Below.setCell ?_ (by simp <;> omega) _))⟩
structure Meet (a b c x y z p q r s t u : Nat) : Prop where
  ab : Wb (crX a b c x y z) (crY a b c x y z) (crZ a b c x y z) 1107296256
  cd : Wb (crX p q r s t u) (crY p q r s t u) (crZ p q r s t u) 1107296256
  m : Wb (crX (crX a b c x y z) (crY a b c x y z) (crZ a b c x y z) (crX p q r s t u) (crY p q r s t u) (crZ p q r s t u)) (crY (crX a b c x y z) (crY a b c x y z) (crZ a b c x y z) (crX p q r s t u) (crY p q r s t u) (crZ p q r s t u)) (crZ (crX a b c x y z) (crY a b c x y z) (crZ a b c x y z) (crX p q r s t u) (crY p q r s t u) (crZ p q r s t u)) 1157627904
  s : Wb (fop .add .f32 a x) (fop .add .f32 b y) (fop .add .f32 c z) 1090519040
theorem Meet.of {a b c x y z p q r s t u : Nat} (h : Wb a b c 1082130432) (g : Wb x y z 1082130432) (k : Wb p q r 1082130432) (l : Wb s t u 1082130432) : Meet a b c x y z p q r s t u := by
  have h1 := h.cross (m := 1098907648) (s := 1107296256) g (by decide +kernel) (by decide +kernel) (by decide +kernel) (by decide +kernel)
  have h2 := k.cross (m := 1098907648) (s := 1107296256) l (by decide +kernel) (by decide +kernel) (by decide +kernel) (by decide +kernel)
  exact ⟨h1, h2, h1.cross (m := 1149239296) (s := 1157627904) h2 (by decide +kernel) (by decide +kernel) (by decide +kernel) (by decide +kernel), h.plus g⟩
theorem meet_dot {x y z a b c : Nat} (h : Wb x y z 1157627904) (g : Wb a b c 1090519040) : Ab .f32 (dotC x y z a b c) 1199570944 :=
  h.dot (m := 1182793728) (s := 1191182336) (t := 1199570944) g (by decide +kernel) (by decide +kernel) (by decide +kernel) (by decide +kernel) (by decide +kernel) (by decide +kernel)
def ifn (b : Bool) (x : Nat) : Nat := if b then ngf x else x
theorem ifn_t (x : Nat) : ifn true x = ngf x := rfl
theorem ifn_f (x : Nat) : ifn false x = x := rfl
set_option maxHeartbeats 8000000 in
theorem iMeet_false {n0 e0 n1 e1 n2 e2 n3 e3 : Nat} (f0 : Fl .f32 n0 n0) (h0 : Fl .f32 e0 e0) (f1 : Fl .f32 n1 n1) (h1 : Fl .f32 e1 e1) (f2 : Fl .f32 n2 n2) (h2 : Fl .f32 e2 e2) (f3 : Fl .f32 n3 n3) (h3 : Fl .f32 e3 e3) {X Y : Nat} {ok : Bool} (v0 : validC n0 e0 = true) (v1 : validC n1 e1 = true) (v2 : validC n2 e2 = true) (v3 : validC n3 e3 = true) (hb : fcmp .lss .f32 (dotC (crX (crX (wxC n0 e0) (wyC n0 e0) (sineC n0) (wxC n1 e1) (wyC n1 e1) (sineC n1)) (crY (wxC n0 e0) (wyC n0 e0) (sineC n0) (wxC n1 e1) (wyC n1 e1) (sineC n1)) (crZ (wxC n0 e0) (wyC n0 e0) (sineC n0) (wxC n1 e1) (wyC n1 e1) (sineC n1)) (crX (wxC n2 e2) (wyC n2 e2) (sineC n2) (wxC n3 e3) (wyC n3 e3) (sineC n3)) (crY (wxC n2 e2) (wyC n2 e2) (sineC n2) (wxC n3 e3) (wyC n3 e3) (sineC n3)) (crZ (wxC n2 e2) (wyC n2 e2) (sineC n2) (wxC n3 e3) (wyC n3 e3) (sineC n3))) (crY (crX (wxC n0 e0) (wyC n0 e0) (sineC n0) (wxC n1 e1) (wyC n1 e1) (sineC n1)) (crY (wxC n0 e0) (wyC n0 e0) (sineC n0) (wxC n1 e1) (wyC n1 e1) (sineC n1)) (crZ (wxC n0 e0) (wyC n0 e0) (sineC n0) (wxC n1 e1) (wyC n1 e1) (sineC n1)) (crX (wxC n2 e2) (wyC n2 e2) (sineC n2) (wxC n3 e3) (wyC n3 e3) (sineC n3)) (crY (wxC n2 e2) (wyC n2 e2) (sineC n2) (wxC n3 e3) (wyC n3 e3) (sineC n3)) (crZ (wxC n2 e2) (wyC n2 e2) (sineC n2) (wxC n3 e3) (wyC n3 e3) (sineC n3))) (crZ (crX (wxC n0 e0) (wyC n0 e0) (sineC n0) (wxC n1 e1) (wyC n1 e1) (sineC n1)) (crY (wxC n0 e0) (wyC n0 e0) (sineC n0) (wxC n1 e1) (wyC n1 e1) (sineC n1)) (crZ (wxC n0 e0) (wyC n0 e0) (sineC n0) (wxC n1 e1) (wyC n1 e1) (sineC n1)) (crX (wxC n2 e2) (wyC n2 e2) (sineC n2) (wxC n3 e3) (wyC n3 e3) (sineC n3)) (crY (wxC n2 e2) (wyC n2 e2) (sineC n2) (wxC n3 e3) (wyC n3 e3) (sineC n3)) (crZ (wxC n2 e2) (wyC n2 e2) (sineC n2) (wxC n3 e3) (wyC n3 e3) (sineC n3))) (fop .add .f32 (wxC n0 e0) (wxC n1 e1)) (fop .add .f32 (wyC n0 e0) (wyC n1 e1)) (fop .add .f32 (sineC n0) (sineC n1))) 0 = false) (KP : Hb (∀ w, Calls Try.prog 56 #[wy (crX (crX (wxC n0 e0) (wyC n0 e0) (sineC n0) (wxC n1 e1) (wyC n1 e1) (sineC n1)) (crY (wxC n0 e0) (wyC n0 e0) (sineC n0) (wxC n1 e1) (wyC n1 e1) (sineC n1)) (crZ (wxC n0 e0) (wyC n0 e0) (sineC n0) (wxC n1 e1) (wyC n1 e1) (sineC n1)) (crX (wxC n2 e2) (wyC n2 e2) (sineC n2) (wxC n3 e3) (wyC n3 e3) (sineC n3)) (crY (wxC n2 e2) (wyC n2 e2) (sineC n2) (wxC n3 e3) (wyC n3 e3) (sineC n3)) (crZ (wxC n2 e2) (wyC n2 e2) (sineC n2) (wxC n3 e3) (wyC n3 e3) (sineC n3))) (crY (crX (wxC n0 e0) (wyC n0 e0) (sineC n0) (wxC n1 e1) (wyC n1 e1) (sineC n1)) (crY (wxC n0 e0) (wyC n0 e0) (sineC n0) (wxC n1 e1) (wyC n1 e1) (sineC n1)) (crZ (wxC n0 e0) (wyC n0 e0) (sineC n0) (wxC n1 e1) (wyC n1 e1) (sineC n1)) (crX (wxC n2 e2) (wyC n2 e2) (sineC n2) (wxC n3 e3) (wyC n3 e3) (sineC n3)) (crY (wxC n2 e2) (wyC n2 e2) (sineC n2) (wxC n3 e3) (wyC n3 e3) (sineC n3)) (crZ (wxC n2 e2) (wyC n2 e2) (sineC n2) (wxC n3 e3) (wyC n3 e3) (sineC n3))) (crZ (crX (wxC n0 e0) (wyC n0 e0) (sineC n0) (wxC n1 e1) (wyC n1 e1) (sineC n1)) (crY (wxC n0 e0) (wyC n0 e0) (sineC n0) (wxC n1 e1) (wyC n1 e1) (sineC n1)) (crZ (wxC n0 e0) (wyC n0 e0) (sineC n0) (wxC n1 e1) (wyC n1 e1) (sineC n1)) (crX (wxC n2 e2) (wyC n2 e2) (sineC n2) (wxC n3 e3) (wyC n3 e3) (sineC n3)) (crY (wxC n2 e2) (wyC n2 e2) (sineC n2) (wxC n3 e3) (wyC n3 e3) (sineC n3)) (crZ (wxC n2 e2) (wyC n2 e2) (sineC n2) (wxC n3 e3) (wyC n3 e3) (sineC n3)))] w (RS (plT X Y ok) w))) (w : World) : Calls Try.prog 17 #[pl n0 e0, pl n1 e1, pl n2 e2, pl n3 e3] w (RS (plT X Y ok) w) := by
  obtain ⟨tn0, te0⟩ := turns_of v0
  have wb0 := Wb.way tn0 te0
  obtain ⟨tn1, te1⟩ := turns_of v1
  have wb1 := Wb.way tn1 te1
  obtain ⟨tn2, te2⟩ := turns_of v2
  have wb2 := Wb.way tn2 te2
  obtain ⟨tn3, te3⟩ := turns_of v3
  have wb3 := Wb.way tn3 te3
  have hm := Meet.of wb0 wb1 wb2 wb3
  have hd := meet_dot hm.m hm.s
  have KAB := Hb.mk (fun w => exactW (wayCross_any wb0.fx wb0.fy wb0.fz wb1.fx wb1.fy wb1.fz w) hm.ab.ax.fin hm.ab.ay.fin hm.ab.az.fin)
  have KCD := Hb.mk (fun w => exactW (wayCross_any wb2.fx wb2.fy wb2.fz wb3.fx wb3.fy wb3.fz w) hm.cd.ax.fin hm.cd.ay.fin hm.cd.az.fin)
  have KM := Hb.mk (fun w => exactW (wayCross_any hm.ab.fx hm.ab.fy hm.ab.fz hm.cd.fx hm.cd.fy hm.cd.fz w) hm.m.ax.fin hm.m.ay.fin hm.m.az.fin)
  have KA := Hb.mk (fun w => exactW (wayPlus_any wb0.fx wb0.fy wb0.fz wb1.fx wb1.fy wb1.fz w) hm.s.ax.fin hm.s.ay.fin hm.s.az.fin)
  have KD := Hb.mk (fun w => exactB (wayDot_any hm.m.fx hm.m.fy hm.m.fz hm.s.fx hm.s.fy hm.s.fz w) hd.fin)
  have MC : Hb ((FloatKind.f32.format.order (dotC (crX (crX (wxC n0 e0) (wyC n0 e0) (sineC n0) (wxC n1 e1) (wyC n1 e1) (sineC n1)) (crY (wxC n0 e0) (wyC n0 e0) (sineC n0) (wxC n1 e1) (wyC n1 e1) (sineC n1)) (crZ (wxC n0 e0) (wyC n0 e0) (sineC n0) (wxC n1 e1) (wyC n1 e1) (sineC n1)) (crX (wxC n2 e2) (wyC n2 e2) (sineC n2) (wxC n3 e3) (wyC n3 e3) (sineC n3)) (crY (wxC n2 e2) (wyC n2 e2) (sineC n2) (wxC n3 e3) (wyC n3 e3) (sineC n3)) (crZ (wxC n2 e2) (wyC n2 e2) (sineC n2) (wxC n3 e3) (wyC n3 e3) (sineC n3))) (crY (crX (wxC n0 e0) (wyC n0 e0) (sineC n0) (wxC n1 e1) (wyC n1 e1) (sineC n1)) (crY (wxC n0 e0) (wyC n0 e0) (sineC n0) (wxC n1 e1) (wyC n1 e1) (sineC n1)) (crZ (wxC n0 e0) (wyC n0 e0) (sineC n0) (wxC n1 e1) (wyC n1 e1) (sineC n1)) (crX (wxC n2 e2) (wyC n2 e2) (sineC n2) (wxC n3 e3) (wyC n3 e3) (sineC n3)) (crY (wxC n2 e2) (wyC n2 e2) (sineC n2) (wxC n3 e3) (wyC n3 e3) (sineC n3)) (crZ (wxC n2 e2) (wyC n2 e2) (sineC n2) (wxC n3 e3) (wyC n3 e3) (sineC n3))) (crZ (crX (wxC n0 e0) (wyC n0 e0) (sineC n0) (wxC n1 e1) (wyC n1 e1) (sineC n1)) (crY (wxC n0 e0) (wyC n0 e0) (sineC n0) (wxC n1 e1) (wyC n1 e1) (sineC n1)) (crZ (wxC n0 e0) (wyC n0 e0) (sineC n0) (wxC n1 e1) (wyC n1 e1) (sineC n1)) (crX (wxC n2 e2) (wyC n2 e2) (sineC n2) (wxC n3 e3) (wyC n3 e3) (sineC n3)) (crY (wxC n2 e2) (wyC n2 e2) (sineC n2) (wxC n3 e3) (wyC n3 e3) (sineC n3)) (crZ (wxC n2 e2) (wyC n2 e2) (sineC n2) (wxC n3 e3) (wyC n3 e3) (sineC n3))) (fop .add .f32 (wxC n0 e0) (wxC n1 e1)) (fop .add .f32 (wyC n0 e0) (wyC n1 e1)) (fop .add .f32 (sineC n0) (sineC n1))) 0 == some Ordering.lt) = false) := ⟨hb⟩
  have KS := Hb.mk (fun (g : Nat) => ws4 (g := g) f0 h0 f1 h1 f2 h2 f3 h3 v0 v1 v2 v3)
  clear hm hd hb v0 tn0 te0 wb0 v1 tn1 te1 wb1 v2 tn2 te2 wb2 v3 tn3 te3 wb3
  generalize dotC (crX (crX (wxC n0 e0) (wyC n0 e0) (sineC n0) (wxC n1 e1) (wyC n1 e1) (sineC n1)) (crY (wxC n0 e0) (wyC n0 e0) (sineC n0) (wxC n1 e1) (wyC n1 e1) (sineC n1)) (crZ (wxC n0 e0) (wyC n0 e0) (sineC n0) (wxC n1 e1) (wyC n1 e1) (sineC n1)) (crX (wxC n2 e2) (wyC n2 e2) (sineC n2) (wxC n3 e3) (wyC n3 e3) (sineC n3)) (crY (wxC n2 e2) (wyC n2 e2) (sineC n2) (wxC n3 e3) (wyC n3 e3) (sineC n3)) (crZ (wxC n2 e2) (wyC n2 e2) (sineC n2) (wxC n3 e3) (wyC n3 e3) (sineC n3))) (crY (crX (wxC n0 e0) (wyC n0 e0) (sineC n0) (wxC n1 e1) (wyC n1 e1) (sineC n1)) (crY (wxC n0 e0) (wyC n0 e0) (sineC n0) (wxC n1 e1) (wyC n1 e1) (sineC n1)) (crZ (wxC n0 e0) (wyC n0 e0) (sineC n0) (wxC n1 e1) (wyC n1 e1) (sineC n1)) (crX (wxC n2 e2) (wyC n2 e2) (sineC n2) (wxC n3 e3) (wyC n3 e3) (sineC n3)) (crY (wxC n2 e2) (wyC n2 e2) (sineC n2) (wxC n3 e3) (wyC n3 e3) (sineC n3)) (crZ (wxC n2 e2) (wyC n2 e2) (sineC n2) (wxC n3 e3) (wyC n3 e3) (sineC n3))) (crZ (crX (wxC n0 e0) (wyC n0 e0) (sineC n0) (wxC n1 e1) (wyC n1 e1) (sineC n1)) (crY (wxC n0 e0) (wyC n0 e0) (sineC n0) (wxC n1 e1) (wyC n1 e1) (sineC n1)) (crZ (wxC n0 e0) (wyC n0 e0) (sineC n0) (wxC n1 e1) (wyC n1 e1) (sineC n1)) (crX (wxC n2 e2) (wyC n2 e2) (sineC n2) (wxC n3 e3) (wyC n3 e3) (sineC n3)) (crY (wxC n2 e2) (wyC n2 e2) (sineC n2) (wxC n3 e3) (wyC n3 e3) (sineC n3)) (crZ (wxC n2 e2) (wyC n2 e2) (sineC n2) (wxC n3 e3) (wyC n3 e3) (sineC n3))) (fop .add .f32 (wxC n0 e0) (wxC n1 e1)) (fop .add .f32 (wyC n0 e0) (wyC n1 e1)) (fop .add .f32 (sineC n0) (sineC n1)) = D at *
  generalize crX (crX (wxC n0 e0) (wyC n0 e0) (sineC n0) (wxC n1 e1) (wyC n1 e1) (sineC n1)) (crY (wxC n0 e0) (wyC n0 e0) (sineC n0) (wxC n1 e1) (wyC n1 e1) (sineC n1)) (crZ (wxC n0 e0) (wyC n0 e0) (sineC n0) (wxC n1 e1) (wyC n1 e1) (sineC n1)) (crX (wxC n2 e2) (wyC n2 e2) (sineC n2) (wxC n3 e3) (wyC n3 e3) (sineC n3)) (crY (wxC n2 e2) (wyC n2 e2) (sineC n2) (wxC n3 e3) (wyC n3 e3) (sineC n3)) (crZ (wxC n2 e2) (wyC n2 e2) (sineC n2) (wxC n3 e3) (wyC n3 e3) (sineC n3)) = M1 at *
  generalize crY (crX (wxC n0 e0) (wyC n0 e0) (sineC n0) (wxC n1 e1) (wyC n1 e1) (sineC n1)) (crY (wxC n0 e0) (wyC n0 e0) (sineC n0) (wxC n1 e1) (wyC n1 e1) (sineC n1)) (crZ (wxC n0 e0) (wyC n0 e0) (sineC n0) (wxC n1 e1) (wyC n1 e1) (sineC n1)) (crX (wxC n2 e2) (wyC n2 e2) (sineC n2) (wxC n3 e3) (wyC n3 e3) (sineC n3)) (crY (wxC n2 e2) (wyC n2 e2) (sineC n2) (wxC n3 e3) (wyC n3 e3) (sineC n3)) (crZ (wxC n2 e2) (wyC n2 e2) (sineC n2) (wxC n3 e3) (wyC n3 e3) (sineC n3)) = M2 at *
  generalize crZ (crX (wxC n0 e0) (wyC n0 e0) (sineC n0) (wxC n1 e1) (wyC n1 e1) (sineC n1)) (crY (wxC n0 e0) (wyC n0 e0) (sineC n0) (wxC n1 e1) (wyC n1 e1) (sineC n1)) (crZ (wxC n0 e0) (wyC n0 e0) (sineC n0) (wxC n1 e1) (wyC n1 e1) (sineC n1)) (crX (wxC n2 e2) (wyC n2 e2) (sineC n2) (wxC n3 e3) (wyC n3 e3) (sineC n3)) (crY (wxC n2 e2) (wyC n2 e2) (sineC n2) (wxC n3 e3) (wyC n3 e3) (sineC n3)) (crZ (wxC n2 e2) (wyC n2 e2) (sineC n2) (wxC n3 e3) (wyC n3 e3) (sineC n3)) = M3 at *
  generalize fop .add .f32 (wxC n0 e0) (wxC n1 e1) = S1 at *
  generalize fop .add .f32 (wyC n0 e0) (wyC n1 e1) = S2 at *
  generalize fop .add .f32 (sineC n0) (sineC n1) = S3 at *
  generalize crX (wxC n0 e0) (wyC n0 e0) (sineC n0) (wxC n1 e1) (wyC n1 e1) (sineC n1) = P1 at *
  generalize crY (wxC n0 e0) (wyC n0 e0) (sineC n0) (wxC n1 e1) (wyC n1 e1) (sineC n1) = P2 at *
  generalize crZ (wxC n0 e0) (wyC n0 e0) (sineC n0) (wxC n1 e1) (wyC n1 e1) (sineC n1) = P3 at *
  generalize crX (wxC n2 e2) (wyC n2 e2) (sineC n2) (wxC n3 e3) (wyC n3 e3) (sineC n3) = Q1 at *
  generalize crY (wxC n2 e2) (wyC n2 e2) (sineC n2) (wxC n3 e3) (wyC n3 e3) (sineC n3) = Q2 at *
  generalize crZ (wxC n2 e2) (wyC n2 e2) (sineC n2) (wxC n3 e3) (wyC n3 e3) (sineC n3) = Q3 at *
  generalize wxC n0 e0 = x0 at *
  generalize wyC n0 e0 = y0 at *
  generalize sineC n0 = z0 at *
  generalize wxC n1 e1 = x1 at *
  generalize wyC n1 e1 = y1 at *
  generalize sineC n1 = z1 at *
  generalize wxC n2 e2 = x2 at *
  generalize wyC n2 e2 = y2 at *
  generalize sineC n2 = z2 at *
  generalize wxC n3 e3 = x3 at *
  generalize wyC n3 e3 = y3 at *
  generalize sineC n3 = z3 at *
  have B0 := Hb.mk (Below.refl w.heap.size w)
  go_enter Try.func17, Try.ntmps17
  go_wp2_with (first | (go_at_call 51; refine (KS.out _ _ (by simp [go_sem]) (by simp [go_sem]) (by simp [go_sem]) (by simp [go_sem]) (by simp [go_sem]) (by simp [go_sem]) (by simp [go_sem]) (by simp [go_sem])).mono ?_; rintro ex w1 ⟨rfl, b1, l1, k1⟩; have B1 := Hb.mk (Below.on (B := w.heap.size) (a := w) (by repeat (first | exact B0.out | refine Below.drews ?_ | refine Below.drew ?_ | refine Below.alloc ?_ (by have hq_ := B0.out.size; first | omega | (simp <;> omega)) _ | refine Below.setCell ?_ (by have hq_ := B0.out.size; first | omega | (simp <;> omega)) _)) b1 (by have hq_ := B0.out.size; first | omega | (simp <;> omega))); have r0 := Hb.mk (At.keep b1 (p := ⟨w.heap.size + 4, 0, none⟩) (v := .float .f32 0) (by simp [go_sem]) (by simp [go_sem])); obtain ⟨r0c, r0z, r0l⟩ := r0.out; have r1 := Hb.mk (At.keep b1 (p := ⟨w.heap.size + 4, 1, none⟩) (v := .float .f32 0) (by simp [go_sem]) (by simp [go_sem])); obtain ⟨r1c, r1z, r1l⟩ := r1.out; have q0 := k1 0 (by decide); have q1 := k1 1 (by decide); have q2 := k1 2 (by decide); have q3 := k1 3 (by decide); have q4 := k1 4 (by decide); have q5 := k1 5 (by decide); have q6 := k1 6 (by decide); have q7 := k1 7 (by decide); have q8 := k1 8 (by decide); have q9 := k1 9 (by decide); have q10 := k1 10 (by decide); have q11 := k1 11 (by decide); simp at q0 q1 q2 q3 q4 q5 q6 q7 q8 q9 q10 q11 l1; clear k1 b1))
  refine region_fresh (o := ?o1) 15 (by kernel_rfl) (by kernel_rfl) (by kernel_rfl) rfl rfl rfl (fun a w => ?hA1) (fun I1 F1 hne1 HB1 => ?h1)
  case hA1 =>
    go_simp
    try rfl
  have p00 := keepF HB1 (p := ⟨w.heap.size + 6, 0, none⟩) (v := .float .f32 x0) q0
  have p01 := keepF HB1 (p := ⟨w.heap.size + 6, 1, none⟩) (v := .float .f32 y0) q1
  have p02 := keepF HB1 (p := ⟨w.heap.size + 6, 2, none⟩) (v := .float .f32 z0) q2
  have p10 := keepF HB1 (p := ⟨w.heap.size + 6, 3, none⟩) (v := .float .f32 x1) q3
  have p11 := keepF HB1 (p := ⟨w.heap.size + 6, 4, none⟩) (v := .float .f32 y1) q4
  have p12 := keepF HB1 (p := ⟨w.heap.size + 6, 5, none⟩) (v := .float .f32 z1) q5
  have p20 := keepF HB1 (p := ⟨w.heap.size + 6, 6, none⟩) (v := .float .f32 x2) q6
  have p21 := keepF HB1 (p := ⟨w.heap.size + 6, 7, none⟩) (v := .float .f32 y2) q7
  have p22 := keepF HB1 (p := ⟨w.heap.size + 6, 8, none⟩) (v := .float .f32 z2) q8
  have p30 := keepF HB1 (p := ⟨w.heap.size + 6, 9, none⟩) (v := .float .f32 x3) q9
  have p31 := keepF HB1 (p := ⟨w.heap.size + 6, 10, none⟩) (v := .float .f32 y3) q10
  have p32 := keepF HB1 (p := ⟨w.heap.size + 6, 11, none⟩) (v := .float .f32 z3) q11
  have g0 := keepF HB1 (p := ⟨w.heap.size + 4, 0, none⟩) (v := .float .f32 0) (by first | exact r0c | simp [go_sem, r0c])
  have gz0 := keepZ HB1 (p := ⟨w.heap.size + 4, 0, none⟩) (by first | exact r0l | simp [go_sem, r0l]) (by first | exact r0z | simp [go_sem, r0z])
  have g1 := keepF HB1 (p := ⟨w.heap.size + 4, 1, none⟩) (v := .float .f32 0) (by first | exact r1c | simp [go_sem, r1c])
  have gz1 := keepZ HB1 (p := ⟨w.heap.size + 4, 1, none⟩) (by first | exact r1l | simp [go_sem, r1l]) (by first | exact r1z | simp [go_sem, r1z])
  simp only [List.take_succ_cons, List.take_zero, List.drop_succ_cons, List.drop_zero]
  repeat (refine lex_step (fun K hK => ?_); go_simp; first | (refine hK _ ?_; clear hK K) | (apply Exists.intro; refine ⟨fun _ => ?_, hK _ ?_⟩; (first | (go_at_call_of 52 (Value.agg #[Value.float .f32 x0, Value.float .f32 y0, Value.float .f32 z0]); exact callR (KAB.out _)) | (go_at_call_of 52 (Value.agg #[Value.float .f32 x2, Value.float .f32 y2, Value.float .f32 z2]); exact callR (KCD.out _)) | (go_at_call_of 52 (wy P1 P2 P3); exact callR (KM.out _))); clear hK K))
  refine lex_nil ?_
  intro i1 wq hb1
  have bF1 : Below (F1 i1).heap.size (F1 i1) wq := Below.on ((Below.refl _ _).alloc (Nat.le_refl _) _) hb1 (by simp)
  have d0 := Below.keep hb1 (p := ⟨(F1 i1).heap.size, 0, none⟩) (v := .float .f32 0) (by simp)
  have z0z : wq.frozen? ⟨(F1 i1).heap.size, 0, none⟩ = false := by rw [hb1.frozen (by simp)]; simp
  have d1 := Below.keep hb1 (p := ⟨(F1 i1).heap.size, 1, none⟩) (v := .float .f32 0) (by simp)
  have z1z : wq.frozen? ⟨(F1 i1).heap.size, 1, none⟩ = false := by rw [hb1.frozen (by simp)]; simp
  have d2 := Below.keep hb1 (p := ⟨(F1 i1).heap.size, 2, none⟩) (v := .float .f32 0) (by simp)
  have z2z : wq.frozen? ⟨(F1 i1).heap.size, 2, none⟩ = false := by rw [hb1.frozen (by simp)]; simp
  have kp00 := Below.keep bF1 (p00 i1)
  have kp01 := Below.keep bF1 (p01 i1)
  have kp02 := Below.keep bF1 (p02 i1)
  have kp10 := Below.keep bF1 (p10 i1)
  have kp11 := Below.keep bF1 (p11 i1)
  have kp12 := Below.keep bF1 (p12 i1)
  have kp20 := Below.keep bF1 (p20 i1)
  have kp21 := Below.keep bF1 (p21 i1)
  have kp22 := Below.keep bF1 (p22 i1)
  have kp30 := Below.keep bF1 (p30 i1)
  have kp31 := Below.keep bF1 (p31 i1)
  have kp32 := Below.keep bF1 (p32 i1)
  have kg0 := Below.keep bF1 (g0 i1)
  have kz0 : wq.frozen? ⟨w.heap.size + 4, 0, none⟩ = false := by rw [bF1.frozen (block_lt_of_cell (g0 i1))]; exact gz0 i1
  have kg1 := Below.keep bF1 (g1 i1)
  have kz1 : wq.frozen? ⟨w.heap.size + 4, 1, none⟩ = false := by rw [bF1.frozen (block_lt_of_cell (g1 i1))]; exact gz1 i1
  have lt1 : (F1 i1).heap.size < wq.heap.size := by have := hb1.size; simp at this; omega
  have hs1 := (HB1.out i1).size
  have EF1 := Hb.mk (Below.on (HB1.out i1) bF1 (HB1.out i1).size)
  have lg := block_lt_of_cell (g0 i1)
  simp at lg
  have lq := block_lt_of_cell (p00 i1)
  simp at lq
  have n4_ : w.heap.size + 4 ≠ (F1 i1).heap.size := by omega
  have n6_ : w.heap.size + 6 ≠ (F1 i1).heap.size := by omega
  go_wp2
  generalize hW : World.setCell (World.setCell (World.setCell (wq) ⟨(F1 i1).heap.size, 0, none⟩ (.float .f32 M1)) ⟨(F1 i1).heap.size, 1, none⟩ (.float .f32 M2)) ⟨(F1 i1).heap.size, 2, none⟩ (.float .f32 M3) = U
  have up00 : U.cell? ⟨w.heap.size + 6, 0, none⟩ = some (.float .f32 x0) := by rw [← hW]; first | simp [go_sem, kp00] | simp [go_sem, kp00, n6_]
  have up01 : U.cell? ⟨w.heap.size + 6, 1, none⟩ = some (.float .f32 y0) := by rw [← hW]; first | simp [go_sem, kp01] | simp [go_sem, kp01, n6_]
  have up02 : U.cell? ⟨w.heap.size + 6, 2, none⟩ = some (.float .f32 z0) := by rw [← hW]; first | simp [go_sem, kp02] | simp [go_sem, kp02, n6_]
  have up10 : U.cell? ⟨w.heap.size + 6, 3, none⟩ = some (.float .f32 x1) := by rw [← hW]; first | simp [go_sem, kp10] | simp [go_sem, kp10, n6_]
  have up11 : U.cell? ⟨w.heap.size + 6, 4, none⟩ = some (.float .f32 y1) := by rw [← hW]; first | simp [go_sem, kp11] | simp [go_sem, kp11, n6_]
  have up12 : U.cell? ⟨w.heap.size + 6, 5, none⟩ = some (.float .f32 z1) := by rw [← hW]; first | simp [go_sem, kp12] | simp [go_sem, kp12, n6_]
  have up20 : U.cell? ⟨w.heap.size + 6, 6, none⟩ = some (.float .f32 x2) := by rw [← hW]; first | simp [go_sem, kp20] | simp [go_sem, kp20, n6_]
  have up21 : U.cell? ⟨w.heap.size + 6, 7, none⟩ = some (.float .f32 y2) := by rw [← hW]; first | simp [go_sem, kp21] | simp [go_sem, kp21, n6_]
  have up22 : U.cell? ⟨w.heap.size + 6, 8, none⟩ = some (.float .f32 z2) := by rw [← hW]; first | simp [go_sem, kp22] | simp [go_sem, kp22, n6_]
  have up30 : U.cell? ⟨w.heap.size + 6, 9, none⟩ = some (.float .f32 x3) := by rw [← hW]; first | simp [go_sem, kp30] | simp [go_sem, kp30, n6_]
  have up31 : U.cell? ⟨w.heap.size + 6, 10, none⟩ = some (.float .f32 y3) := by rw [← hW]; first | simp [go_sem, kp31] | simp [go_sem, kp31, n6_]
  have up32 : U.cell? ⟨w.heap.size + 6, 11, none⟩ = some (.float .f32 z3) := by rw [← hW]; first | simp [go_sem, kp32] | simp [go_sem, kp32, n6_]
  have ug0 : U.cell? ⟨w.heap.size + 4, 0, none⟩ = some (.float .f32 0) := by rw [← hW]; first | simp [go_sem, kg0] | simp [go_sem, kg0, n4_]
  have uz0 : U.frozen? ⟨w.heap.size + 4, 0, none⟩ = false := by rw [← hW]; simp [go_sem, kz0]
  have ug1 : U.cell? ⟨w.heap.size + 4, 1, none⟩ = some (.float .f32 0) := by rw [← hW]; first | simp [go_sem, kg1] | simp [go_sem, kg1, n4_]
  have uz1 : U.frozen? ⟨w.heap.size + 4, 1, none⟩ = false := by rw [← hW]; simp [go_sem, kz1]
  have um0 : U.cell? ⟨(F1 i1).heap.size, 0, none⟩ = some (.float .f32 M1) := by rw [← hW]; simp [go_sem, d0]
  have uy0 : U.frozen? ⟨(F1 i1).heap.size, 0, none⟩ = false := by rw [← hW]; simp [go_sem, z0z]
  have um1 : U.cell? ⟨(F1 i1).heap.size, 1, none⟩ = some (.float .f32 M2) := by rw [← hW]; simp [go_sem, d1]
  have uy1 : U.frozen? ⟨(F1 i1).heap.size, 1, none⟩ = false := by rw [← hW]; simp [go_sem, z1z]
  have um2 : U.cell? ⟨(F1 i1).heap.size, 2, none⟩ = some (.float .f32 M3) := by rw [← hW]; simp [go_sem, d2]
  have uy2 : U.frozen? ⟨(F1 i1).heap.size, 2, none⟩ = false := by rw [← hW]; simp [go_sem, z2z]
  have lU : (F1 i1).heap.size < U.heap.size := by rw [← hW]; simp; exact lt1
  have hq : w.heap.size ≤ (F1 i1).heap.size := by omega
  have BU := Hb.mk (show Below w.heap.size w U by
    rw [← hW]
    refine Below.setCell ?_ (by show w.heap.size ≤ (F1 i1).heap.size; exact hq) _
    refine Below.setCell ?_ (by show w.heap.size ≤ (F1 i1).heap.size; exact hq) _
    refine Below.setCell ?_ (by show w.heap.size ≤ (F1 i1).heap.size; exact hq) _
    exact (by repeat (first | exact Below.refl _ _ | refine Below.on ?_ EF1.out (by first | omega | (simp <;> omega)) | exact B1.out | refine Below.drews ?_ | refine Below.drew ?_ | refine Below.alloc ?_ (by first | omega | (simp <;> omega)) _ | refine Below.setCell ?_ (by first | omega | (simp <;> omega)) _)))
  generalize (F1 i1).heap.size = N at *
  clear hW HB1 EF1 bF1 hb1 lt1 hs1 p00 p01 p02 p10 p11 p12 p20 p21 p22 p30 p31 p32 kp00 kp01 kp02 kp10 kp11 kp12 kp20 kp21 kp22 kp30 kp31 kp32 g0 g1 gz0 gz1 kg0 kg1 kz0 kz1 d0 z0z d1 z1z d2 z2z
  refine region_all (by kernel_rfl) (by kernel_rfl) (fun I2 F2 hne2 HB2 hcl => ?_)
  have vp00 := keepF HB2 (p := ⟨w.heap.size + 6, 0, none⟩) (v := .float .f32 x0) up00
  have vp01 := keepF HB2 (p := ⟨w.heap.size + 6, 1, none⟩) (v := .float .f32 y0) up01
  have vp02 := keepF HB2 (p := ⟨w.heap.size + 6, 2, none⟩) (v := .float .f32 z0) up02
  have vp10 := keepF HB2 (p := ⟨w.heap.size + 6, 3, none⟩) (v := .float .f32 x1) up10
  have vp11 := keepF HB2 (p := ⟨w.heap.size + 6, 4, none⟩) (v := .float .f32 y1) up11
  have vp12 := keepF HB2 (p := ⟨w.heap.size + 6, 5, none⟩) (v := .float .f32 z1) up12
  have vm0 := keepF HB2 (p := ⟨N, 0, none⟩) (v := .float .f32 M1) um0
  have vy0 := keepZ HB2 (p := ⟨N, 0, none⟩) lU uy0
  have vm1 := keepF HB2 (p := ⟨N, 1, none⟩) (v := .float .f32 M2) um1
  have vy1 := keepZ HB2 (p := ⟨N, 1, none⟩) lU uy1
  have vm2 := keepF HB2 (p := ⟨N, 2, none⟩) (v := .float .f32 M3) um2
  have vy2 := keepZ HB2 (p := ⟨N, 2, none⟩) lU uy2
  have lG : w.heap.size + 4 < U.heap.size := block_lt_of_cell ug0
  have vg0 := keepF HB2 (p := ⟨w.heap.size + 4, 0, none⟩) (v := .float .f32 0) ug0
  have vz0 := keepZ HB2 (p := ⟨w.heap.size + 4, 0, none⟩) lG uz0
  have vg1 := keepF HB2 (p := ⟨w.heap.size + 4, 1, none⟩) (v := .float .f32 0) ug1
  have vz1 := keepZ HB2 (p := ⟨w.heap.size + 4, 1, none⟩) lG uz1
  have mC := MC.out
  repeat (quiet_step (first | (go_at_call 54; exact callS hcl (KA.out _)) | (go_at_call 53; exact callS hcl (KD.out _))))
  refine wpQuiet_nil ?_
  intro _ hw'
  obtain ⟨i2, rfl⟩ := hw'
  clear hcl mC
  have xm0 := vm0 i2
  have xy0 := vy0 i2
  have xm1 := vm1 i2
  have xy1 := vy1 i2
  have xm2 := vm2 i2
  have xy2 := vy2 i2
  have xg0 := vg0 i2
  have xz0 := vz0 i2
  have xg1 := vg1 i2
  have xz1 := vz1 i2
  have BQ := Hb.mk (Below.on BU.out (HB2.out i2) BU.out.size)
  have ln : N < (F2 i2).heap.size := block_lt_of_cell xm0
  have lg2 : w.heap.size + 4 < (F2 i2).heap.size := block_lt_of_cell xg0
  have n4' : w.heap.size + 4 ≠ N := n4_
  have n4'' : N ≠ w.heap.size + 4 := Ne.symm n4_
  clear HB2 BU up00 up01 up02 up10 up11 up12 up20 up21 up22 up30 up31 up32 ug0 ug1 uz0 uz1 um0 um1 um2 uy0 uy1 uy2 vp00 vp01 vp02 vp10 vp11 vp12 vm0 vm1 vm2 vy0 vy1 vy2 vg0 vg1 vz0 vz1
  go_wp2_with (first | (go_at_call 56; refine (KP.out _).mono ?_; rintro ex w5 ⟨rfl, b5⟩; have s0 := Hb.mk (At.keep b5 (p := ⟨w.heap.size + 4, 0, none⟩) (v := .float .f32 0) (by simp [go_sem, xg0, xg1, xz0, xz1, n4', n4'']) (by simp [go_sem, xg0, xg1, xz0, xz1, n4', n4''])); have s1 := Hb.mk (At.keep b5 (p := ⟨w.heap.size + 4, 1, none⟩) (v := .float .f32 0) (by simp [go_sem, xg0, xg1, xz0, xz1, n4', n4'']) (by simp [go_sem, xg0, xg1, xz0, xz1, n4', n4''])); obtain ⟨s0c, s0z, s0l⟩ := s0.out; obtain ⟨s1c, s1z, s1l⟩ := s1.out; have E5 := Hb.mk b5; clear b5))
  exact bodyPost_ret (v := plT X Y ok) (by simp [results, Try.results17, go_sem, s0c, s1c]) rfl ⟨rfl, (by repeat (first | exact Below.refl _ _ | refine Below.on ?_ E5.out (by first | omega | (simp <;> omega)) | exact BQ.out | refine Below.drews ?_ | refine Below.drew ?_ | refine Below.alloc ?_ (by first | omega | (simp <;> omega)) _ | refine Below.setCell ?_ (by first | omega | (simp <;> omega)) _))⟩
set_option maxHeartbeats 8000000 in
theorem iMeet_true {n0 e0 n1 e1 n2 e2 n3 e3 : Nat} (f0 : Fl .f32 n0 n0) (h0 : Fl .f32 e0 e0) (f1 : Fl .f32 n1 n1) (h1 : Fl .f32 e1 e1) (f2 : Fl .f32 n2 n2) (h2 : Fl .f32 e2 e2) (f3 : Fl .f32 n3 n3) (h3 : Fl .f32 e3 e3) {X Y : Nat} {ok : Bool} (v0 : validC n0 e0 = true) (v1 : validC n1 e1 = true) (v2 : validC n2 e2 = true) (v3 : validC n3 e3 = true) (hb : fcmp .lss .f32 (dotC (crX (crX (wxC n0 e0) (wyC n0 e0) (sineC n0) (wxC n1 e1) (wyC n1 e1) (sineC n1)) (crY (wxC n0 e0) (wyC n0 e0) (sineC n0) (wxC n1 e1) (wyC n1 e1) (sineC n1)) (crZ (wxC n0 e0) (wyC n0 e0) (sineC n0) (wxC n1 e1) (wyC n1 e1) (sineC n1)) (crX (wxC n2 e2) (wyC n2 e2) (sineC n2) (wxC n3 e3) (wyC n3 e3) (sineC n3)) (crY (wxC n2 e2) (wyC n2 e2) (sineC n2) (wxC n3 e3) (wyC n3 e3) (sineC n3)) (crZ (wxC n2 e2) (wyC n2 e2) (sineC n2) (wxC n3 e3) (wyC n3 e3) (sineC n3))) (crY (crX (wxC n0 e0) (wyC n0 e0) (sineC n0) (wxC n1 e1) (wyC n1 e1) (sineC n1)) (crY (wxC n0 e0) (wyC n0 e0) (sineC n0) (wxC n1 e1) (wyC n1 e1) (sineC n1)) (crZ (wxC n0 e0) (wyC n0 e0) (sineC n0) (wxC n1 e1) (wyC n1 e1) (sineC n1)) (crX (wxC n2 e2) (wyC n2 e2) (sineC n2) (wxC n3 e3) (wyC n3 e3) (sineC n3)) (crY (wxC n2 e2) (wyC n2 e2) (sineC n2) (wxC n3 e3) (wyC n3 e3) (sineC n3)) (crZ (wxC n2 e2) (wyC n2 e2) (sineC n2) (wxC n3 e3) (wyC n3 e3) (sineC n3))) (crZ (crX (wxC n0 e0) (wyC n0 e0) (sineC n0) (wxC n1 e1) (wyC n1 e1) (sineC n1)) (crY (wxC n0 e0) (wyC n0 e0) (sineC n0) (wxC n1 e1) (wyC n1 e1) (sineC n1)) (crZ (wxC n0 e0) (wyC n0 e0) (sineC n0) (wxC n1 e1) (wyC n1 e1) (sineC n1)) (crX (wxC n2 e2) (wyC n2 e2) (sineC n2) (wxC n3 e3) (wyC n3 e3) (sineC n3)) (crY (wxC n2 e2) (wyC n2 e2) (sineC n2) (wxC n3 e3) (wyC n3 e3) (sineC n3)) (crZ (wxC n2 e2) (wyC n2 e2) (sineC n2) (wxC n3 e3) (wyC n3 e3) (sineC n3))) (fop .add .f32 (wxC n0 e0) (wxC n1 e1)) (fop .add .f32 (wyC n0 e0) (wyC n1 e1)) (fop .add .f32 (sineC n0) (sineC n1))) 0 = true) (KP : Hb (∀ w, Calls Try.prog 56 #[wy (ngf (crX (crX (wxC n0 e0) (wyC n0 e0) (sineC n0) (wxC n1 e1) (wyC n1 e1) (sineC n1)) (crY (wxC n0 e0) (wyC n0 e0) (sineC n0) (wxC n1 e1) (wyC n1 e1) (sineC n1)) (crZ (wxC n0 e0) (wyC n0 e0) (sineC n0) (wxC n1 e1) (wyC n1 e1) (sineC n1)) (crX (wxC n2 e2) (wyC n2 e2) (sineC n2) (wxC n3 e3) (wyC n3 e3) (sineC n3)) (crY (wxC n2 e2) (wyC n2 e2) (sineC n2) (wxC n3 e3) (wyC n3 e3) (sineC n3)) (crZ (wxC n2 e2) (wyC n2 e2) (sineC n2) (wxC n3 e3) (wyC n3 e3) (sineC n3)))) (ngf (crY (crX (wxC n0 e0) (wyC n0 e0) (sineC n0) (wxC n1 e1) (wyC n1 e1) (sineC n1)) (crY (wxC n0 e0) (wyC n0 e0) (sineC n0) (wxC n1 e1) (wyC n1 e1) (sineC n1)) (crZ (wxC n0 e0) (wyC n0 e0) (sineC n0) (wxC n1 e1) (wyC n1 e1) (sineC n1)) (crX (wxC n2 e2) (wyC n2 e2) (sineC n2) (wxC n3 e3) (wyC n3 e3) (sineC n3)) (crY (wxC n2 e2) (wyC n2 e2) (sineC n2) (wxC n3 e3) (wyC n3 e3) (sineC n3)) (crZ (wxC n2 e2) (wyC n2 e2) (sineC n2) (wxC n3 e3) (wyC n3 e3) (sineC n3)))) (ngf (crZ (crX (wxC n0 e0) (wyC n0 e0) (sineC n0) (wxC n1 e1) (wyC n1 e1) (sineC n1)) (crY (wxC n0 e0) (wyC n0 e0) (sineC n0) (wxC n1 e1) (wyC n1 e1) (sineC n1)) (crZ (wxC n0 e0) (wyC n0 e0) (sineC n0) (wxC n1 e1) (wyC n1 e1) (sineC n1)) (crX (wxC n2 e2) (wyC n2 e2) (sineC n2) (wxC n3 e3) (wyC n3 e3) (sineC n3)) (crY (wxC n2 e2) (wyC n2 e2) (sineC n2) (wxC n3 e3) (wyC n3 e3) (sineC n3)) (crZ (wxC n2 e2) (wyC n2 e2) (sineC n2) (wxC n3 e3) (wyC n3 e3) (sineC n3))))] w (RS (plT X Y ok) w))) (w : World) : Calls Try.prog 17 #[pl n0 e0, pl n1 e1, pl n2 e2, pl n3 e3] w (RS (plT X Y ok) w) := by
  obtain ⟨tn0, te0⟩ := turns_of v0
  have wb0 := Wb.way tn0 te0
  obtain ⟨tn1, te1⟩ := turns_of v1
  have wb1 := Wb.way tn1 te1
  obtain ⟨tn2, te2⟩ := turns_of v2
  have wb2 := Wb.way tn2 te2
  obtain ⟨tn3, te3⟩ := turns_of v3
  have wb3 := Wb.way tn3 te3
  have hm := Meet.of wb0 wb1 wb2 wb3
  have hd := meet_dot hm.m hm.s
  have KAB := Hb.mk (fun w => exactW (wayCross_any wb0.fx wb0.fy wb0.fz wb1.fx wb1.fy wb1.fz w) hm.ab.ax.fin hm.ab.ay.fin hm.ab.az.fin)
  have KCD := Hb.mk (fun w => exactW (wayCross_any wb2.fx wb2.fy wb2.fz wb3.fx wb3.fy wb3.fz w) hm.cd.ax.fin hm.cd.ay.fin hm.cd.az.fin)
  have KM := Hb.mk (fun w => exactW (wayCross_any hm.ab.fx hm.ab.fy hm.ab.fz hm.cd.fx hm.cd.fy hm.cd.fz w) hm.m.ax.fin hm.m.ay.fin hm.m.az.fin)
  have KA := Hb.mk (fun w => exactW (wayPlus_any wb0.fx wb0.fy wb0.fz wb1.fx wb1.fy wb1.fz w) hm.s.ax.fin hm.s.ay.fin hm.s.az.fin)
  have KD := Hb.mk (fun w => exactB (wayDot_any hm.m.fx hm.m.fy hm.m.fz hm.s.fx hm.s.fy hm.s.fz w) hd.fin)
  have MC : Hb ((FloatKind.f32.format.order (dotC (crX (crX (wxC n0 e0) (wyC n0 e0) (sineC n0) (wxC n1 e1) (wyC n1 e1) (sineC n1)) (crY (wxC n0 e0) (wyC n0 e0) (sineC n0) (wxC n1 e1) (wyC n1 e1) (sineC n1)) (crZ (wxC n0 e0) (wyC n0 e0) (sineC n0) (wxC n1 e1) (wyC n1 e1) (sineC n1)) (crX (wxC n2 e2) (wyC n2 e2) (sineC n2) (wxC n3 e3) (wyC n3 e3) (sineC n3)) (crY (wxC n2 e2) (wyC n2 e2) (sineC n2) (wxC n3 e3) (wyC n3 e3) (sineC n3)) (crZ (wxC n2 e2) (wyC n2 e2) (sineC n2) (wxC n3 e3) (wyC n3 e3) (sineC n3))) (crY (crX (wxC n0 e0) (wyC n0 e0) (sineC n0) (wxC n1 e1) (wyC n1 e1) (sineC n1)) (crY (wxC n0 e0) (wyC n0 e0) (sineC n0) (wxC n1 e1) (wyC n1 e1) (sineC n1)) (crZ (wxC n0 e0) (wyC n0 e0) (sineC n0) (wxC n1 e1) (wyC n1 e1) (sineC n1)) (crX (wxC n2 e2) (wyC n2 e2) (sineC n2) (wxC n3 e3) (wyC n3 e3) (sineC n3)) (crY (wxC n2 e2) (wyC n2 e2) (sineC n2) (wxC n3 e3) (wyC n3 e3) (sineC n3)) (crZ (wxC n2 e2) (wyC n2 e2) (sineC n2) (wxC n3 e3) (wyC n3 e3) (sineC n3))) (crZ (crX (wxC n0 e0) (wyC n0 e0) (sineC n0) (wxC n1 e1) (wyC n1 e1) (sineC n1)) (crY (wxC n0 e0) (wyC n0 e0) (sineC n0) (wxC n1 e1) (wyC n1 e1) (sineC n1)) (crZ (wxC n0 e0) (wyC n0 e0) (sineC n0) (wxC n1 e1) (wyC n1 e1) (sineC n1)) (crX (wxC n2 e2) (wyC n2 e2) (sineC n2) (wxC n3 e3) (wyC n3 e3) (sineC n3)) (crY (wxC n2 e2) (wyC n2 e2) (sineC n2) (wxC n3 e3) (wyC n3 e3) (sineC n3)) (crZ (wxC n2 e2) (wyC n2 e2) (sineC n2) (wxC n3 e3) (wyC n3 e3) (sineC n3))) (fop .add .f32 (wxC n0 e0) (wxC n1 e1)) (fop .add .f32 (wyC n0 e0) (wyC n1 e1)) (fop .add .f32 (sineC n0) (sineC n1))) 0 == some Ordering.lt) = true) := ⟨hb⟩
  have KS := Hb.mk (fun (g : Nat) => ws4 (g := g) f0 h0 f1 h1 f2 h2 f3 h3 v0 v1 v2 v3)
  clear hm hd hb v0 tn0 te0 wb0 v1 tn1 te1 wb1 v2 tn2 te2 wb2 v3 tn3 te3 wb3
  generalize dotC (crX (crX (wxC n0 e0) (wyC n0 e0) (sineC n0) (wxC n1 e1) (wyC n1 e1) (sineC n1)) (crY (wxC n0 e0) (wyC n0 e0) (sineC n0) (wxC n1 e1) (wyC n1 e1) (sineC n1)) (crZ (wxC n0 e0) (wyC n0 e0) (sineC n0) (wxC n1 e1) (wyC n1 e1) (sineC n1)) (crX (wxC n2 e2) (wyC n2 e2) (sineC n2) (wxC n3 e3) (wyC n3 e3) (sineC n3)) (crY (wxC n2 e2) (wyC n2 e2) (sineC n2) (wxC n3 e3) (wyC n3 e3) (sineC n3)) (crZ (wxC n2 e2) (wyC n2 e2) (sineC n2) (wxC n3 e3) (wyC n3 e3) (sineC n3))) (crY (crX (wxC n0 e0) (wyC n0 e0) (sineC n0) (wxC n1 e1) (wyC n1 e1) (sineC n1)) (crY (wxC n0 e0) (wyC n0 e0) (sineC n0) (wxC n1 e1) (wyC n1 e1) (sineC n1)) (crZ (wxC n0 e0) (wyC n0 e0) (sineC n0) (wxC n1 e1) (wyC n1 e1) (sineC n1)) (crX (wxC n2 e2) (wyC n2 e2) (sineC n2) (wxC n3 e3) (wyC n3 e3) (sineC n3)) (crY (wxC n2 e2) (wyC n2 e2) (sineC n2) (wxC n3 e3) (wyC n3 e3) (sineC n3)) (crZ (wxC n2 e2) (wyC n2 e2) (sineC n2) (wxC n3 e3) (wyC n3 e3) (sineC n3))) (crZ (crX (wxC n0 e0) (wyC n0 e0) (sineC n0) (wxC n1 e1) (wyC n1 e1) (sineC n1)) (crY (wxC n0 e0) (wyC n0 e0) (sineC n0) (wxC n1 e1) (wyC n1 e1) (sineC n1)) (crZ (wxC n0 e0) (wyC n0 e0) (sineC n0) (wxC n1 e1) (wyC n1 e1) (sineC n1)) (crX (wxC n2 e2) (wyC n2 e2) (sineC n2) (wxC n3 e3) (wyC n3 e3) (sineC n3)) (crY (wxC n2 e2) (wyC n2 e2) (sineC n2) (wxC n3 e3) (wyC n3 e3) (sineC n3)) (crZ (wxC n2 e2) (wyC n2 e2) (sineC n2) (wxC n3 e3) (wyC n3 e3) (sineC n3))) (fop .add .f32 (wxC n0 e0) (wxC n1 e1)) (fop .add .f32 (wyC n0 e0) (wyC n1 e1)) (fop .add .f32 (sineC n0) (sineC n1)) = D at *
  generalize crX (crX (wxC n0 e0) (wyC n0 e0) (sineC n0) (wxC n1 e1) (wyC n1 e1) (sineC n1)) (crY (wxC n0 e0) (wyC n0 e0) (sineC n0) (wxC n1 e1) (wyC n1 e1) (sineC n1)) (crZ (wxC n0 e0) (wyC n0 e0) (sineC n0) (wxC n1 e1) (wyC n1 e1) (sineC n1)) (crX (wxC n2 e2) (wyC n2 e2) (sineC n2) (wxC n3 e3) (wyC n3 e3) (sineC n3)) (crY (wxC n2 e2) (wyC n2 e2) (sineC n2) (wxC n3 e3) (wyC n3 e3) (sineC n3)) (crZ (wxC n2 e2) (wyC n2 e2) (sineC n2) (wxC n3 e3) (wyC n3 e3) (sineC n3)) = M1 at *
  generalize crY (crX (wxC n0 e0) (wyC n0 e0) (sineC n0) (wxC n1 e1) (wyC n1 e1) (sineC n1)) (crY (wxC n0 e0) (wyC n0 e0) (sineC n0) (wxC n1 e1) (wyC n1 e1) (sineC n1)) (crZ (wxC n0 e0) (wyC n0 e0) (sineC n0) (wxC n1 e1) (wyC n1 e1) (sineC n1)) (crX (wxC n2 e2) (wyC n2 e2) (sineC n2) (wxC n3 e3) (wyC n3 e3) (sineC n3)) (crY (wxC n2 e2) (wyC n2 e2) (sineC n2) (wxC n3 e3) (wyC n3 e3) (sineC n3)) (crZ (wxC n2 e2) (wyC n2 e2) (sineC n2) (wxC n3 e3) (wyC n3 e3) (sineC n3)) = M2 at *
  generalize crZ (crX (wxC n0 e0) (wyC n0 e0) (sineC n0) (wxC n1 e1) (wyC n1 e1) (sineC n1)) (crY (wxC n0 e0) (wyC n0 e0) (sineC n0) (wxC n1 e1) (wyC n1 e1) (sineC n1)) (crZ (wxC n0 e0) (wyC n0 e0) (sineC n0) (wxC n1 e1) (wyC n1 e1) (sineC n1)) (crX (wxC n2 e2) (wyC n2 e2) (sineC n2) (wxC n3 e3) (wyC n3 e3) (sineC n3)) (crY (wxC n2 e2) (wyC n2 e2) (sineC n2) (wxC n3 e3) (wyC n3 e3) (sineC n3)) (crZ (wxC n2 e2) (wyC n2 e2) (sineC n2) (wxC n3 e3) (wyC n3 e3) (sineC n3)) = M3 at *
  generalize fop .add .f32 (wxC n0 e0) (wxC n1 e1) = S1 at *
  generalize fop .add .f32 (wyC n0 e0) (wyC n1 e1) = S2 at *
  generalize fop .add .f32 (sineC n0) (sineC n1) = S3 at *
  generalize crX (wxC n0 e0) (wyC n0 e0) (sineC n0) (wxC n1 e1) (wyC n1 e1) (sineC n1) = P1 at *
  generalize crY (wxC n0 e0) (wyC n0 e0) (sineC n0) (wxC n1 e1) (wyC n1 e1) (sineC n1) = P2 at *
  generalize crZ (wxC n0 e0) (wyC n0 e0) (sineC n0) (wxC n1 e1) (wyC n1 e1) (sineC n1) = P3 at *
  generalize crX (wxC n2 e2) (wyC n2 e2) (sineC n2) (wxC n3 e3) (wyC n3 e3) (sineC n3) = Q1 at *
  generalize crY (wxC n2 e2) (wyC n2 e2) (sineC n2) (wxC n3 e3) (wyC n3 e3) (sineC n3) = Q2 at *
  generalize crZ (wxC n2 e2) (wyC n2 e2) (sineC n2) (wxC n3 e3) (wyC n3 e3) (sineC n3) = Q3 at *
  generalize wxC n0 e0 = x0 at *
  generalize wyC n0 e0 = y0 at *
  generalize sineC n0 = z0 at *
  generalize wxC n1 e1 = x1 at *
  generalize wyC n1 e1 = y1 at *
  generalize sineC n1 = z1 at *
  generalize wxC n2 e2 = x2 at *
  generalize wyC n2 e2 = y2 at *
  generalize sineC n2 = z2 at *
  generalize wxC n3 e3 = x3 at *
  generalize wyC n3 e3 = y3 at *
  generalize sineC n3 = z3 at *
  have B0 := Hb.mk (Below.refl w.heap.size w)
  go_enter Try.func17, Try.ntmps17
  go_wp2_with (first | (go_at_call 51; refine (KS.out _ _ (by simp [go_sem]) (by simp [go_sem]) (by simp [go_sem]) (by simp [go_sem]) (by simp [go_sem]) (by simp [go_sem]) (by simp [go_sem]) (by simp [go_sem])).mono ?_; rintro ex w1 ⟨rfl, b1, l1, k1⟩; have B1 := Hb.mk (Below.on (B := w.heap.size) (a := w) (by repeat (first | exact B0.out | refine Below.drews ?_ | refine Below.drew ?_ | refine Below.alloc ?_ (by have hq_ := B0.out.size; first | omega | (simp <;> omega)) _ | refine Below.setCell ?_ (by have hq_ := B0.out.size; first | omega | (simp <;> omega)) _)) b1 (by have hq_ := B0.out.size; first | omega | (simp <;> omega))); have r0 := Hb.mk (At.keep b1 (p := ⟨w.heap.size + 4, 0, none⟩) (v := .float .f32 0) (by simp [go_sem]) (by simp [go_sem])); obtain ⟨r0c, r0z, r0l⟩ := r0.out; have r1 := Hb.mk (At.keep b1 (p := ⟨w.heap.size + 4, 1, none⟩) (v := .float .f32 0) (by simp [go_sem]) (by simp [go_sem])); obtain ⟨r1c, r1z, r1l⟩ := r1.out; have q0 := k1 0 (by decide); have q1 := k1 1 (by decide); have q2 := k1 2 (by decide); have q3 := k1 3 (by decide); have q4 := k1 4 (by decide); have q5 := k1 5 (by decide); have q6 := k1 6 (by decide); have q7 := k1 7 (by decide); have q8 := k1 8 (by decide); have q9 := k1 9 (by decide); have q10 := k1 10 (by decide); have q11 := k1 11 (by decide); simp at q0 q1 q2 q3 q4 q5 q6 q7 q8 q9 q10 q11 l1; clear k1 b1))
  refine region_fresh (o := ?o1) 15 (by kernel_rfl) (by kernel_rfl) (by kernel_rfl) rfl rfl rfl (fun a w => ?hA1) (fun I1 F1 hne1 HB1 => ?h1)
  case hA1 =>
    go_simp
    try rfl
  have p00 := keepF HB1 (p := ⟨w.heap.size + 6, 0, none⟩) (v := .float .f32 x0) q0
  have p01 := keepF HB1 (p := ⟨w.heap.size + 6, 1, none⟩) (v := .float .f32 y0) q1
  have p02 := keepF HB1 (p := ⟨w.heap.size + 6, 2, none⟩) (v := .float .f32 z0) q2
  have p10 := keepF HB1 (p := ⟨w.heap.size + 6, 3, none⟩) (v := .float .f32 x1) q3
  have p11 := keepF HB1 (p := ⟨w.heap.size + 6, 4, none⟩) (v := .float .f32 y1) q4
  have p12 := keepF HB1 (p := ⟨w.heap.size + 6, 5, none⟩) (v := .float .f32 z1) q5
  have p20 := keepF HB1 (p := ⟨w.heap.size + 6, 6, none⟩) (v := .float .f32 x2) q6
  have p21 := keepF HB1 (p := ⟨w.heap.size + 6, 7, none⟩) (v := .float .f32 y2) q7
  have p22 := keepF HB1 (p := ⟨w.heap.size + 6, 8, none⟩) (v := .float .f32 z2) q8
  have p30 := keepF HB1 (p := ⟨w.heap.size + 6, 9, none⟩) (v := .float .f32 x3) q9
  have p31 := keepF HB1 (p := ⟨w.heap.size + 6, 10, none⟩) (v := .float .f32 y3) q10
  have p32 := keepF HB1 (p := ⟨w.heap.size + 6, 11, none⟩) (v := .float .f32 z3) q11
  have g0 := keepF HB1 (p := ⟨w.heap.size + 4, 0, none⟩) (v := .float .f32 0) (by first | exact r0c | simp [go_sem, r0c])
  have gz0 := keepZ HB1 (p := ⟨w.heap.size + 4, 0, none⟩) (by first | exact r0l | simp [go_sem, r0l]) (by first | exact r0z | simp [go_sem, r0z])
  have g1 := keepF HB1 (p := ⟨w.heap.size + 4, 1, none⟩) (v := .float .f32 0) (by first | exact r1c | simp [go_sem, r1c])
  have gz1 := keepZ HB1 (p := ⟨w.heap.size + 4, 1, none⟩) (by first | exact r1l | simp [go_sem, r1l]) (by first | exact r1z | simp [go_sem, r1z])
  simp only [List.take_succ_cons, List.take_zero, List.drop_succ_cons, List.drop_zero]
  repeat (refine lex_step (fun K hK => ?_); go_simp; first | (refine hK _ ?_; clear hK K) | (apply Exists.intro; refine ⟨fun _ => ?_, hK _ ?_⟩; (first | (go_at_call_of 52 (Value.agg #[Value.float .f32 x0, Value.float .f32 y0, Value.float .f32 z0]); exact callR (KAB.out _)) | (go_at_call_of 52 (Value.agg #[Value.float .f32 x2, Value.float .f32 y2, Value.float .f32 z2]); exact callR (KCD.out _)) | (go_at_call_of 52 (wy P1 P2 P3); exact callR (KM.out _))); clear hK K))
  refine lex_nil ?_
  intro i1 wq hb1
  have bF1 : Below (F1 i1).heap.size (F1 i1) wq := Below.on ((Below.refl _ _).alloc (Nat.le_refl _) _) hb1 (by simp)
  have d0 := Below.keep hb1 (p := ⟨(F1 i1).heap.size, 0, none⟩) (v := .float .f32 0) (by simp)
  have z0z : wq.frozen? ⟨(F1 i1).heap.size, 0, none⟩ = false := by rw [hb1.frozen (by simp)]; simp
  have d1 := Below.keep hb1 (p := ⟨(F1 i1).heap.size, 1, none⟩) (v := .float .f32 0) (by simp)
  have z1z : wq.frozen? ⟨(F1 i1).heap.size, 1, none⟩ = false := by rw [hb1.frozen (by simp)]; simp
  have d2 := Below.keep hb1 (p := ⟨(F1 i1).heap.size, 2, none⟩) (v := .float .f32 0) (by simp)
  have z2z : wq.frozen? ⟨(F1 i1).heap.size, 2, none⟩ = false := by rw [hb1.frozen (by simp)]; simp
  have kp00 := Below.keep bF1 (p00 i1)
  have kp01 := Below.keep bF1 (p01 i1)
  have kp02 := Below.keep bF1 (p02 i1)
  have kp10 := Below.keep bF1 (p10 i1)
  have kp11 := Below.keep bF1 (p11 i1)
  have kp12 := Below.keep bF1 (p12 i1)
  have kp20 := Below.keep bF1 (p20 i1)
  have kp21 := Below.keep bF1 (p21 i1)
  have kp22 := Below.keep bF1 (p22 i1)
  have kp30 := Below.keep bF1 (p30 i1)
  have kp31 := Below.keep bF1 (p31 i1)
  have kp32 := Below.keep bF1 (p32 i1)
  have kg0 := Below.keep bF1 (g0 i1)
  have kz0 : wq.frozen? ⟨w.heap.size + 4, 0, none⟩ = false := by rw [bF1.frozen (block_lt_of_cell (g0 i1))]; exact gz0 i1
  have kg1 := Below.keep bF1 (g1 i1)
  have kz1 : wq.frozen? ⟨w.heap.size + 4, 1, none⟩ = false := by rw [bF1.frozen (block_lt_of_cell (g1 i1))]; exact gz1 i1
  have lt1 : (F1 i1).heap.size < wq.heap.size := by have := hb1.size; simp at this; omega
  have hs1 := (HB1.out i1).size
  have EF1 := Hb.mk (Below.on (HB1.out i1) bF1 (HB1.out i1).size)
  have lg := block_lt_of_cell (g0 i1)
  simp at lg
  have lq := block_lt_of_cell (p00 i1)
  simp at lq
  have n4_ : w.heap.size + 4 ≠ (F1 i1).heap.size := by omega
  have n6_ : w.heap.size + 6 ≠ (F1 i1).heap.size := by omega
  go_wp2
  generalize hW : World.setCell (World.setCell (World.setCell (wq) ⟨(F1 i1).heap.size, 0, none⟩ (.float .f32 M1)) ⟨(F1 i1).heap.size, 1, none⟩ (.float .f32 M2)) ⟨(F1 i1).heap.size, 2, none⟩ (.float .f32 M3) = U
  have up00 : U.cell? ⟨w.heap.size + 6, 0, none⟩ = some (.float .f32 x0) := by rw [← hW]; first | simp [go_sem, kp00] | simp [go_sem, kp00, n6_]
  have up01 : U.cell? ⟨w.heap.size + 6, 1, none⟩ = some (.float .f32 y0) := by rw [← hW]; first | simp [go_sem, kp01] | simp [go_sem, kp01, n6_]
  have up02 : U.cell? ⟨w.heap.size + 6, 2, none⟩ = some (.float .f32 z0) := by rw [← hW]; first | simp [go_sem, kp02] | simp [go_sem, kp02, n6_]
  have up10 : U.cell? ⟨w.heap.size + 6, 3, none⟩ = some (.float .f32 x1) := by rw [← hW]; first | simp [go_sem, kp10] | simp [go_sem, kp10, n6_]
  have up11 : U.cell? ⟨w.heap.size + 6, 4, none⟩ = some (.float .f32 y1) := by rw [← hW]; first | simp [go_sem, kp11] | simp [go_sem, kp11, n6_]
  have up12 : U.cell? ⟨w.heap.size + 6, 5, none⟩ = some (.float .f32 z1) := by rw [← hW]; first | simp [go_sem, kp12] | simp [go_sem, kp12, n6_]
  have up20 : U.cell? ⟨w.heap.size + 6, 6, none⟩ = some (.float .f32 x2) := by rw [← hW]; first | simp [go_sem, kp20] | simp [go_sem, kp20, n6_]
  have up21 : U.cell? ⟨w.heap.size + 6, 7, none⟩ = some (.float .f32 y2) := by rw [← hW]; first | simp [go_sem, kp21] | simp [go_sem, kp21, n6_]
  have up22 : U.cell? ⟨w.heap.size + 6, 8, none⟩ = some (.float .f32 z2) := by rw [← hW]; first | simp [go_sem, kp22] | simp [go_sem, kp22, n6_]
  have up30 : U.cell? ⟨w.heap.size + 6, 9, none⟩ = some (.float .f32 x3) := by rw [← hW]; first | simp [go_sem, kp30] | simp [go_sem, kp30, n6_]
  have up31 : U.cell? ⟨w.heap.size + 6, 10, none⟩ = some (.float .f32 y3) := by rw [← hW]; first | simp [go_sem, kp31] | simp [go_sem, kp31, n6_]
  have up32 : U.cell? ⟨w.heap.size + 6, 11, none⟩ = some (.float .f32 z3) := by rw [← hW]; first | simp [go_sem, kp32] | simp [go_sem, kp32, n6_]
  have ug0 : U.cell? ⟨w.heap.size + 4, 0, none⟩ = some (.float .f32 0) := by rw [← hW]; first | simp [go_sem, kg0] | simp [go_sem, kg0, n4_]
  have uz0 : U.frozen? ⟨w.heap.size + 4, 0, none⟩ = false := by rw [← hW]; simp [go_sem, kz0]
  have ug1 : U.cell? ⟨w.heap.size + 4, 1, none⟩ = some (.float .f32 0) := by rw [← hW]; first | simp [go_sem, kg1] | simp [go_sem, kg1, n4_]
  have uz1 : U.frozen? ⟨w.heap.size + 4, 1, none⟩ = false := by rw [← hW]; simp [go_sem, kz1]
  have um0 : U.cell? ⟨(F1 i1).heap.size, 0, none⟩ = some (.float .f32 M1) := by rw [← hW]; simp [go_sem, d0]
  have uy0 : U.frozen? ⟨(F1 i1).heap.size, 0, none⟩ = false := by rw [← hW]; simp [go_sem, z0z]
  have um1 : U.cell? ⟨(F1 i1).heap.size, 1, none⟩ = some (.float .f32 M2) := by rw [← hW]; simp [go_sem, d1]
  have uy1 : U.frozen? ⟨(F1 i1).heap.size, 1, none⟩ = false := by rw [← hW]; simp [go_sem, z1z]
  have um2 : U.cell? ⟨(F1 i1).heap.size, 2, none⟩ = some (.float .f32 M3) := by rw [← hW]; simp [go_sem, d2]
  have uy2 : U.frozen? ⟨(F1 i1).heap.size, 2, none⟩ = false := by rw [← hW]; simp [go_sem, z2z]
  have lU : (F1 i1).heap.size < U.heap.size := by rw [← hW]; simp; exact lt1
  have hq : w.heap.size ≤ (F1 i1).heap.size := by omega
  have BU := Hb.mk (show Below w.heap.size w U by
    rw [← hW]
    refine Below.setCell ?_ (by show w.heap.size ≤ (F1 i1).heap.size; exact hq) _
    refine Below.setCell ?_ (by show w.heap.size ≤ (F1 i1).heap.size; exact hq) _
    refine Below.setCell ?_ (by show w.heap.size ≤ (F1 i1).heap.size; exact hq) _
    exact (by repeat (first | exact Below.refl _ _ | refine Below.on ?_ EF1.out (by first | omega | (simp <;> omega)) | exact B1.out | refine Below.drews ?_ | refine Below.drew ?_ | refine Below.alloc ?_ (by first | omega | (simp <;> omega)) _ | refine Below.setCell ?_ (by first | omega | (simp <;> omega)) _)))
  generalize (F1 i1).heap.size = N at *
  clear hW HB1 EF1 bF1 hb1 lt1 hs1 p00 p01 p02 p10 p11 p12 p20 p21 p22 p30 p31 p32 kp00 kp01 kp02 kp10 kp11 kp12 kp20 kp21 kp22 kp30 kp31 kp32 g0 g1 gz0 gz1 kg0 kg1 kz0 kz1 d0 z0z d1 z1z d2 z2z
  refine region_all (by kernel_rfl) (by kernel_rfl) (fun I2 F2 hne2 HB2 hcl => ?_)
  have vp00 := keepF HB2 (p := ⟨w.heap.size + 6, 0, none⟩) (v := .float .f32 x0) up00
  have vp01 := keepF HB2 (p := ⟨w.heap.size + 6, 1, none⟩) (v := .float .f32 y0) up01
  have vp02 := keepF HB2 (p := ⟨w.heap.size + 6, 2, none⟩) (v := .float .f32 z0) up02
  have vp10 := keepF HB2 (p := ⟨w.heap.size + 6, 3, none⟩) (v := .float .f32 x1) up10
  have vp11 := keepF HB2 (p := ⟨w.heap.size + 6, 4, none⟩) (v := .float .f32 y1) up11
  have vp12 := keepF HB2 (p := ⟨w.heap.size + 6, 5, none⟩) (v := .float .f32 z1) up12
  have vm0 := keepF HB2 (p := ⟨N, 0, none⟩) (v := .float .f32 M1) um0
  have vy0 := keepZ HB2 (p := ⟨N, 0, none⟩) lU uy0
  have vm1 := keepF HB2 (p := ⟨N, 1, none⟩) (v := .float .f32 M2) um1
  have vy1 := keepZ HB2 (p := ⟨N, 1, none⟩) lU uy1
  have vm2 := keepF HB2 (p := ⟨N, 2, none⟩) (v := .float .f32 M3) um2
  have vy2 := keepZ HB2 (p := ⟨N, 2, none⟩) lU uy2
  have lG : w.heap.size + 4 < U.heap.size := block_lt_of_cell ug0
  have vg0 := keepF HB2 (p := ⟨w.heap.size + 4, 0, none⟩) (v := .float .f32 0) ug0
  have vz0 := keepZ HB2 (p := ⟨w.heap.size + 4, 0, none⟩) lG uz0
  have vg1 := keepF HB2 (p := ⟨w.heap.size + 4, 1, none⟩) (v := .float .f32 0) ug1
  have vz1 := keepZ HB2 (p := ⟨w.heap.size + 4, 1, none⟩) lG uz1
  have mC := MC.out
  repeat (quiet_step (first | (go_at_call 54; exact callS hcl (KA.out _)) | (go_at_call 53; exact callS hcl (KD.out _))))
  refine wpQuiet_nil ?_
  intro _ hw'
  obtain ⟨i2, rfl⟩ := hw'
  clear hcl mC
  have xm0 := vm0 i2
  have xy0 := vy0 i2
  have xm1 := vm1 i2
  have xy1 := vy1 i2
  have xm2 := vm2 i2
  have xy2 := vy2 i2
  have xg0 := vg0 i2
  have xz0 := vz0 i2
  have xg1 := vg1 i2
  have xz1 := vz1 i2
  have BQ := Hb.mk (Below.on BU.out (HB2.out i2) BU.out.size)
  have ln : N < (F2 i2).heap.size := block_lt_of_cell xm0
  have lg2 : w.heap.size + 4 < (F2 i2).heap.size := block_lt_of_cell xg0
  have n4' : w.heap.size + 4 ≠ N := n4_
  have n4'' : N ≠ w.heap.size + 4 := Ne.symm n4_
  clear HB2 BU up00 up01 up02 up10 up11 up12 up20 up21 up22 up30 up31 up32 ug0 ug1 uz0 uz1 um0 um1 um2 uy0 uy1 uy2 vp00 vp01 vp02 vp10 vp11 vp12 vm0 vm1 vm2 vy0 vy1 vy2 vg0 vg1 vz0 vz1
  go_wp2_with (first | (go_at_call 55; refine (wayOpp_any _).mono ?_; rintro ex w4 ⟨rfl, b4⟩; have B4 := Hb.mk (Below.on BQ.out b4 BQ.out.size); have tm0 := Hb.mk (At.keep b4 (p := ⟨N, 0, none⟩) (v := .float .f32 M1) xm0 xy0); have tm1 := Hb.mk (At.keep b4 (p := ⟨N, 1, none⟩) (v := .float .f32 M2) xm1 xy1); have tm2 := Hb.mk (At.keep b4 (p := ⟨N, 2, none⟩) (v := .float .f32 M3) xm2 xy2); obtain ⟨tm0c, tm0z, tm0l⟩ := tm0.out; obtain ⟨tm1c, tm1z, tm1l⟩ := tm1.out; obtain ⟨tm2c, tm2z, tm2l⟩ := tm2.out; have tg0 := Hb.mk (At.keep b4 (p := ⟨w.heap.size + 4, 0, none⟩) (v := .float .f32 0) xg0 xz0); have tg1 := Hb.mk (At.keep b4 (p := ⟨w.heap.size + 4, 1, none⟩) (v := .float .f32 0) xg1 xz1); obtain ⟨tg0c, tg0z, tg0l⟩ := tg0.out; obtain ⟨tg1c, tg1z, tg1l⟩ := tg1.out; clear b4) | (go_at_call 56; refine (KP.out _).mono ?_; rintro ex w5 ⟨rfl, b5⟩; have s0 := Hb.mk (At.keep b5 (p := ⟨w.heap.size + 4, 0, none⟩) (v := .float .f32 0) (by simp [go_sem, tg0c, tg1c, tg0z, tg1z, n4', n4'']) (by simp [go_sem, tg0c, tg1c, tg0z, tg1z, n4', n4''])); have s1 := Hb.mk (At.keep b5 (p := ⟨w.heap.size + 4, 1, none⟩) (v := .float .f32 0) (by simp [go_sem, tg0c, tg1c, tg0z, tg1z, n4', n4'']) (by simp [go_sem, tg0c, tg1c, tg0z, tg1z, n4', n4''])); obtain ⟨s0c, s0z, s0l⟩ := s0.out; obtain ⟨s1c, s1z, s1l⟩ := s1.out; have E5 := Hb.mk b5; clear b5))
  have sN : w.heap.size ≤ N := hq
  have s4 := B4.out.size
  exact bodyPost_ret (v := plT X Y ok) (by simp [results, Try.results17, go_sem, s0c, s1c]) rfl ⟨rfl, (by repeat (first | exact Below.refl _ _ | refine Below.on ?_ E5.out (by first | omega | (simp <;> omega)) | exact B4.out | refine Below.drews ?_ | refine Below.drew ?_ | refine Below.alloc ?_ (by first | omega | (simp <;> omega)) _ | refine Below.setCell ?_ (by first | omega | (simp <;> omega)) _))⟩
theorem iMeet_no0 {n0 e0 n1 e1 n2 e2 n3 e3 cn ce : Nat} (f0 : Fl .f32 cn n0) (h0 : Fl .f32 ce e0) (v0 : validC cn ce = false) (w : World) : Calls Try.prog 17 #[pl n0 e0, pl n1 e1, pl n2 e2, pl n3 e3] w (RS (plT 0 0 false) w) := by
  have KS := Hb.mk (fun (g : Nat) => ws4_no0 (g := g) (n0 := n0) (e0 := e0) (n1 := n1) (e1 := e1) (n2 := n2) (e2 := e2) (n3 := n3) (e3 := e3) f0 h0 v0)
  clear v0
  have B0 := Hb.mk (Below.refl w.heap.size w)
  go_enter Try.func17, Try.ntmps17
  go_wp2_with (first | (go_at_call 51; refine (KS.out _ _ (by simp [go_sem]) (by simp [go_sem]) (by simp [go_sem]) (by simp [go_sem]) (by simp [go_sem]) (by simp [go_sem]) (by simp [go_sem]) (by simp [go_sem])).mono ?_; rintro ex w1 ⟨rfl, b1⟩; have B1 := Hb.mk (Below.on (B := w.heap.size) (a := w) (by repeat (first | exact B0.out | refine Below.drews ?_ | refine Below.drew ?_ | refine Below.alloc ?_ (by have hq_ := B0.out.size; first | omega | (simp <;> omega)) _ | refine Below.setCell ?_ (by have hq_ := B0.out.size; first | omega | (simp <;> omega)) _)) b1 (by have hq_ := B0.out.size; first | omega | (simp <;> omega))); have r0 := Hb.mk (At.keep b1 (p := ⟨w.heap.size + 4, 0, none⟩) (v := .float .f32 0) (by simp [go_sem]) (by simp [go_sem])); obtain ⟨r0c, r0z, r0l⟩ := r0.out; have r1 := Hb.mk (At.keep b1 (p := ⟨w.heap.size + 4, 1, none⟩) (v := .float .f32 0) (by simp [go_sem]) (by simp [go_sem])); obtain ⟨r1c, r1z, r1l⟩ := r1.out; clear b1))
  exact bodyPost_ret (v := plT 0 0 false) (by simp [results, Try.results17, go_sem, r0c, r1c]) rfl ⟨rfl, (by repeat (first | exact Below.refl _ _ | exact B1.out | refine Below.drews ?_ | refine Below.drew ?_ | refine Below.alloc ?_ (by first | omega | (simp <;> omega)) _ | refine Below.setCell ?_ (by first | omega | (simp <;> omega)) _))⟩
theorem iMeet_no1 {n0 e0 n1 e1 n2 e2 n3 e3 cn ce : Nat} (f0 : Fl .f32 n0 n0) (h0 : Fl .f32 e0 e0) (f1 : Fl .f32 cn n1) (h1 : Fl .f32 ce e1) (v0 : validC n0 e0 = true) (v1 : validC cn ce = false) (w : World) : Calls Try.prog 17 #[pl n0 e0, pl n1 e1, pl n2 e2, pl n3 e3] w (RS (plT 0 0 false) w) := by
  have KS := Hb.mk (fun (g : Nat) => ws4_no1 (g := g) (n0 := n0) (e0 := e0) (n1 := n1) (e1 := e1) (n2 := n2) (e2 := e2) (n3 := n3) (e3 := e3) f0 h0 f1 h1 v0 v1)
  clear v0 v1
  have B0 := Hb.mk (Below.refl w.heap.size w)
  go_enter Try.func17, Try.ntmps17
  go_wp2_with (first | (go_at_call 51; refine (KS.out _ _ (by simp [go_sem]) (by simp [go_sem]) (by simp [go_sem]) (by simp [go_sem]) (by simp [go_sem]) (by simp [go_sem]) (by simp [go_sem]) (by simp [go_sem])).mono ?_; rintro ex w1 ⟨rfl, b1⟩; have B1 := Hb.mk (Below.on (B := w.heap.size) (a := w) (by repeat (first | exact B0.out | refine Below.drews ?_ | refine Below.drew ?_ | refine Below.alloc ?_ (by have hq_ := B0.out.size; first | omega | (simp <;> omega)) _ | refine Below.setCell ?_ (by have hq_ := B0.out.size; first | omega | (simp <;> omega)) _)) b1 (by have hq_ := B0.out.size; first | omega | (simp <;> omega))); have r0 := Hb.mk (At.keep b1 (p := ⟨w.heap.size + 4, 0, none⟩) (v := .float .f32 0) (by simp [go_sem]) (by simp [go_sem])); obtain ⟨r0c, r0z, r0l⟩ := r0.out; have r1 := Hb.mk (At.keep b1 (p := ⟨w.heap.size + 4, 1, none⟩) (v := .float .f32 0) (by simp [go_sem]) (by simp [go_sem])); obtain ⟨r1c, r1z, r1l⟩ := r1.out; clear b1))
  exact bodyPost_ret (v := plT 0 0 false) (by simp [results, Try.results17, go_sem, r0c, r1c]) rfl ⟨rfl, (by repeat (first | exact Below.refl _ _ | exact B1.out | refine Below.drews ?_ | refine Below.drew ?_ | refine Below.alloc ?_ (by first | omega | (simp <;> omega)) _ | refine Below.setCell ?_ (by first | omega | (simp <;> omega)) _))⟩
theorem iMeet_no2 {n0 e0 n1 e1 n2 e2 n3 e3 cn ce : Nat} (f0 : Fl .f32 n0 n0) (h0 : Fl .f32 e0 e0) (f1 : Fl .f32 n1 n1) (h1 : Fl .f32 e1 e1) (f2 : Fl .f32 cn n2) (h2 : Fl .f32 ce e2) (v0 : validC n0 e0 = true) (v1 : validC n1 e1 = true) (v2 : validC cn ce = false) (w : World) : Calls Try.prog 17 #[pl n0 e0, pl n1 e1, pl n2 e2, pl n3 e3] w (RS (plT 0 0 false) w) := by
  have KS := Hb.mk (fun (g : Nat) => ws4_no2 (g := g) (n0 := n0) (e0 := e0) (n1 := n1) (e1 := e1) (n2 := n2) (e2 := e2) (n3 := n3) (e3 := e3) f0 h0 f1 h1 f2 h2 v0 v1 v2)
  clear v0 v1 v2
  have B0 := Hb.mk (Below.refl w.heap.size w)
  go_enter Try.func17, Try.ntmps17
  go_wp2_with (first | (go_at_call 51; refine (KS.out _ _ (by simp [go_sem]) (by simp [go_sem]) (by simp [go_sem]) (by simp [go_sem]) (by simp [go_sem]) (by simp [go_sem]) (by simp [go_sem]) (by simp [go_sem])).mono ?_; rintro ex w1 ⟨rfl, b1⟩; have B1 := Hb.mk (Below.on (B := w.heap.size) (a := w) (by repeat (first | exact B0.out | refine Below.drews ?_ | refine Below.drew ?_ | refine Below.alloc ?_ (by have hq_ := B0.out.size; first | omega | (simp <;> omega)) _ | refine Below.setCell ?_ (by have hq_ := B0.out.size; first | omega | (simp <;> omega)) _)) b1 (by have hq_ := B0.out.size; first | omega | (simp <;> omega))); have r0 := Hb.mk (At.keep b1 (p := ⟨w.heap.size + 4, 0, none⟩) (v := .float .f32 0) (by simp [go_sem]) (by simp [go_sem])); obtain ⟨r0c, r0z, r0l⟩ := r0.out; have r1 := Hb.mk (At.keep b1 (p := ⟨w.heap.size + 4, 1, none⟩) (v := .float .f32 0) (by simp [go_sem]) (by simp [go_sem])); obtain ⟨r1c, r1z, r1l⟩ := r1.out; clear b1))
  exact bodyPost_ret (v := plT 0 0 false) (by simp [results, Try.results17, go_sem, r0c, r1c]) rfl ⟨rfl, (by repeat (first | exact Below.refl _ _ | exact B1.out | refine Below.drews ?_ | refine Below.drew ?_ | refine Below.alloc ?_ (by first | omega | (simp <;> omega)) _ | refine Below.setCell ?_ (by first | omega | (simp <;> omega)) _))⟩
theorem iMeet_no3 {n0 e0 n1 e1 n2 e2 n3 e3 cn ce : Nat} (f0 : Fl .f32 n0 n0) (h0 : Fl .f32 e0 e0) (f1 : Fl .f32 n1 n1) (h1 : Fl .f32 e1 e1) (f2 : Fl .f32 n2 n2) (h2 : Fl .f32 e2 e2) (f3 : Fl .f32 cn n3) (h3 : Fl .f32 ce e3) (v0 : validC n0 e0 = true) (v1 : validC n1 e1 = true) (v2 : validC n2 e2 = true) (v3 : validC cn ce = false) (w : World) : Calls Try.prog 17 #[pl n0 e0, pl n1 e1, pl n2 e2, pl n3 e3] w (RS (plT 0 0 false) w) := by
  have KS := Hb.mk (fun (g : Nat) => ws4_no3 (g := g) (n0 := n0) (e0 := e0) (n1 := n1) (e1 := e1) (n2 := n2) (e2 := e2) (n3 := n3) (e3 := e3) f0 h0 f1 h1 f2 h2 f3 h3 v0 v1 v2 v3)
  clear v0 v1 v2 v3
  have B0 := Hb.mk (Below.refl w.heap.size w)
  go_enter Try.func17, Try.ntmps17
  go_wp2_with (first | (go_at_call 51; refine (KS.out _ _ (by simp [go_sem]) (by simp [go_sem]) (by simp [go_sem]) (by simp [go_sem]) (by simp [go_sem]) (by simp [go_sem]) (by simp [go_sem]) (by simp [go_sem])).mono ?_; rintro ex w1 ⟨rfl, b1⟩; have B1 := Hb.mk (Below.on (B := w.heap.size) (a := w) (by repeat (first | exact B0.out | refine Below.drews ?_ | refine Below.drew ?_ | refine Below.alloc ?_ (by have hq_ := B0.out.size; first | omega | (simp <;> omega)) _ | refine Below.setCell ?_ (by have hq_ := B0.out.size; first | omega | (simp <;> omega)) _)) b1 (by have hq_ := B0.out.size; first | omega | (simp <;> omega))); have r0 := Hb.mk (At.keep b1 (p := ⟨w.heap.size + 4, 0, none⟩) (v := .float .f32 0) (by simp [go_sem]) (by simp [go_sem])); obtain ⟨r0c, r0z, r0l⟩ := r0.out; have r1 := Hb.mk (At.keep b1 (p := ⟨w.heap.size + 4, 1, none⟩) (v := .float .f32 0) (by simp [go_sem]) (by simp [go_sem])); obtain ⟨r1c, r1z, r1l⟩ := r1.out; clear b1))
  exact bodyPost_ret (v := plT 0 0 false) (by simp [results, Try.results17, go_sem, r0c, r1c]) rfl ⟨rfl, (by repeat (first | exact Below.refl _ _ | exact B1.out | refine Below.drews ?_ | refine Below.drew ?_ | refine Below.alloc ?_ (by first | omega | (simp <;> omega)) _ | refine Below.setCell ?_ (by first | omega | (simp <;> omega)) _))⟩
set_option maxHeartbeats 8000000 in
theorem sMeet_false {n0 e0 n1 e1 n2 e2 n3 e3 : Nat} (f0 : Fl .f32 n0 n0) (h0 : Fl .f32 e0 e0) (f1 : Fl .f32 n1 n1) (h1 : Fl .f32 e1 e1) (f2 : Fl .f32 n2 n2) (h2 : Fl .f32 e2 e2) (f3 : Fl .f32 n3 n3) (h3 : Fl .f32 e3 e3) {X Y : Nat} {ok : Bool} (v0 : validC n0 e0 = true) (v1 : validC n1 e1 = true) (v2 : validC n2 e2 = true) (v3 : validC n3 e3 = true) (hb : fcmp .lss .f32 (dotC (crX (crX (wxC n0 e0) (wyC n0 e0) (sineC n0) (wxC n1 e1) (wyC n1 e1) (sineC n1)) (crY (wxC n0 e0) (wyC n0 e0) (sineC n0) (wxC n1 e1) (wyC n1 e1) (sineC n1)) (crZ (wxC n0 e0) (wyC n0 e0) (sineC n0) (wxC n1 e1) (wyC n1 e1) (sineC n1)) (crX (wxC n2 e2) (wyC n2 e2) (sineC n2) (wxC n3 e3) (wyC n3 e3) (sineC n3)) (crY (wxC n2 e2) (wyC n2 e2) (sineC n2) (wxC n3 e3) (wyC n3 e3) (sineC n3)) (crZ (wxC n2 e2) (wyC n2 e2) (sineC n2) (wxC n3 e3) (wyC n3 e3) (sineC n3))) (crY (crX (wxC n0 e0) (wyC n0 e0) (sineC n0) (wxC n1 e1) (wyC n1 e1) (sineC n1)) (crY (wxC n0 e0) (wyC n0 e0) (sineC n0) (wxC n1 e1) (wyC n1 e1) (sineC n1)) (crZ (wxC n0 e0) (wyC n0 e0) (sineC n0) (wxC n1 e1) (wyC n1 e1) (sineC n1)) (crX (wxC n2 e2) (wyC n2 e2) (sineC n2) (wxC n3 e3) (wyC n3 e3) (sineC n3)) (crY (wxC n2 e2) (wyC n2 e2) (sineC n2) (wxC n3 e3) (wyC n3 e3) (sineC n3)) (crZ (wxC n2 e2) (wyC n2 e2) (sineC n2) (wxC n3 e3) (wyC n3 e3) (sineC n3))) (crZ (crX (wxC n0 e0) (wyC n0 e0) (sineC n0) (wxC n1 e1) (wyC n1 e1) (sineC n1)) (crY (wxC n0 e0) (wyC n0 e0) (sineC n0) (wxC n1 e1) (wyC n1 e1) (sineC n1)) (crZ (wxC n0 e0) (wyC n0 e0) (sineC n0) (wxC n1 e1) (wyC n1 e1) (sineC n1)) (crX (wxC n2 e2) (wyC n2 e2) (sineC n2) (wxC n3 e3) (wyC n3 e3) (sineC n3)) (crY (wxC n2 e2) (wyC n2 e2) (sineC n2) (wxC n3 e3) (wyC n3 e3) (sineC n3)) (crZ (wxC n2 e2) (wyC n2 e2) (sineC n2) (wxC n3 e3) (wyC n3 e3) (sineC n3))) (fop .add .f32 (wxC n0 e0) (wxC n1 e1)) (fop .add .f32 (wyC n0 e0) (wyC n1 e1)) (fop .add .f32 (sineC n0) (sineC n1))) 0 = false) (KP : Hb (∀ w, Calls Try.prog 50 #[wy (crX (crX (wxC n0 e0) (wyC n0 e0) (sineC n0) (wxC n1 e1) (wyC n1 e1) (sineC n1)) (crY (wxC n0 e0) (wyC n0 e0) (sineC n0) (wxC n1 e1) (wyC n1 e1) (sineC n1)) (crZ (wxC n0 e0) (wyC n0 e0) (sineC n0) (wxC n1 e1) (wyC n1 e1) (sineC n1)) (crX (wxC n2 e2) (wyC n2 e2) (sineC n2) (wxC n3 e3) (wyC n3 e3) (sineC n3)) (crY (wxC n2 e2) (wyC n2 e2) (sineC n2) (wxC n3 e3) (wyC n3 e3) (sineC n3)) (crZ (wxC n2 e2) (wyC n2 e2) (sineC n2) (wxC n3 e3) (wyC n3 e3) (sineC n3))) (crY (crX (wxC n0 e0) (wyC n0 e0) (sineC n0) (wxC n1 e1) (wyC n1 e1) (sineC n1)) (crY (wxC n0 e0) (wyC n0 e0) (sineC n0) (wxC n1 e1) (wyC n1 e1) (sineC n1)) (crZ (wxC n0 e0) (wyC n0 e0) (sineC n0) (wxC n1 e1) (wyC n1 e1) (sineC n1)) (crX (wxC n2 e2) (wyC n2 e2) (sineC n2) (wxC n3 e3) (wyC n3 e3) (sineC n3)) (crY (wxC n2 e2) (wyC n2 e2) (sineC n2) (wxC n3 e3) (wyC n3 e3) (sineC n3)) (crZ (wxC n2 e2) (wyC n2 e2) (sineC n2) (wxC n3 e3) (wyC n3 e3) (sineC n3))) (crZ (crX (wxC n0 e0) (wyC n0 e0) (sineC n0) (wxC n1 e1) (wyC n1 e1) (sineC n1)) (crY (wxC n0 e0) (wyC n0 e0) (sineC n0) (wxC n1 e1) (wyC n1 e1) (sineC n1)) (crZ (wxC n0 e0) (wyC n0 e0) (sineC n0) (wxC n1 e1) (wyC n1 e1) (sineC n1)) (crX (wxC n2 e2) (wyC n2 e2) (sineC n2) (wxC n3 e3) (wyC n3 e3) (sineC n3)) (crY (wxC n2 e2) (wyC n2 e2) (sineC n2) (wxC n3 e3) (wyC n3 e3) (sineC n3)) (crZ (wxC n2 e2) (wyC n2 e2) (sineC n2) (wxC n3 e3) (wyC n3 e3) (sineC n3)))] w (RS (plT X Y ok) w))) (w : World) : Calls Try.prog 15 #[pl n0 e0, pl n1 e1, pl n2 e2, pl n3 e3] w (RS (plT X Y ok) w) := by
  obtain ⟨tn0, te0⟩ := turns_of v0
  have wb0 := Wb.way tn0 te0
  obtain ⟨tn1, te1⟩ := turns_of v1
  have wb1 := Wb.way tn1 te1
  obtain ⟨tn2, te2⟩ := turns_of v2
  have wb2 := Wb.way tn2 te2
  obtain ⟨tn3, te3⟩ := turns_of v3
  have wb3 := Wb.way tn3 te3
  have hm := Meet.of wb0 wb1 wb2 wb3
  have hd := meet_dot hm.m hm.s
  have KAB := Hb.mk (fun w => exactW (l02Cross_any wb0.fx wb0.fy wb0.fz wb1.fx wb1.fy wb1.fz w) hm.ab.ax.fin hm.ab.ay.fin hm.ab.az.fin)
  have KCD := Hb.mk (fun w => exactW (l02Cross_any wb2.fx wb2.fy wb2.fz wb3.fx wb3.fy wb3.fz w) hm.cd.ax.fin hm.cd.ay.fin hm.cd.az.fin)
  have KM := Hb.mk (fun w => exactW (l02Cross_any hm.ab.fx hm.ab.fy hm.ab.fz hm.cd.fx hm.cd.fy hm.cd.fz w) hm.m.ax.fin hm.m.ay.fin hm.m.az.fin)
  have KA := Hb.mk (fun w => exactW (l02Add_any wb0.fx wb0.fy wb0.fz wb1.fx wb1.fy wb1.fz w) hm.s.ax.fin hm.s.ay.fin hm.s.az.fin)
  have KD := Hb.mk (fun w => exactB (l02Dot_any hm.m.fx hm.m.fy hm.m.fz hm.s.fx hm.s.fy hm.s.fz w) hd.fin)
  have MC : Hb ((FloatKind.f32.format.order (dotC (crX (crX (wxC n0 e0) (wyC n0 e0) (sineC n0) (wxC n1 e1) (wyC n1 e1) (sineC n1)) (crY (wxC n0 e0) (wyC n0 e0) (sineC n0) (wxC n1 e1) (wyC n1 e1) (sineC n1)) (crZ (wxC n0 e0) (wyC n0 e0) (sineC n0) (wxC n1 e1) (wyC n1 e1) (sineC n1)) (crX (wxC n2 e2) (wyC n2 e2) (sineC n2) (wxC n3 e3) (wyC n3 e3) (sineC n3)) (crY (wxC n2 e2) (wyC n2 e2) (sineC n2) (wxC n3 e3) (wyC n3 e3) (sineC n3)) (crZ (wxC n2 e2) (wyC n2 e2) (sineC n2) (wxC n3 e3) (wyC n3 e3) (sineC n3))) (crY (crX (wxC n0 e0) (wyC n0 e0) (sineC n0) (wxC n1 e1) (wyC n1 e1) (sineC n1)) (crY (wxC n0 e0) (wyC n0 e0) (sineC n0) (wxC n1 e1) (wyC n1 e1) (sineC n1)) (crZ (wxC n0 e0) (wyC n0 e0) (sineC n0) (wxC n1 e1) (wyC n1 e1) (sineC n1)) (crX (wxC n2 e2) (wyC n2 e2) (sineC n2) (wxC n3 e3) (wyC n3 e3) (sineC n3)) (crY (wxC n2 e2) (wyC n2 e2) (sineC n2) (wxC n3 e3) (wyC n3 e3) (sineC n3)) (crZ (wxC n2 e2) (wyC n2 e2) (sineC n2) (wxC n3 e3) (wyC n3 e3) (sineC n3))) (crZ (crX (wxC n0 e0) (wyC n0 e0) (sineC n0) (wxC n1 e1) (wyC n1 e1) (sineC n1)) (crY (wxC n0 e0) (wyC n0 e0) (sineC n0) (wxC n1 e1) (wyC n1 e1) (sineC n1)) (crZ (wxC n0 e0) (wyC n0 e0) (sineC n0) (wxC n1 e1) (wyC n1 e1) (sineC n1)) (crX (wxC n2 e2) (wyC n2 e2) (sineC n2) (wxC n3 e3) (wyC n3 e3) (sineC n3)) (crY (wxC n2 e2) (wyC n2 e2) (sineC n2) (wxC n3 e3) (wyC n3 e3) (sineC n3)) (crZ (wxC n2 e2) (wyC n2 e2) (sineC n2) (wxC n3 e3) (wyC n3 e3) (sineC n3))) (fop .add .f32 (wxC n0 e0) (wxC n1 e1)) (fop .add .f32 (wyC n0 e0) (wyC n1 e1)) (fop .add .f32 (sineC n0) (sineC n1))) 0 == some Ordering.lt) = false) := ⟨hb⟩
  have KV := l02Two_any f0 h0 f1 h1
  rw [v0, v1] at KV
  have V := Hb.mk KV
  have KV2 := l02Two_any f2 h2 f3 h3
  rw [v2, v3] at KV2
  have V2 := Hb.mk KV2
  have KW0 := Hb.mk (l02Way_any f0 h0 tn0 te0)
  have KW1 := Hb.mk (l02Way_any f1 h1 tn1 te1)
  have KW2 := Hb.mk (l02Way_any f2 h2 tn2 te2)
  have KW3 := Hb.mk (l02Way_any f3 h3 tn3 te3)
  clear hm hd hb KV KV2 v0 tn0 te0 wb0 v1 tn1 te1 wb1 v2 tn2 te2 wb2 v3 tn3 te3 wb3
  generalize dotC (crX (crX (wxC n0 e0) (wyC n0 e0) (sineC n0) (wxC n1 e1) (wyC n1 e1) (sineC n1)) (crY (wxC n0 e0) (wyC n0 e0) (sineC n0) (wxC n1 e1) (wyC n1 e1) (sineC n1)) (crZ (wxC n0 e0) (wyC n0 e0) (sineC n0) (wxC n1 e1) (wyC n1 e1) (sineC n1)) (crX (wxC n2 e2) (wyC n2 e2) (sineC n2) (wxC n3 e3) (wyC n3 e3) (sineC n3)) (crY (wxC n2 e2) (wyC n2 e2) (sineC n2) (wxC n3 e3) (wyC n3 e3) (sineC n3)) (crZ (wxC n2 e2) (wyC n2 e2) (sineC n2) (wxC n3 e3) (wyC n3 e3) (sineC n3))) (crY (crX (wxC n0 e0) (wyC n0 e0) (sineC n0) (wxC n1 e1) (wyC n1 e1) (sineC n1)) (crY (wxC n0 e0) (wyC n0 e0) (sineC n0) (wxC n1 e1) (wyC n1 e1) (sineC n1)) (crZ (wxC n0 e0) (wyC n0 e0) (sineC n0) (wxC n1 e1) (wyC n1 e1) (sineC n1)) (crX (wxC n2 e2) (wyC n2 e2) (sineC n2) (wxC n3 e3) (wyC n3 e3) (sineC n3)) (crY (wxC n2 e2) (wyC n2 e2) (sineC n2) (wxC n3 e3) (wyC n3 e3) (sineC n3)) (crZ (wxC n2 e2) (wyC n2 e2) (sineC n2) (wxC n3 e3) (wyC n3 e3) (sineC n3))) (crZ (crX (wxC n0 e0) (wyC n0 e0) (sineC n0) (wxC n1 e1) (wyC n1 e1) (sineC n1)) (crY (wxC n0 e0) (wyC n0 e0) (sineC n0) (wxC n1 e1) (wyC n1 e1) (sineC n1)) (crZ (wxC n0 e0) (wyC n0 e0) (sineC n0) (wxC n1 e1) (wyC n1 e1) (sineC n1)) (crX (wxC n2 e2) (wyC n2 e2) (sineC n2) (wxC n3 e3) (wyC n3 e3) (sineC n3)) (crY (wxC n2 e2) (wyC n2 e2) (sineC n2) (wxC n3 e3) (wyC n3 e3) (sineC n3)) (crZ (wxC n2 e2) (wyC n2 e2) (sineC n2) (wxC n3 e3) (wyC n3 e3) (sineC n3))) (fop .add .f32 (wxC n0 e0) (wxC n1 e1)) (fop .add .f32 (wyC n0 e0) (wyC n1 e1)) (fop .add .f32 (sineC n0) (sineC n1)) = D at *
  generalize crX (crX (wxC n0 e0) (wyC n0 e0) (sineC n0) (wxC n1 e1) (wyC n1 e1) (sineC n1)) (crY (wxC n0 e0) (wyC n0 e0) (sineC n0) (wxC n1 e1) (wyC n1 e1) (sineC n1)) (crZ (wxC n0 e0) (wyC n0 e0) (sineC n0) (wxC n1 e1) (wyC n1 e1) (sineC n1)) (crX (wxC n2 e2) (wyC n2 e2) (sineC n2) (wxC n3 e3) (wyC n3 e3) (sineC n3)) (crY (wxC n2 e2) (wyC n2 e2) (sineC n2) (wxC n3 e3) (wyC n3 e3) (sineC n3)) (crZ (wxC n2 e2) (wyC n2 e2) (sineC n2) (wxC n3 e3) (wyC n3 e3) (sineC n3)) = M1 at *
  generalize crY (crX (wxC n0 e0) (wyC n0 e0) (sineC n0) (wxC n1 e1) (wyC n1 e1) (sineC n1)) (crY (wxC n0 e0) (wyC n0 e0) (sineC n0) (wxC n1 e1) (wyC n1 e1) (sineC n1)) (crZ (wxC n0 e0) (wyC n0 e0) (sineC n0) (wxC n1 e1) (wyC n1 e1) (sineC n1)) (crX (wxC n2 e2) (wyC n2 e2) (sineC n2) (wxC n3 e3) (wyC n3 e3) (sineC n3)) (crY (wxC n2 e2) (wyC n2 e2) (sineC n2) (wxC n3 e3) (wyC n3 e3) (sineC n3)) (crZ (wxC n2 e2) (wyC n2 e2) (sineC n2) (wxC n3 e3) (wyC n3 e3) (sineC n3)) = M2 at *
  generalize crZ (crX (wxC n0 e0) (wyC n0 e0) (sineC n0) (wxC n1 e1) (wyC n1 e1) (sineC n1)) (crY (wxC n0 e0) (wyC n0 e0) (sineC n0) (wxC n1 e1) (wyC n1 e1) (sineC n1)) (crZ (wxC n0 e0) (wyC n0 e0) (sineC n0) (wxC n1 e1) (wyC n1 e1) (sineC n1)) (crX (wxC n2 e2) (wyC n2 e2) (sineC n2) (wxC n3 e3) (wyC n3 e3) (sineC n3)) (crY (wxC n2 e2) (wyC n2 e2) (sineC n2) (wxC n3 e3) (wyC n3 e3) (sineC n3)) (crZ (wxC n2 e2) (wyC n2 e2) (sineC n2) (wxC n3 e3) (wyC n3 e3) (sineC n3)) = M3 at *
  generalize fop .add .f32 (wxC n0 e0) (wxC n1 e1) = S1 at *
  generalize fop .add .f32 (wyC n0 e0) (wyC n1 e1) = S2 at *
  generalize fop .add .f32 (sineC n0) (sineC n1) = S3 at *
  generalize crX (wxC n0 e0) (wyC n0 e0) (sineC n0) (wxC n1 e1) (wyC n1 e1) (sineC n1) = P1 at *
  generalize crY (wxC n0 e0) (wyC n0 e0) (sineC n0) (wxC n1 e1) (wyC n1 e1) (sineC n1) = P2 at *
  generalize crZ (wxC n0 e0) (wyC n0 e0) (sineC n0) (wxC n1 e1) (wyC n1 e1) (sineC n1) = P3 at *
  generalize crX (wxC n2 e2) (wyC n2 e2) (sineC n2) (wxC n3 e3) (wyC n3 e3) (sineC n3) = Q1 at *
  generalize crY (wxC n2 e2) (wyC n2 e2) (sineC n2) (wxC n3 e3) (wyC n3 e3) (sineC n3) = Q2 at *
  generalize crZ (wxC n2 e2) (wyC n2 e2) (sineC n2) (wxC n3 e3) (wyC n3 e3) (sineC n3) = Q3 at *
  generalize wxC n0 e0 = x0 at *
  generalize wyC n0 e0 = y0 at *
  generalize sineC n0 = z0 at *
  generalize wxC n1 e1 = x1 at *
  generalize wyC n1 e1 = y1 at *
  generalize sineC n1 = z1 at *
  generalize wxC n2 e2 = x2 at *
  generalize wyC n2 e2 = y2 at *
  generalize sineC n2 = z2 at *
  generalize wxC n3 e3 = x3 at *
  generalize wyC n3 e3 = y3 at *
  generalize sineC n3 = z3 at *
  have B0 := Hb.mk (Below.refl w.heap.size w)
  go_enter Try.func15, Try.ntmps15
  go_wp2_with (first | (go_at_call_of 45 (Value.float .f32 n0); go_at_call_of 45 (Value.float .f32 n1); refine (V.out _).mono ?_; rintro ex w1 ⟨rfl, b1⟩; have B1 := Hb.mk (Below.on (B := w.heap.size) (a := w) (by repeat (first | exact B0.out | refine Below.drews ?_ | refine Below.drew ?_ | refine Below.alloc ?_ (by have hq_ := B0.out.size; first | omega | (simp <;> omega)) _ | refine Below.setCell ?_ (by have hq_ := B0.out.size; first | omega | (simp <;> omega)) _)) b1 (by have hq_ := B0.out.size; first | omega | (simp <;> omega))); have b00 := Hb.mk (At.keep b1 (p := ⟨w.heap.size, 0, none⟩) (v := .float .f32 n0) (by simp [go_sem]) (by simp [go_sem])); obtain ⟨b00c, b00z, b00l⟩ := b00.out; have b01 := Hb.mk (At.keep b1 (p := ⟨w.heap.size, 1, none⟩) (v := .float .f32 e0) (by simp [go_sem]) (by simp [go_sem])); obtain ⟨b01c, b01z, b01l⟩ := b01.out; have b10 := Hb.mk (At.keep b1 (p := ⟨w.heap.size + 1, 0, none⟩) (v := .float .f32 n1) (by simp [go_sem]) (by simp [go_sem])); obtain ⟨b10c, b10z, b10l⟩ := b10.out; have b11 := Hb.mk (At.keep b1 (p := ⟨w.heap.size + 1, 1, none⟩) (v := .float .f32 e1) (by simp [go_sem]) (by simp [go_sem])); obtain ⟨b11c, b11z, b11l⟩ := b11.out; have b20 := Hb.mk (At.keep b1 (p := ⟨w.heap.size + 2, 0, none⟩) (v := .float .f32 n2) (by simp [go_sem]) (by simp [go_sem])); obtain ⟨b20c, b20z, b20l⟩ := b20.out; have b21 := Hb.mk (At.keep b1 (p := ⟨w.heap.size + 2, 1, none⟩) (v := .float .f32 e2) (by simp [go_sem]) (by simp [go_sem])); obtain ⟨b21c, b21z, b21l⟩ := b21.out; have b30 := Hb.mk (At.keep b1 (p := ⟨w.heap.size + 3, 0, none⟩) (v := .float .f32 n3) (by simp [go_sem]) (by simp [go_sem])); obtain ⟨b30c, b30z, b30l⟩ := b30.out; have b31 := Hb.mk (At.keep b1 (p := ⟨w.heap.size + 3, 1, none⟩) (v := .float .f32 e3) (by simp [go_sem]) (by simp [go_sem])); obtain ⟨b31c, b31z, b31l⟩ := b31.out; have r0 := Hb.mk (At.keep b1 (p := ⟨w.heap.size + 4, 0, none⟩) (v := .float .f32 0) (by simp [go_sem]) (by simp [go_sem])); obtain ⟨r0c, r0z, r0l⟩ := r0.out; have r1 := Hb.mk (At.keep b1 (p := ⟨w.heap.size + 4, 1, none⟩) (v := .float .f32 0) (by simp [go_sem]) (by simp [go_sem])); obtain ⟨r1c, r1z, r1l⟩ := r1.out; clear b1) | (go_at_call_of 45 (Value.float .f32 n2); refine (V2.out _).mono ?_; rintro ex w2 ⟨rfl, b2⟩; have B2 := Hb.mk (Below.on (B := w.heap.size) (a := w) (by repeat (first | exact B1.out | refine Below.drews ?_ | refine Below.drew ?_ | refine Below.alloc ?_ (by have hq_ := B1.out.size; first | omega | (simp <;> omega)) _ | refine Below.setCell ?_ (by have hq_ := B1.out.size; first | omega | (simp <;> omega)) _)) b2 (by have hq_ := B1.out.size; first | omega | (simp <;> omega))); have b00 := Hb.mk (At.re b00.out b2 (by first | exact b00c | simp [go_sem, b00c, b00l]) (by first | exact b00z | simp [go_sem, b00z, b00l])); obtain ⟨b00c, b00z, b00l⟩ := b00.out; have b01 := Hb.mk (At.re b01.out b2 (by first | exact b01c | simp [go_sem, b01c, b01l]) (by first | exact b01z | simp [go_sem, b01z, b01l])); obtain ⟨b01c, b01z, b01l⟩ := b01.out; have b10 := Hb.mk (At.re b10.out b2 (by first | exact b10c | simp [go_sem, b10c, b10l]) (by first | exact b10z | simp [go_sem, b10z, b10l])); obtain ⟨b10c, b10z, b10l⟩ := b10.out; have b11 := Hb.mk (At.re b11.out b2 (by first | exact b11c | simp [go_sem, b11c, b11l]) (by first | exact b11z | simp [go_sem, b11z, b11l])); obtain ⟨b11c, b11z, b11l⟩ := b11.out; have b20 := Hb.mk (At.re b20.out b2 (by first | exact b20c | simp [go_sem, b20c, b20l]) (by first | exact b20z | simp [go_sem, b20z, b20l])); obtain ⟨b20c, b20z, b20l⟩ := b20.out; have b21 := Hb.mk (At.re b21.out b2 (by first | exact b21c | simp [go_sem, b21c, b21l]) (by first | exact b21z | simp [go_sem, b21z, b21l])); obtain ⟨b21c, b21z, b21l⟩ := b21.out; have b30 := Hb.mk (At.re b30.out b2 (by first | exact b30c | simp [go_sem, b30c, b30l]) (by first | exact b30z | simp [go_sem, b30z, b30l])); obtain ⟨b30c, b30z, b30l⟩ := b30.out; have b31 := Hb.mk (At.re b31.out b2 (by first | exact b31c | simp [go_sem, b31c, b31l]) (by first | exact b31z | simp [go_sem, b31z, b31l])); obtain ⟨b31c, b31z, b31l⟩ := b31.out; have r0 := Hb.mk (At.re r0.out b2 (by first | exact r0c | simp [go_sem, r0c, r0l]) (by first | exact r0z | simp [go_sem, r0z, r0l])); obtain ⟨r0c, r0z, r0l⟩ := r0.out; have r1 := Hb.mk (At.re r1.out b2 (by first | exact r1c | simp [go_sem, r1c, r1l]) (by first | exact r1z | simp [go_sem, r1z, r1l])); obtain ⟨r1c, r1z, r1l⟩ := r1.out; clear b2))
  refine region_fresh (o := ?o1) 11 (by kernel_rfl) (by kernel_rfl) (by kernel_rfl) rfl rfl rfl (fun a w => ?hA1) (fun I1 F1 hne1 HB1 => ?h1)
  case hA1 =>
    go_simp
    try rfl
  have p00 := keepF HB1 (p := ⟨w.heap.size, 0, none⟩) (v := .float .f32 n0) b00c
  have p01 := keepF HB1 (p := ⟨w.heap.size, 1, none⟩) (v := .float .f32 e0) b01c
  have p10 := keepF HB1 (p := ⟨w.heap.size + 1, 0, none⟩) (v := .float .f32 n1) b10c
  have p11 := keepF HB1 (p := ⟨w.heap.size + 1, 1, none⟩) (v := .float .f32 e1) b11c
  have p20 := keepF HB1 (p := ⟨w.heap.size + 2, 0, none⟩) (v := .float .f32 n2) b20c
  have p21 := keepF HB1 (p := ⟨w.heap.size + 2, 1, none⟩) (v := .float .f32 e2) b21c
  have p30 := keepF HB1 (p := ⟨w.heap.size + 3, 0, none⟩) (v := .float .f32 n3) b30c
  have p31 := keepF HB1 (p := ⟨w.heap.size + 3, 1, none⟩) (v := .float .f32 e3) b31c
  have g0 := keepF HB1 (p := ⟨w.heap.size + 4, 0, none⟩) (v := .float .f32 0) (by first | exact r0c | simp [go_sem, r0c])
  have gz0 := keepZ HB1 (p := ⟨w.heap.size + 4, 0, none⟩) (by first | exact r0l | simp [go_sem, r0l]) (by first | exact r0z | simp [go_sem, r0z])
  have g1 := keepF HB1 (p := ⟨w.heap.size + 4, 1, none⟩) (v := .float .f32 0) (by first | exact r1c | simp [go_sem, r1c])
  have gz1 := keepZ HB1 (p := ⟨w.heap.size + 4, 1, none⟩) (by first | exact r1l | simp [go_sem, r1l]) (by first | exact r1z | simp [go_sem, r1z])
  simp only [List.take_succ_cons, List.take_zero, List.drop_succ_cons, List.drop_zero]
  repeat (refine lex_step (fun K hK => ?_); go_simp; first | (refine hK _ ?_; clear hK K) | (apply Exists.intro; refine ⟨fun _ => ?_, hK _ ?_⟩; (first | (go_at_call_of 47 (Value.float .f32 n0); exact callR (KW0.out _)) | (go_at_call_of 47 (Value.float .f32 n1); exact callR (KW1.out _)) | (go_at_call_of 47 (Value.float .f32 n2); exact callR (KW2.out _)) | (go_at_call_of 47 (Value.float .f32 n3); exact callR (KW3.out _)) | (go_at_call_of 46 (wy x0 y0 z0); exact callR (KAB.out _)) | (go_at_call_of 46 (wy x2 y2 z2); exact callR (KCD.out _)) | (go_at_call_of 46 (wy P1 P2 P3); exact callR (KM.out _))); clear hK K))
  refine lex_nil ?_
  intro i1 wq hb1
  have bF1 : Below (F1 i1).heap.size (F1 i1) wq := Below.on ((Below.refl _ _).alloc (Nat.le_refl _) _) hb1 (by simp)
  have d0 := Below.keep hb1 (p := ⟨(F1 i1).heap.size, 0, none⟩) (v := .float .f32 0) (by simp)
  have z0z : wq.frozen? ⟨(F1 i1).heap.size, 0, none⟩ = false := by rw [hb1.frozen (by simp)]; simp
  have d1 := Below.keep hb1 (p := ⟨(F1 i1).heap.size, 1, none⟩) (v := .float .f32 0) (by simp)
  have z1z : wq.frozen? ⟨(F1 i1).heap.size, 1, none⟩ = false := by rw [hb1.frozen (by simp)]; simp
  have d2 := Below.keep hb1 (p := ⟨(F1 i1).heap.size, 2, none⟩) (v := .float .f32 0) (by simp)
  have z2z : wq.frozen? ⟨(F1 i1).heap.size, 2, none⟩ = false := by rw [hb1.frozen (by simp)]; simp
  have kp00 := Below.keep bF1 (p00 i1)
  have kp01 := Below.keep bF1 (p01 i1)
  have kp10 := Below.keep bF1 (p10 i1)
  have kp11 := Below.keep bF1 (p11 i1)
  have kp20 := Below.keep bF1 (p20 i1)
  have kp21 := Below.keep bF1 (p21 i1)
  have kp30 := Below.keep bF1 (p30 i1)
  have kp31 := Below.keep bF1 (p31 i1)
  have kg0 := Below.keep bF1 (g0 i1)
  have kz0 : wq.frozen? ⟨w.heap.size + 4, 0, none⟩ = false := by rw [bF1.frozen (block_lt_of_cell (g0 i1))]; exact gz0 i1
  have kg1 := Below.keep bF1 (g1 i1)
  have kz1 : wq.frozen? ⟨w.heap.size + 4, 1, none⟩ = false := by rw [bF1.frozen (block_lt_of_cell (g1 i1))]; exact gz1 i1
  have lt1 : (F1 i1).heap.size < wq.heap.size := by have := hb1.size; simp at this; omega
  have hs1 := (HB1.out i1).size
  have EF1 := Hb.mk (Below.on (HB1.out i1) bF1 (HB1.out i1).size)
  have lg := block_lt_of_cell (g0 i1)
  simp at lg
  have n0_ : w.heap.size ≠ (F1 i1).heap.size := by omega
  have n1_ : w.heap.size + 1 ≠ (F1 i1).heap.size := by omega
  have n2_ : w.heap.size + 2 ≠ (F1 i1).heap.size := by omega
  have n3_ : w.heap.size + 3 ≠ (F1 i1).heap.size := by omega
  have n4_ : w.heap.size + 4 ≠ (F1 i1).heap.size := by omega
  go_wp2
  generalize hW : World.setCell (World.setCell (World.setCell (wq) ⟨(F1 i1).heap.size, 0, none⟩ (.float .f32 M1)) ⟨(F1 i1).heap.size, 1, none⟩ (.float .f32 M2)) ⟨(F1 i1).heap.size, 2, none⟩ (.float .f32 M3) = U
  have up00 : U.cell? ⟨w.heap.size, 0, none⟩ = some (.float .f32 n0) := by rw [← hW]; first | simp [go_sem, kp00] | simp [go_sem, kp00, n0_]
  have up01 : U.cell? ⟨w.heap.size, 1, none⟩ = some (.float .f32 e0) := by rw [← hW]; first | simp [go_sem, kp01] | simp [go_sem, kp01, n0_]
  have up10 : U.cell? ⟨w.heap.size + 1, 0, none⟩ = some (.float .f32 n1) := by rw [← hW]; first | simp [go_sem, kp10] | simp [go_sem, kp10, n1_]
  have up11 : U.cell? ⟨w.heap.size + 1, 1, none⟩ = some (.float .f32 e1) := by rw [← hW]; first | simp [go_sem, kp11] | simp [go_sem, kp11, n1_]
  have up20 : U.cell? ⟨w.heap.size + 2, 0, none⟩ = some (.float .f32 n2) := by rw [← hW]; first | simp [go_sem, kp20] | simp [go_sem, kp20, n2_]
  have up21 : U.cell? ⟨w.heap.size + 2, 1, none⟩ = some (.float .f32 e2) := by rw [← hW]; first | simp [go_sem, kp21] | simp [go_sem, kp21, n2_]
  have up30 : U.cell? ⟨w.heap.size + 3, 0, none⟩ = some (.float .f32 n3) := by rw [← hW]; first | simp [go_sem, kp30] | simp [go_sem, kp30, n3_]
  have up31 : U.cell? ⟨w.heap.size + 3, 1, none⟩ = some (.float .f32 e3) := by rw [← hW]; first | simp [go_sem, kp31] | simp [go_sem, kp31, n3_]
  have ug0 : U.cell? ⟨w.heap.size + 4, 0, none⟩ = some (.float .f32 0) := by rw [← hW]; first | simp [go_sem, kg0] | simp [go_sem, kg0, n4_]
  have uz0 : U.frozen? ⟨w.heap.size + 4, 0, none⟩ = false := by rw [← hW]; simp [go_sem, kz0]
  have ug1 : U.cell? ⟨w.heap.size + 4, 1, none⟩ = some (.float .f32 0) := by rw [← hW]; first | simp [go_sem, kg1] | simp [go_sem, kg1, n4_]
  have uz1 : U.frozen? ⟨w.heap.size + 4, 1, none⟩ = false := by rw [← hW]; simp [go_sem, kz1]
  have um0 : U.cell? ⟨(F1 i1).heap.size, 0, none⟩ = some (.float .f32 M1) := by rw [← hW]; simp [go_sem, d0]
  have uy0 : U.frozen? ⟨(F1 i1).heap.size, 0, none⟩ = false := by rw [← hW]; simp [go_sem, z0z]
  have um1 : U.cell? ⟨(F1 i1).heap.size, 1, none⟩ = some (.float .f32 M2) := by rw [← hW]; simp [go_sem, d1]
  have uy1 : U.frozen? ⟨(F1 i1).heap.size, 1, none⟩ = false := by rw [← hW]; simp [go_sem, z1z]
  have um2 : U.cell? ⟨(F1 i1).heap.size, 2, none⟩ = some (.float .f32 M3) := by rw [← hW]; simp [go_sem, d2]
  have uy2 : U.frozen? ⟨(F1 i1).heap.size, 2, none⟩ = false := by rw [← hW]; simp [go_sem, z2z]
  have lU : (F1 i1).heap.size < U.heap.size := by rw [← hW]; simp; exact lt1
  have hq : w.heap.size ≤ (F1 i1).heap.size := by omega
  have BU := Hb.mk (show Below w.heap.size w U by
    rw [← hW]
    refine Below.setCell ?_ (by show w.heap.size ≤ (F1 i1).heap.size; exact hq) _
    refine Below.setCell ?_ (by show w.heap.size ≤ (F1 i1).heap.size; exact hq) _
    refine Below.setCell ?_ (by show w.heap.size ≤ (F1 i1).heap.size; exact hq) _
    exact (by repeat (first | exact Below.refl _ _ | refine Below.on ?_ EF1.out (by first | omega | (simp <;> omega)) | exact B2.out | refine Below.drews ?_ | refine Below.drew ?_ | refine Below.alloc ?_ (by first | omega | (simp <;> omega)) _ | refine Below.setCell ?_ (by first | omega | (simp <;> omega)) _)))
  generalize (F1 i1).heap.size = N at *
  clear hW HB1 EF1 bF1 hb1 lt1 hs1 p00 p01 p10 p11 p20 p21 p30 p31 kp00 kp01 kp10 kp11 kp20 kp21 kp30 kp31 g0 g1 gz0 gz1 kg0 kg1 kz0 kz1 d0 z0z d1 z1z d2 z2z
  refine region_all (by kernel_rfl) (by kernel_rfl) (fun I2 F2 hne2 HB2 hcl => ?_)
  have vp00 := keepF HB2 (p := ⟨w.heap.size, 0, none⟩) (v := .float .f32 n0) up00
  have vp01 := keepF HB2 (p := ⟨w.heap.size, 1, none⟩) (v := .float .f32 e0) up01
  have vp10 := keepF HB2 (p := ⟨w.heap.size + 1, 0, none⟩) (v := .float .f32 n1) up10
  have vp11 := keepF HB2 (p := ⟨w.heap.size + 1, 1, none⟩) (v := .float .f32 e1) up11
  have vm0 := keepF HB2 (p := ⟨N, 0, none⟩) (v := .float .f32 M1) um0
  have vy0 := keepZ HB2 (p := ⟨N, 0, none⟩) lU uy0
  have vm1 := keepF HB2 (p := ⟨N, 1, none⟩) (v := .float .f32 M2) um1
  have vy1 := keepZ HB2 (p := ⟨N, 1, none⟩) lU uy1
  have vm2 := keepF HB2 (p := ⟨N, 2, none⟩) (v := .float .f32 M3) um2
  have vy2 := keepZ HB2 (p := ⟨N, 2, none⟩) lU uy2
  have lG : w.heap.size + 4 < U.heap.size := block_lt_of_cell ug0
  have vg0 := keepF HB2 (p := ⟨w.heap.size + 4, 0, none⟩) (v := .float .f32 0) ug0
  have vz0 := keepZ HB2 (p := ⟨w.heap.size + 4, 0, none⟩) lG uz0
  have vg1 := keepF HB2 (p := ⟨w.heap.size + 4, 1, none⟩) (v := .float .f32 0) ug1
  have vz1 := keepZ HB2 (p := ⟨w.heap.size + 4, 1, none⟩) lG uz1
  have mC := MC.out
  repeat (quiet_step (first | (go_at_call_of 47 (Value.float .f32 n0); exact callS hcl (KW0.out _)) | (go_at_call_of 47 (Value.float .f32 n1); exact callS hcl (KW1.out _)) | (go_at_call 49; exact callS hcl (KA.out _)) | (go_at_call 48; exact callS hcl (KD.out _))))
  refine wpQuiet_nil ?_
  intro _ hw'
  obtain ⟨i2, rfl⟩ := hw'
  clear hcl mC
  have xm0 := vm0 i2
  have xy0 := vy0 i2
  have xm1 := vm1 i2
  have xy1 := vy1 i2
  have xm2 := vm2 i2
  have xy2 := vy2 i2
  have xg0 := vg0 i2
  have xz0 := vz0 i2
  have xg1 := vg1 i2
  have xz1 := vz1 i2
  have BQ := Hb.mk (Below.on BU.out (HB2.out i2) BU.out.size)
  have ln : N < (F2 i2).heap.size := block_lt_of_cell xm0
  have lg2 : w.heap.size + 4 < (F2 i2).heap.size := block_lt_of_cell xg0
  have n4' : w.heap.size + 4 ≠ N := n4_
  have n4'' : N ≠ w.heap.size + 4 := Ne.symm n4_
  clear HB2 BU up00 up01 up10 up11 up20 up21 up30 up31 ug0 ug1 uz0 uz1 um0 um1 um2 uy0 uy1 uy2 vp00 vp01 vp10 vp11 vm0 vm1 vm2 vy0 vy1 vy2 vg0 vg1 vz0 vz1
  go_wp2_with (first | (go_at_call 50; refine (KP.out _).mono ?_; rintro ex w5 ⟨rfl, b5⟩; have s0 := Hb.mk (At.keep b5 (p := ⟨w.heap.size + 4, 0, none⟩) (v := .float .f32 0) (by simp [go_sem, xg0, xg1, xz0, xz1, n4', n4'']) (by simp [go_sem, xg0, xg1, xz0, xz1, n4', n4''])); have s1 := Hb.mk (At.keep b5 (p := ⟨w.heap.size + 4, 1, none⟩) (v := .float .f32 0) (by simp [go_sem, xg0, xg1, xz0, xz1, n4', n4'']) (by simp [go_sem, xg0, xg1, xz0, xz1, n4', n4''])); obtain ⟨s0c, s0z, s0l⟩ := s0.out; obtain ⟨s1c, s1z, s1l⟩ := s1.out; have E5 := Hb.mk b5; clear b5))
  exact bodyPost_ret (v := plT X Y ok) (by simp [results, Try.results15, go_sem, s0c, s1c]) rfl ⟨rfl, (by repeat (first | exact Below.refl _ _ | refine Below.on ?_ E5.out (by first | omega | (simp <;> omega)) | exact BQ.out | refine Below.drews ?_ | refine Below.drew ?_ | refine Below.alloc ?_ (by first | omega | (simp <;> omega)) _ | refine Below.setCell ?_ (by first | omega | (simp <;> omega)) _))⟩
set_option maxHeartbeats 8000000 in
theorem sMeet_true {n0 e0 n1 e1 n2 e2 n3 e3 : Nat} (f0 : Fl .f32 n0 n0) (h0 : Fl .f32 e0 e0) (f1 : Fl .f32 n1 n1) (h1 : Fl .f32 e1 e1) (f2 : Fl .f32 n2 n2) (h2 : Fl .f32 e2 e2) (f3 : Fl .f32 n3 n3) (h3 : Fl .f32 e3 e3) {X Y : Nat} {ok : Bool} (v0 : validC n0 e0 = true) (v1 : validC n1 e1 = true) (v2 : validC n2 e2 = true) (v3 : validC n3 e3 = true) (hb : fcmp .lss .f32 (dotC (crX (crX (wxC n0 e0) (wyC n0 e0) (sineC n0) (wxC n1 e1) (wyC n1 e1) (sineC n1)) (crY (wxC n0 e0) (wyC n0 e0) (sineC n0) (wxC n1 e1) (wyC n1 e1) (sineC n1)) (crZ (wxC n0 e0) (wyC n0 e0) (sineC n0) (wxC n1 e1) (wyC n1 e1) (sineC n1)) (crX (wxC n2 e2) (wyC n2 e2) (sineC n2) (wxC n3 e3) (wyC n3 e3) (sineC n3)) (crY (wxC n2 e2) (wyC n2 e2) (sineC n2) (wxC n3 e3) (wyC n3 e3) (sineC n3)) (crZ (wxC n2 e2) (wyC n2 e2) (sineC n2) (wxC n3 e3) (wyC n3 e3) (sineC n3))) (crY (crX (wxC n0 e0) (wyC n0 e0) (sineC n0) (wxC n1 e1) (wyC n1 e1) (sineC n1)) (crY (wxC n0 e0) (wyC n0 e0) (sineC n0) (wxC n1 e1) (wyC n1 e1) (sineC n1)) (crZ (wxC n0 e0) (wyC n0 e0) (sineC n0) (wxC n1 e1) (wyC n1 e1) (sineC n1)) (crX (wxC n2 e2) (wyC n2 e2) (sineC n2) (wxC n3 e3) (wyC n3 e3) (sineC n3)) (crY (wxC n2 e2) (wyC n2 e2) (sineC n2) (wxC n3 e3) (wyC n3 e3) (sineC n3)) (crZ (wxC n2 e2) (wyC n2 e2) (sineC n2) (wxC n3 e3) (wyC n3 e3) (sineC n3))) (crZ (crX (wxC n0 e0) (wyC n0 e0) (sineC n0) (wxC n1 e1) (wyC n1 e1) (sineC n1)) (crY (wxC n0 e0) (wyC n0 e0) (sineC n0) (wxC n1 e1) (wyC n1 e1) (sineC n1)) (crZ (wxC n0 e0) (wyC n0 e0) (sineC n0) (wxC n1 e1) (wyC n1 e1) (sineC n1)) (crX (wxC n2 e2) (wyC n2 e2) (sineC n2) (wxC n3 e3) (wyC n3 e3) (sineC n3)) (crY (wxC n2 e2) (wyC n2 e2) (sineC n2) (wxC n3 e3) (wyC n3 e3) (sineC n3)) (crZ (wxC n2 e2) (wyC n2 e2) (sineC n2) (wxC n3 e3) (wyC n3 e3) (sineC n3))) (fop .add .f32 (wxC n0 e0) (wxC n1 e1)) (fop .add .f32 (wyC n0 e0) (wyC n1 e1)) (fop .add .f32 (sineC n0) (sineC n1))) 0 = true) (KP : Hb (∀ w, Calls Try.prog 50 #[wy (ngf (crX (crX (wxC n0 e0) (wyC n0 e0) (sineC n0) (wxC n1 e1) (wyC n1 e1) (sineC n1)) (crY (wxC n0 e0) (wyC n0 e0) (sineC n0) (wxC n1 e1) (wyC n1 e1) (sineC n1)) (crZ (wxC n0 e0) (wyC n0 e0) (sineC n0) (wxC n1 e1) (wyC n1 e1) (sineC n1)) (crX (wxC n2 e2) (wyC n2 e2) (sineC n2) (wxC n3 e3) (wyC n3 e3) (sineC n3)) (crY (wxC n2 e2) (wyC n2 e2) (sineC n2) (wxC n3 e3) (wyC n3 e3) (sineC n3)) (crZ (wxC n2 e2) (wyC n2 e2) (sineC n2) (wxC n3 e3) (wyC n3 e3) (sineC n3)))) (ngf (crY (crX (wxC n0 e0) (wyC n0 e0) (sineC n0) (wxC n1 e1) (wyC n1 e1) (sineC n1)) (crY (wxC n0 e0) (wyC n0 e0) (sineC n0) (wxC n1 e1) (wyC n1 e1) (sineC n1)) (crZ (wxC n0 e0) (wyC n0 e0) (sineC n0) (wxC n1 e1) (wyC n1 e1) (sineC n1)) (crX (wxC n2 e2) (wyC n2 e2) (sineC n2) (wxC n3 e3) (wyC n3 e3) (sineC n3)) (crY (wxC n2 e2) (wyC n2 e2) (sineC n2) (wxC n3 e3) (wyC n3 e3) (sineC n3)) (crZ (wxC n2 e2) (wyC n2 e2) (sineC n2) (wxC n3 e3) (wyC n3 e3) (sineC n3)))) (ngf (crZ (crX (wxC n0 e0) (wyC n0 e0) (sineC n0) (wxC n1 e1) (wyC n1 e1) (sineC n1)) (crY (wxC n0 e0) (wyC n0 e0) (sineC n0) (wxC n1 e1) (wyC n1 e1) (sineC n1)) (crZ (wxC n0 e0) (wyC n0 e0) (sineC n0) (wxC n1 e1) (wyC n1 e1) (sineC n1)) (crX (wxC n2 e2) (wyC n2 e2) (sineC n2) (wxC n3 e3) (wyC n3 e3) (sineC n3)) (crY (wxC n2 e2) (wyC n2 e2) (sineC n2) (wxC n3 e3) (wyC n3 e3) (sineC n3)) (crZ (wxC n2 e2) (wyC n2 e2) (sineC n2) (wxC n3 e3) (wyC n3 e3) (sineC n3))))] w (RS (plT X Y ok) w))) (w : World) : Calls Try.prog 15 #[pl n0 e0, pl n1 e1, pl n2 e2, pl n3 e3] w (RS (plT X Y ok) w) := by
  obtain ⟨tn0, te0⟩ := turns_of v0
  have wb0 := Wb.way tn0 te0
  obtain ⟨tn1, te1⟩ := turns_of v1
  have wb1 := Wb.way tn1 te1
  obtain ⟨tn2, te2⟩ := turns_of v2
  have wb2 := Wb.way tn2 te2
  obtain ⟨tn3, te3⟩ := turns_of v3
  have wb3 := Wb.way tn3 te3
  have hm := Meet.of wb0 wb1 wb2 wb3
  have hd := meet_dot hm.m hm.s
  have KAB := Hb.mk (fun w => exactW (l02Cross_any wb0.fx wb0.fy wb0.fz wb1.fx wb1.fy wb1.fz w) hm.ab.ax.fin hm.ab.ay.fin hm.ab.az.fin)
  have KCD := Hb.mk (fun w => exactW (l02Cross_any wb2.fx wb2.fy wb2.fz wb3.fx wb3.fy wb3.fz w) hm.cd.ax.fin hm.cd.ay.fin hm.cd.az.fin)
  have KM := Hb.mk (fun w => exactW (l02Cross_any hm.ab.fx hm.ab.fy hm.ab.fz hm.cd.fx hm.cd.fy hm.cd.fz w) hm.m.ax.fin hm.m.ay.fin hm.m.az.fin)
  have KA := Hb.mk (fun w => exactW (l02Add_any wb0.fx wb0.fy wb0.fz wb1.fx wb1.fy wb1.fz w) hm.s.ax.fin hm.s.ay.fin hm.s.az.fin)
  have KD := Hb.mk (fun w => exactB (l02Dot_any hm.m.fx hm.m.fy hm.m.fz hm.s.fx hm.s.fy hm.s.fz w) hd.fin)
  have MC : Hb ((FloatKind.f32.format.order (dotC (crX (crX (wxC n0 e0) (wyC n0 e0) (sineC n0) (wxC n1 e1) (wyC n1 e1) (sineC n1)) (crY (wxC n0 e0) (wyC n0 e0) (sineC n0) (wxC n1 e1) (wyC n1 e1) (sineC n1)) (crZ (wxC n0 e0) (wyC n0 e0) (sineC n0) (wxC n1 e1) (wyC n1 e1) (sineC n1)) (crX (wxC n2 e2) (wyC n2 e2) (sineC n2) (wxC n3 e3) (wyC n3 e3) (sineC n3)) (crY (wxC n2 e2) (wyC n2 e2) (sineC n2) (wxC n3 e3) (wyC n3 e3) (sineC n3)) (crZ (wxC n2 e2) (wyC n2 e2) (sineC n2) (wxC n3 e3) (wyC n3 e3) (sineC n3))) (crY (crX (wxC n0 e0) (wyC n0 e0) (sineC n0) (wxC n1 e1) (wyC n1 e1) (sineC n1)) (crY (wxC n0 e0) (wyC n0 e0) (sineC n0) (wxC n1 e1) (wyC n1 e1) (sineC n1)) (crZ (wxC n0 e0) (wyC n0 e0) (sineC n0) (wxC n1 e1) (wyC n1 e1) (sineC n1)) (crX (wxC n2 e2) (wyC n2 e2) (sineC n2) (wxC n3 e3) (wyC n3 e3) (sineC n3)) (crY (wxC n2 e2) (wyC n2 e2) (sineC n2) (wxC n3 e3) (wyC n3 e3) (sineC n3)) (crZ (wxC n2 e2) (wyC n2 e2) (sineC n2) (wxC n3 e3) (wyC n3 e3) (sineC n3))) (crZ (crX (wxC n0 e0) (wyC n0 e0) (sineC n0) (wxC n1 e1) (wyC n1 e1) (sineC n1)) (crY (wxC n0 e0) (wyC n0 e0) (sineC n0) (wxC n1 e1) (wyC n1 e1) (sineC n1)) (crZ (wxC n0 e0) (wyC n0 e0) (sineC n0) (wxC n1 e1) (wyC n1 e1) (sineC n1)) (crX (wxC n2 e2) (wyC n2 e2) (sineC n2) (wxC n3 e3) (wyC n3 e3) (sineC n3)) (crY (wxC n2 e2) (wyC n2 e2) (sineC n2) (wxC n3 e3) (wyC n3 e3) (sineC n3)) (crZ (wxC n2 e2) (wyC n2 e2) (sineC n2) (wxC n3 e3) (wyC n3 e3) (sineC n3))) (fop .add .f32 (wxC n0 e0) (wxC n1 e1)) (fop .add .f32 (wyC n0 e0) (wyC n1 e1)) (fop .add .f32 (sineC n0) (sineC n1))) 0 == some Ordering.lt) = true) := ⟨hb⟩
  have KV := l02Two_any f0 h0 f1 h1
  rw [v0, v1] at KV
  have V := Hb.mk KV
  have KV2 := l02Two_any f2 h2 f3 h3
  rw [v2, v3] at KV2
  have V2 := Hb.mk KV2
  have KW0 := Hb.mk (l02Way_any f0 h0 tn0 te0)
  have KW1 := Hb.mk (l02Way_any f1 h1 tn1 te1)
  have KW2 := Hb.mk (l02Way_any f2 h2 tn2 te2)
  have KW3 := Hb.mk (l02Way_any f3 h3 tn3 te3)
  clear hm hd hb KV KV2 v0 tn0 te0 wb0 v1 tn1 te1 wb1 v2 tn2 te2 wb2 v3 tn3 te3 wb3
  generalize dotC (crX (crX (wxC n0 e0) (wyC n0 e0) (sineC n0) (wxC n1 e1) (wyC n1 e1) (sineC n1)) (crY (wxC n0 e0) (wyC n0 e0) (sineC n0) (wxC n1 e1) (wyC n1 e1) (sineC n1)) (crZ (wxC n0 e0) (wyC n0 e0) (sineC n0) (wxC n1 e1) (wyC n1 e1) (sineC n1)) (crX (wxC n2 e2) (wyC n2 e2) (sineC n2) (wxC n3 e3) (wyC n3 e3) (sineC n3)) (crY (wxC n2 e2) (wyC n2 e2) (sineC n2) (wxC n3 e3) (wyC n3 e3) (sineC n3)) (crZ (wxC n2 e2) (wyC n2 e2) (sineC n2) (wxC n3 e3) (wyC n3 e3) (sineC n3))) (crY (crX (wxC n0 e0) (wyC n0 e0) (sineC n0) (wxC n1 e1) (wyC n1 e1) (sineC n1)) (crY (wxC n0 e0) (wyC n0 e0) (sineC n0) (wxC n1 e1) (wyC n1 e1) (sineC n1)) (crZ (wxC n0 e0) (wyC n0 e0) (sineC n0) (wxC n1 e1) (wyC n1 e1) (sineC n1)) (crX (wxC n2 e2) (wyC n2 e2) (sineC n2) (wxC n3 e3) (wyC n3 e3) (sineC n3)) (crY (wxC n2 e2) (wyC n2 e2) (sineC n2) (wxC n3 e3) (wyC n3 e3) (sineC n3)) (crZ (wxC n2 e2) (wyC n2 e2) (sineC n2) (wxC n3 e3) (wyC n3 e3) (sineC n3))) (crZ (crX (wxC n0 e0) (wyC n0 e0) (sineC n0) (wxC n1 e1) (wyC n1 e1) (sineC n1)) (crY (wxC n0 e0) (wyC n0 e0) (sineC n0) (wxC n1 e1) (wyC n1 e1) (sineC n1)) (crZ (wxC n0 e0) (wyC n0 e0) (sineC n0) (wxC n1 e1) (wyC n1 e1) (sineC n1)) (crX (wxC n2 e2) (wyC n2 e2) (sineC n2) (wxC n3 e3) (wyC n3 e3) (sineC n3)) (crY (wxC n2 e2) (wyC n2 e2) (sineC n2) (wxC n3 e3) (wyC n3 e3) (sineC n3)) (crZ (wxC n2 e2) (wyC n2 e2) (sineC n2) (wxC n3 e3) (wyC n3 e3) (sineC n3))) (fop .add .f32 (wxC n0 e0) (wxC n1 e1)) (fop .add .f32 (wyC n0 e0) (wyC n1 e1)) (fop .add .f32 (sineC n0) (sineC n1)) = D at *
  generalize crX (crX (wxC n0 e0) (wyC n0 e0) (sineC n0) (wxC n1 e1) (wyC n1 e1) (sineC n1)) (crY (wxC n0 e0) (wyC n0 e0) (sineC n0) (wxC n1 e1) (wyC n1 e1) (sineC n1)) (crZ (wxC n0 e0) (wyC n0 e0) (sineC n0) (wxC n1 e1) (wyC n1 e1) (sineC n1)) (crX (wxC n2 e2) (wyC n2 e2) (sineC n2) (wxC n3 e3) (wyC n3 e3) (sineC n3)) (crY (wxC n2 e2) (wyC n2 e2) (sineC n2) (wxC n3 e3) (wyC n3 e3) (sineC n3)) (crZ (wxC n2 e2) (wyC n2 e2) (sineC n2) (wxC n3 e3) (wyC n3 e3) (sineC n3)) = M1 at *
  generalize crY (crX (wxC n0 e0) (wyC n0 e0) (sineC n0) (wxC n1 e1) (wyC n1 e1) (sineC n1)) (crY (wxC n0 e0) (wyC n0 e0) (sineC n0) (wxC n1 e1) (wyC n1 e1) (sineC n1)) (crZ (wxC n0 e0) (wyC n0 e0) (sineC n0) (wxC n1 e1) (wyC n1 e1) (sineC n1)) (crX (wxC n2 e2) (wyC n2 e2) (sineC n2) (wxC n3 e3) (wyC n3 e3) (sineC n3)) (crY (wxC n2 e2) (wyC n2 e2) (sineC n2) (wxC n3 e3) (wyC n3 e3) (sineC n3)) (crZ (wxC n2 e2) (wyC n2 e2) (sineC n2) (wxC n3 e3) (wyC n3 e3) (sineC n3)) = M2 at *
  generalize crZ (crX (wxC n0 e0) (wyC n0 e0) (sineC n0) (wxC n1 e1) (wyC n1 e1) (sineC n1)) (crY (wxC n0 e0) (wyC n0 e0) (sineC n0) (wxC n1 e1) (wyC n1 e1) (sineC n1)) (crZ (wxC n0 e0) (wyC n0 e0) (sineC n0) (wxC n1 e1) (wyC n1 e1) (sineC n1)) (crX (wxC n2 e2) (wyC n2 e2) (sineC n2) (wxC n3 e3) (wyC n3 e3) (sineC n3)) (crY (wxC n2 e2) (wyC n2 e2) (sineC n2) (wxC n3 e3) (wyC n3 e3) (sineC n3)) (crZ (wxC n2 e2) (wyC n2 e2) (sineC n2) (wxC n3 e3) (wyC n3 e3) (sineC n3)) = M3 at *
  generalize fop .add .f32 (wxC n0 e0) (wxC n1 e1) = S1 at *
  generalize fop .add .f32 (wyC n0 e0) (wyC n1 e1) = S2 at *
  generalize fop .add .f32 (sineC n0) (sineC n1) = S3 at *
  generalize crX (wxC n0 e0) (wyC n0 e0) (sineC n0) (wxC n1 e1) (wyC n1 e1) (sineC n1) = P1 at *
  generalize crY (wxC n0 e0) (wyC n0 e0) (sineC n0) (wxC n1 e1) (wyC n1 e1) (sineC n1) = P2 at *
  generalize crZ (wxC n0 e0) (wyC n0 e0) (sineC n0) (wxC n1 e1) (wyC n1 e1) (sineC n1) = P3 at *
  generalize crX (wxC n2 e2) (wyC n2 e2) (sineC n2) (wxC n3 e3) (wyC n3 e3) (sineC n3) = Q1 at *
  generalize crY (wxC n2 e2) (wyC n2 e2) (sineC n2) (wxC n3 e3) (wyC n3 e3) (sineC n3) = Q2 at *
  generalize crZ (wxC n2 e2) (wyC n2 e2) (sineC n2) (wxC n3 e3) (wyC n3 e3) (sineC n3) = Q3 at *
  generalize wxC n0 e0 = x0 at *
  generalize wyC n0 e0 = y0 at *
  generalize sineC n0 = z0 at *
  generalize wxC n1 e1 = x1 at *
  generalize wyC n1 e1 = y1 at *
  generalize sineC n1 = z1 at *
  generalize wxC n2 e2 = x2 at *
  generalize wyC n2 e2 = y2 at *
  generalize sineC n2 = z2 at *
  generalize wxC n3 e3 = x3 at *
  generalize wyC n3 e3 = y3 at *
  generalize sineC n3 = z3 at *
  have B0 := Hb.mk (Below.refl w.heap.size w)
  go_enter Try.func15, Try.ntmps15
  go_wp2_with (first | (go_at_call_of 45 (Value.float .f32 n0); go_at_call_of 45 (Value.float .f32 n1); refine (V.out _).mono ?_; rintro ex w1 ⟨rfl, b1⟩; have B1 := Hb.mk (Below.on (B := w.heap.size) (a := w) (by repeat (first | exact B0.out | refine Below.drews ?_ | refine Below.drew ?_ | refine Below.alloc ?_ (by have hq_ := B0.out.size; first | omega | (simp <;> omega)) _ | refine Below.setCell ?_ (by have hq_ := B0.out.size; first | omega | (simp <;> omega)) _)) b1 (by have hq_ := B0.out.size; first | omega | (simp <;> omega))); have b00 := Hb.mk (At.keep b1 (p := ⟨w.heap.size, 0, none⟩) (v := .float .f32 n0) (by simp [go_sem]) (by simp [go_sem])); obtain ⟨b00c, b00z, b00l⟩ := b00.out; have b01 := Hb.mk (At.keep b1 (p := ⟨w.heap.size, 1, none⟩) (v := .float .f32 e0) (by simp [go_sem]) (by simp [go_sem])); obtain ⟨b01c, b01z, b01l⟩ := b01.out; have b10 := Hb.mk (At.keep b1 (p := ⟨w.heap.size + 1, 0, none⟩) (v := .float .f32 n1) (by simp [go_sem]) (by simp [go_sem])); obtain ⟨b10c, b10z, b10l⟩ := b10.out; have b11 := Hb.mk (At.keep b1 (p := ⟨w.heap.size + 1, 1, none⟩) (v := .float .f32 e1) (by simp [go_sem]) (by simp [go_sem])); obtain ⟨b11c, b11z, b11l⟩ := b11.out; have b20 := Hb.mk (At.keep b1 (p := ⟨w.heap.size + 2, 0, none⟩) (v := .float .f32 n2) (by simp [go_sem]) (by simp [go_sem])); obtain ⟨b20c, b20z, b20l⟩ := b20.out; have b21 := Hb.mk (At.keep b1 (p := ⟨w.heap.size + 2, 1, none⟩) (v := .float .f32 e2) (by simp [go_sem]) (by simp [go_sem])); obtain ⟨b21c, b21z, b21l⟩ := b21.out; have b30 := Hb.mk (At.keep b1 (p := ⟨w.heap.size + 3, 0, none⟩) (v := .float .f32 n3) (by simp [go_sem]) (by simp [go_sem])); obtain ⟨b30c, b30z, b30l⟩ := b30.out; have b31 := Hb.mk (At.keep b1 (p := ⟨w.heap.size + 3, 1, none⟩) (v := .float .f32 e3) (by simp [go_sem]) (by simp [go_sem])); obtain ⟨b31c, b31z, b31l⟩ := b31.out; have r0 := Hb.mk (At.keep b1 (p := ⟨w.heap.size + 4, 0, none⟩) (v := .float .f32 0) (by simp [go_sem]) (by simp [go_sem])); obtain ⟨r0c, r0z, r0l⟩ := r0.out; have r1 := Hb.mk (At.keep b1 (p := ⟨w.heap.size + 4, 1, none⟩) (v := .float .f32 0) (by simp [go_sem]) (by simp [go_sem])); obtain ⟨r1c, r1z, r1l⟩ := r1.out; clear b1) | (go_at_call_of 45 (Value.float .f32 n2); refine (V2.out _).mono ?_; rintro ex w2 ⟨rfl, b2⟩; have B2 := Hb.mk (Below.on (B := w.heap.size) (a := w) (by repeat (first | exact B1.out | refine Below.drews ?_ | refine Below.drew ?_ | refine Below.alloc ?_ (by have hq_ := B1.out.size; first | omega | (simp <;> omega)) _ | refine Below.setCell ?_ (by have hq_ := B1.out.size; first | omega | (simp <;> omega)) _)) b2 (by have hq_ := B1.out.size; first | omega | (simp <;> omega))); have b00 := Hb.mk (At.re b00.out b2 (by first | exact b00c | simp [go_sem, b00c, b00l]) (by first | exact b00z | simp [go_sem, b00z, b00l])); obtain ⟨b00c, b00z, b00l⟩ := b00.out; have b01 := Hb.mk (At.re b01.out b2 (by first | exact b01c | simp [go_sem, b01c, b01l]) (by first | exact b01z | simp [go_sem, b01z, b01l])); obtain ⟨b01c, b01z, b01l⟩ := b01.out; have b10 := Hb.mk (At.re b10.out b2 (by first | exact b10c | simp [go_sem, b10c, b10l]) (by first | exact b10z | simp [go_sem, b10z, b10l])); obtain ⟨b10c, b10z, b10l⟩ := b10.out; have b11 := Hb.mk (At.re b11.out b2 (by first | exact b11c | simp [go_sem, b11c, b11l]) (by first | exact b11z | simp [go_sem, b11z, b11l])); obtain ⟨b11c, b11z, b11l⟩ := b11.out; have b20 := Hb.mk (At.re b20.out b2 (by first | exact b20c | simp [go_sem, b20c, b20l]) (by first | exact b20z | simp [go_sem, b20z, b20l])); obtain ⟨b20c, b20z, b20l⟩ := b20.out; have b21 := Hb.mk (At.re b21.out b2 (by first | exact b21c | simp [go_sem, b21c, b21l]) (by first | exact b21z | simp [go_sem, b21z, b21l])); obtain ⟨b21c, b21z, b21l⟩ := b21.out; have b30 := Hb.mk (At.re b30.out b2 (by first | exact b30c | simp [go_sem, b30c, b30l]) (by first | exact b30z | simp [go_sem, b30z, b30l])); obtain ⟨b30c, b30z, b30l⟩ := b30.out; have b31 := Hb.mk (At.re b31.out b2 (by first | exact b31c | simp [go_sem, b31c, b31l]) (by first | exact b31z | simp [go_sem, b31z, b31l])); obtain ⟨b31c, b31z, b31l⟩ := b31.out; have r0 := Hb.mk (At.re r0.out b2 (by first | exact r0c | simp [go_sem, r0c, r0l]) (by first | exact r0z | simp [go_sem, r0z, r0l])); obtain ⟨r0c, r0z, r0l⟩ := r0.out; have r1 := Hb.mk (At.re r1.out b2 (by first | exact r1c | simp [go_sem, r1c, r1l]) (by first | exact r1z | simp [go_sem, r1z, r1l])); obtain ⟨r1c, r1z, r1l⟩ := r1.out; clear b2))
  refine region_fresh (o := ?o1) 11 (by kernel_rfl) (by kernel_rfl) (by kernel_rfl) rfl rfl rfl (fun a w => ?hA1) (fun I1 F1 hne1 HB1 => ?h1)
  case hA1 =>
    go_simp
    try rfl
  have p00 := keepF HB1 (p := ⟨w.heap.size, 0, none⟩) (v := .float .f32 n0) b00c
  have p01 := keepF HB1 (p := ⟨w.heap.size, 1, none⟩) (v := .float .f32 e0) b01c
  have p10 := keepF HB1 (p := ⟨w.heap.size + 1, 0, none⟩) (v := .float .f32 n1) b10c
  have p11 := keepF HB1 (p := ⟨w.heap.size + 1, 1, none⟩) (v := .float .f32 e1) b11c
  have p20 := keepF HB1 (p := ⟨w.heap.size + 2, 0, none⟩) (v := .float .f32 n2) b20c
  have p21 := keepF HB1 (p := ⟨w.heap.size + 2, 1, none⟩) (v := .float .f32 e2) b21c
  have p30 := keepF HB1 (p := ⟨w.heap.size + 3, 0, none⟩) (v := .float .f32 n3) b30c
  have p31 := keepF HB1 (p := ⟨w.heap.size + 3, 1, none⟩) (v := .float .f32 e3) b31c
  have g0 := keepF HB1 (p := ⟨w.heap.size + 4, 0, none⟩) (v := .float .f32 0) (by first | exact r0c | simp [go_sem, r0c])
  have gz0 := keepZ HB1 (p := ⟨w.heap.size + 4, 0, none⟩) (by first | exact r0l | simp [go_sem, r0l]) (by first | exact r0z | simp [go_sem, r0z])
  have g1 := keepF HB1 (p := ⟨w.heap.size + 4, 1, none⟩) (v := .float .f32 0) (by first | exact r1c | simp [go_sem, r1c])
  have gz1 := keepZ HB1 (p := ⟨w.heap.size + 4, 1, none⟩) (by first | exact r1l | simp [go_sem, r1l]) (by first | exact r1z | simp [go_sem, r1z])
  simp only [List.take_succ_cons, List.take_zero, List.drop_succ_cons, List.drop_zero]
  repeat (refine lex_step (fun K hK => ?_); go_simp; first | (refine hK _ ?_; clear hK K) | (apply Exists.intro; refine ⟨fun _ => ?_, hK _ ?_⟩; (first | (go_at_call_of 47 (Value.float .f32 n0); exact callR (KW0.out _)) | (go_at_call_of 47 (Value.float .f32 n1); exact callR (KW1.out _)) | (go_at_call_of 47 (Value.float .f32 n2); exact callR (KW2.out _)) | (go_at_call_of 47 (Value.float .f32 n3); exact callR (KW3.out _)) | (go_at_call_of 46 (wy x0 y0 z0); exact callR (KAB.out _)) | (go_at_call_of 46 (wy x2 y2 z2); exact callR (KCD.out _)) | (go_at_call_of 46 (wy P1 P2 P3); exact callR (KM.out _))); clear hK K))
  refine lex_nil ?_
  intro i1 wq hb1
  have bF1 : Below (F1 i1).heap.size (F1 i1) wq := Below.on ((Below.refl _ _).alloc (Nat.le_refl _) _) hb1 (by simp)
  have d0 := Below.keep hb1 (p := ⟨(F1 i1).heap.size, 0, none⟩) (v := .float .f32 0) (by simp)
  have z0z : wq.frozen? ⟨(F1 i1).heap.size, 0, none⟩ = false := by rw [hb1.frozen (by simp)]; simp
  have d1 := Below.keep hb1 (p := ⟨(F1 i1).heap.size, 1, none⟩) (v := .float .f32 0) (by simp)
  have z1z : wq.frozen? ⟨(F1 i1).heap.size, 1, none⟩ = false := by rw [hb1.frozen (by simp)]; simp
  have d2 := Below.keep hb1 (p := ⟨(F1 i1).heap.size, 2, none⟩) (v := .float .f32 0) (by simp)
  have z2z : wq.frozen? ⟨(F1 i1).heap.size, 2, none⟩ = false := by rw [hb1.frozen (by simp)]; simp
  have kp00 := Below.keep bF1 (p00 i1)
  have kp01 := Below.keep bF1 (p01 i1)
  have kp10 := Below.keep bF1 (p10 i1)
  have kp11 := Below.keep bF1 (p11 i1)
  have kp20 := Below.keep bF1 (p20 i1)
  have kp21 := Below.keep bF1 (p21 i1)
  have kp30 := Below.keep bF1 (p30 i1)
  have kp31 := Below.keep bF1 (p31 i1)
  have kg0 := Below.keep bF1 (g0 i1)
  have kz0 : wq.frozen? ⟨w.heap.size + 4, 0, none⟩ = false := by rw [bF1.frozen (block_lt_of_cell (g0 i1))]; exact gz0 i1
  have kg1 := Below.keep bF1 (g1 i1)
  have kz1 : wq.frozen? ⟨w.heap.size + 4, 1, none⟩ = false := by rw [bF1.frozen (block_lt_of_cell (g1 i1))]; exact gz1 i1
  have lt1 : (F1 i1).heap.size < wq.heap.size := by have := hb1.size; simp at this; omega
  have hs1 := (HB1.out i1).size
  have EF1 := Hb.mk (Below.on (HB1.out i1) bF1 (HB1.out i1).size)
  have lg := block_lt_of_cell (g0 i1)
  simp at lg
  have n0_ : w.heap.size ≠ (F1 i1).heap.size := by omega
  have n1_ : w.heap.size + 1 ≠ (F1 i1).heap.size := by omega
  have n2_ : w.heap.size + 2 ≠ (F1 i1).heap.size := by omega
  have n3_ : w.heap.size + 3 ≠ (F1 i1).heap.size := by omega
  have n4_ : w.heap.size + 4 ≠ (F1 i1).heap.size := by omega
  go_wp2
  generalize hW : World.setCell (World.setCell (World.setCell (wq) ⟨(F1 i1).heap.size, 0, none⟩ (.float .f32 M1)) ⟨(F1 i1).heap.size, 1, none⟩ (.float .f32 M2)) ⟨(F1 i1).heap.size, 2, none⟩ (.float .f32 M3) = U
  have up00 : U.cell? ⟨w.heap.size, 0, none⟩ = some (.float .f32 n0) := by rw [← hW]; first | simp [go_sem, kp00] | simp [go_sem, kp00, n0_]
  have up01 : U.cell? ⟨w.heap.size, 1, none⟩ = some (.float .f32 e0) := by rw [← hW]; first | simp [go_sem, kp01] | simp [go_sem, kp01, n0_]
  have up10 : U.cell? ⟨w.heap.size + 1, 0, none⟩ = some (.float .f32 n1) := by rw [← hW]; first | simp [go_sem, kp10] | simp [go_sem, kp10, n1_]
  have up11 : U.cell? ⟨w.heap.size + 1, 1, none⟩ = some (.float .f32 e1) := by rw [← hW]; first | simp [go_sem, kp11] | simp [go_sem, kp11, n1_]
  have up20 : U.cell? ⟨w.heap.size + 2, 0, none⟩ = some (.float .f32 n2) := by rw [← hW]; first | simp [go_sem, kp20] | simp [go_sem, kp20, n2_]
  have up21 : U.cell? ⟨w.heap.size + 2, 1, none⟩ = some (.float .f32 e2) := by rw [← hW]; first | simp [go_sem, kp21] | simp [go_sem, kp21, n2_]
  have up30 : U.cell? ⟨w.heap.size + 3, 0, none⟩ = some (.float .f32 n3) := by rw [← hW]; first | simp [go_sem, kp30] | simp [go_sem, kp30, n3_]
  have up31 : U.cell? ⟨w.heap.size + 3, 1, none⟩ = some (.float .f32 e3) := by rw [← hW]; first | simp [go_sem, kp31] | simp [go_sem, kp31, n3_]
  have ug0 : U.cell? ⟨w.heap.size + 4, 0, none⟩ = some (.float .f32 0) := by rw [← hW]; first | simp [go_sem, kg0] | simp [go_sem, kg0, n4_]
  have uz0 : U.frozen? ⟨w.heap.size + 4, 0, none⟩ = false := by rw [← hW]; simp [go_sem, kz0]
  have ug1 : U.cell? ⟨w.heap.size + 4, 1, none⟩ = some (.float .f32 0) := by rw [← hW]; first | simp [go_sem, kg1] | simp [go_sem, kg1, n4_]
  have uz1 : U.frozen? ⟨w.heap.size + 4, 1, none⟩ = false := by rw [← hW]; simp [go_sem, kz1]
  have um0 : U.cell? ⟨(F1 i1).heap.size, 0, none⟩ = some (.float .f32 M1) := by rw [← hW]; simp [go_sem, d0]
  have uy0 : U.frozen? ⟨(F1 i1).heap.size, 0, none⟩ = false := by rw [← hW]; simp [go_sem, z0z]
  have um1 : U.cell? ⟨(F1 i1).heap.size, 1, none⟩ = some (.float .f32 M2) := by rw [← hW]; simp [go_sem, d1]
  have uy1 : U.frozen? ⟨(F1 i1).heap.size, 1, none⟩ = false := by rw [← hW]; simp [go_sem, z1z]
  have um2 : U.cell? ⟨(F1 i1).heap.size, 2, none⟩ = some (.float .f32 M3) := by rw [← hW]; simp [go_sem, d2]
  have uy2 : U.frozen? ⟨(F1 i1).heap.size, 2, none⟩ = false := by rw [← hW]; simp [go_sem, z2z]
  have lU : (F1 i1).heap.size < U.heap.size := by rw [← hW]; simp; exact lt1
  have hq : w.heap.size ≤ (F1 i1).heap.size := by omega
  have BU := Hb.mk (show Below w.heap.size w U by
    rw [← hW]
    refine Below.setCell ?_ (by show w.heap.size ≤ (F1 i1).heap.size; exact hq) _
    refine Below.setCell ?_ (by show w.heap.size ≤ (F1 i1).heap.size; exact hq) _
    refine Below.setCell ?_ (by show w.heap.size ≤ (F1 i1).heap.size; exact hq) _
    exact (by repeat (first | exact Below.refl _ _ | refine Below.on ?_ EF1.out (by first | omega | (simp <;> omega)) | exact B2.out | refine Below.drews ?_ | refine Below.drew ?_ | refine Below.alloc ?_ (by first | omega | (simp <;> omega)) _ | refine Below.setCell ?_ (by first | omega | (simp <;> omega)) _)))
  generalize (F1 i1).heap.size = N at *
  clear hW HB1 EF1 bF1 hb1 lt1 hs1 p00 p01 p10 p11 p20 p21 p30 p31 kp00 kp01 kp10 kp11 kp20 kp21 kp30 kp31 g0 g1 gz0 gz1 kg0 kg1 kz0 kz1 d0 z0z d1 z1z d2 z2z
  refine region_all (by kernel_rfl) (by kernel_rfl) (fun I2 F2 hne2 HB2 hcl => ?_)
  have vp00 := keepF HB2 (p := ⟨w.heap.size, 0, none⟩) (v := .float .f32 n0) up00
  have vp01 := keepF HB2 (p := ⟨w.heap.size, 1, none⟩) (v := .float .f32 e0) up01
  have vp10 := keepF HB2 (p := ⟨w.heap.size + 1, 0, none⟩) (v := .float .f32 n1) up10
  have vp11 := keepF HB2 (p := ⟨w.heap.size + 1, 1, none⟩) (v := .float .f32 e1) up11
  have vm0 := keepF HB2 (p := ⟨N, 0, none⟩) (v := .float .f32 M1) um0
  have vy0 := keepZ HB2 (p := ⟨N, 0, none⟩) lU uy0
  have vm1 := keepF HB2 (p := ⟨N, 1, none⟩) (v := .float .f32 M2) um1
  have vy1 := keepZ HB2 (p := ⟨N, 1, none⟩) lU uy1
  have vm2 := keepF HB2 (p := ⟨N, 2, none⟩) (v := .float .f32 M3) um2
  have vy2 := keepZ HB2 (p := ⟨N, 2, none⟩) lU uy2
  have lG : w.heap.size + 4 < U.heap.size := block_lt_of_cell ug0
  have vg0 := keepF HB2 (p := ⟨w.heap.size + 4, 0, none⟩) (v := .float .f32 0) ug0
  have vz0 := keepZ HB2 (p := ⟨w.heap.size + 4, 0, none⟩) lG uz0
  have vg1 := keepF HB2 (p := ⟨w.heap.size + 4, 1, none⟩) (v := .float .f32 0) ug1
  have vz1 := keepZ HB2 (p := ⟨w.heap.size + 4, 1, none⟩) lG uz1
  have mC := MC.out
  repeat (quiet_step (first | (go_at_call_of 47 (Value.float .f32 n0); exact callS hcl (KW0.out _)) | (go_at_call_of 47 (Value.float .f32 n1); exact callS hcl (KW1.out _)) | (go_at_call 49; exact callS hcl (KA.out _)) | (go_at_call 48; exact callS hcl (KD.out _))))
  refine wpQuiet_nil ?_
  intro _ hw'
  obtain ⟨i2, rfl⟩ := hw'
  clear hcl mC
  have xm0 := vm0 i2
  have xy0 := vy0 i2
  have xm1 := vm1 i2
  have xy1 := vy1 i2
  have xm2 := vm2 i2
  have xy2 := vy2 i2
  have xg0 := vg0 i2
  have xz0 := vz0 i2
  have xg1 := vg1 i2
  have xz1 := vz1 i2
  have BQ := Hb.mk (Below.on BU.out (HB2.out i2) BU.out.size)
  have ln : N < (F2 i2).heap.size := block_lt_of_cell xm0
  have lg2 : w.heap.size + 4 < (F2 i2).heap.size := block_lt_of_cell xg0
  have n4' : w.heap.size + 4 ≠ N := n4_
  have n4'' : N ≠ w.heap.size + 4 := Ne.symm n4_
  clear HB2 BU up00 up01 up10 up11 up20 up21 up30 up31 ug0 ug1 uz0 uz1 um0 um1 um2 uy0 uy1 uy2 vp00 vp01 vp10 vp11 vm0 vm1 vm2 vy0 vy1 vy2 vg0 vg1 vz0 vz1
  go_wp2_with (first | (go_at_call 50; refine (KP.out _).mono ?_; rintro ex w5 ⟨rfl, b5⟩; have s0 := Hb.mk (At.keep b5 (p := ⟨w.heap.size + 4, 0, none⟩) (v := .float .f32 0) (by simp [go_sem, xg0, xg1, xz0, xz1, n4', n4'']) (by simp [go_sem, xg0, xg1, xz0, xz1, n4', n4''])); have s1 := Hb.mk (At.keep b5 (p := ⟨w.heap.size + 4, 1, none⟩) (v := .float .f32 0) (by simp [go_sem, xg0, xg1, xz0, xz1, n4', n4'']) (by simp [go_sem, xg0, xg1, xz0, xz1, n4', n4''])); obtain ⟨s0c, s0z, s0l⟩ := s0.out; obtain ⟨s1c, s1z, s1l⟩ := s1.out; have E5 := Hb.mk b5; clear b5))
  have sN : w.heap.size ≤ N := hq
  exact bodyPost_ret (v := plT X Y ok) (by simp [results, Try.results15, go_sem, s0c, s1c]) rfl ⟨rfl, (by repeat (first | exact Below.refl _ _ | refine Below.on ?_ E5.out (by first | omega | (simp <;> omega)) | exact BQ.out | refine Below.drews ?_ | refine Below.drew ?_ | refine Below.alloc ?_ (by first | omega | (simp <;> omega)) _ | refine Below.setCell ?_ (by first | omega | (simp <;> omega)) _))⟩
theorem sMeet_no1 {n0 e0 n1 e1 n2 e2 n3 e3 : Nat} {c0 c1 c2 c3 : Nat} (f0 : Fl .f32 c0 n0) (h0 : Fl .f32 c1 e0) (f1 : Fl .f32 c2 n1) (h1 : Fl .f32 c3 e1) (v : (validC c0 c1 && validC c2 c3) = false) (w : World) : Calls Try.prog 15 #[pl n0 e0, pl n1 e1, pl n2 e2, pl n3 e3] w (RS (plT 0 0 false) w) := by
  have KV := l02Two_any f0 h0 f1 h1
  rw [v] at KV
  have V := Hb.mk KV
  clear KV v
  have B0 := Hb.mk (Below.refl w.heap.size w)
  go_enter Try.func15, Try.ntmps15
  go_wp2_with (first | (go_at_call 45; refine (V.out _).mono ?_; rintro ex w1 ⟨rfl, b1⟩; have B1 := Hb.mk (Below.on (B := w.heap.size) (a := w) (by repeat (first | exact B0.out | refine Below.drews ?_ | refine Below.drew ?_ | refine Below.alloc ?_ (by have hq_ := B0.out.size; first | omega | (simp <;> omega)) _ | refine Below.setCell ?_ (by have hq_ := B0.out.size; first | omega | (simp <;> omega)) _)) b1 (by have hq_ := B0.out.size; first | omega | (simp <;> omega))); have r0 := Hb.mk (At.keep b1 (p := ⟨w.heap.size + 4, 0, none⟩) (v := .float .f32 0) (by simp [go_sem]) (by simp [go_sem])); obtain ⟨r0c, r0z, r0l⟩ := r0.out; have r1 := Hb.mk (At.keep b1 (p := ⟨w.heap.size + 4, 1, none⟩) (v := .float .f32 0) (by simp [go_sem]) (by simp [go_sem])); obtain ⟨r1c, r1z, r1l⟩ := r1.out; clear b1))
  exact bodyPost_ret (v := plT 0 0 false) (by simp [results, Try.results15, go_sem, r0c, r1c]) rfl ⟨rfl, (by repeat (first | exact Below.refl _ _ | exact B1.out | refine Below.drews ?_ | refine Below.drew ?_ | refine Below.alloc ?_ (by first | omega | (simp <;> omega)) _ | refine Below.setCell ?_ (by first | omega | (simp <;> omega)) _))⟩
theorem sMeet_no2 {n0 e0 n1 e1 n2 e2 n3 e3 : Nat} {c0 c1 c2 c3 : Nat} (f0 : Fl .f32 n0 n0) (h0 : Fl .f32 e0 e0) (f1 : Fl .f32 n1 n1) (h1 : Fl .f32 e1 e1) (f2 : Fl .f32 c0 n2) (h2 : Fl .f32 c1 e2) (f3 : Fl .f32 c2 n3) (h3 : Fl .f32 c3 e3) (v0 : validC n0 e0 = true) (v1 : validC n1 e1 = true) (v : (validC c0 c1 && validC c2 c3) = false) (w : World) : Calls Try.prog 15 #[pl n0 e0, pl n1 e1, pl n2 e2, pl n3 e3] w (RS (plT 0 0 false) w) := by
  have KV := l02Two_any f0 h0 f1 h1
  rw [v0, v1] at KV
  have V := Hb.mk KV
  have KV2 := l02Two_any f2 h2 f3 h3
  rw [v] at KV2
  have V2 := Hb.mk KV2
  clear KV KV2 v v0 v1
  have B0 := Hb.mk (Below.refl w.heap.size w)
  go_enter Try.func15, Try.ntmps15
  have tk_k : True := trivial; have tk_l : True := trivial
  go_wp2_with (first | (go_at_call 45; clear tk_k; refine (V.out _).mono ?_; rintro ex w1 ⟨rfl, b1⟩; have B1 := Hb.mk (Below.on (B := w.heap.size) (a := w) (by repeat (first | exact B0.out | refine Below.drews ?_ | refine Below.drew ?_ | refine Below.alloc ?_ (by have hq_ := B0.out.size; first | omega | (simp <;> omega)) _ | refine Below.setCell ?_ (by have hq_ := B0.out.size; first | omega | (simp <;> omega)) _)) b1 (by have hq_ := B0.out.size; first | omega | (simp <;> omega))); have b00 := Hb.mk (At.keep b1 (p := ⟨w.heap.size, 0, none⟩) (v := .float .f32 n0) (by simp [go_sem]) (by simp [go_sem])); obtain ⟨b00c, b00z, b00l⟩ := b00.out; have b01 := Hb.mk (At.keep b1 (p := ⟨w.heap.size, 1, none⟩) (v := .float .f32 e0) (by simp [go_sem]) (by simp [go_sem])); obtain ⟨b01c, b01z, b01l⟩ := b01.out; have b10 := Hb.mk (At.keep b1 (p := ⟨w.heap.size + 1, 0, none⟩) (v := .float .f32 n1) (by simp [go_sem]) (by simp [go_sem])); obtain ⟨b10c, b10z, b10l⟩ := b10.out; have b11 := Hb.mk (At.keep b1 (p := ⟨w.heap.size + 1, 1, none⟩) (v := .float .f32 e1) (by simp [go_sem]) (by simp [go_sem])); obtain ⟨b11c, b11z, b11l⟩ := b11.out; have b20 := Hb.mk (At.keep b1 (p := ⟨w.heap.size + 2, 0, none⟩) (v := .float .f32 n2) (by simp [go_sem]) (by simp [go_sem])); obtain ⟨b20c, b20z, b20l⟩ := b20.out; have b21 := Hb.mk (At.keep b1 (p := ⟨w.heap.size + 2, 1, none⟩) (v := .float .f32 e2) (by simp [go_sem]) (by simp [go_sem])); obtain ⟨b21c, b21z, b21l⟩ := b21.out; have b30 := Hb.mk (At.keep b1 (p := ⟨w.heap.size + 3, 0, none⟩) (v := .float .f32 n3) (by simp [go_sem]) (by simp [go_sem])); obtain ⟨b30c, b30z, b30l⟩ := b30.out; have b31 := Hb.mk (At.keep b1 (p := ⟨w.heap.size + 3, 1, none⟩) (v := .float .f32 e3) (by simp [go_sem]) (by simp [go_sem])); obtain ⟨b31c, b31z, b31l⟩ := b31.out; have r0 := Hb.mk (At.keep b1 (p := ⟨w.heap.size + 4, 0, none⟩) (v := .float .f32 0) (by simp [go_sem]) (by simp [go_sem])); obtain ⟨r0c, r0z, r0l⟩ := r0.out; have r1 := Hb.mk (At.keep b1 (p := ⟨w.heap.size + 4, 1, none⟩) (v := .float .f32 0) (by simp [go_sem]) (by simp [go_sem])); obtain ⟨r1c, r1z, r1l⟩ := r1.out; clear b1) | (go_at_call 45; clear tk_l; refine (V2.out _).mono ?_; rintro ex w2 ⟨rfl, b2⟩; have B2 := Hb.mk (Below.on (B := w.heap.size) (a := w) (by repeat (first | exact B1.out | refine Below.drews ?_ | refine Below.drew ?_ | refine Below.alloc ?_ (by have hq_ := B1.out.size; first | omega | (simp <;> omega)) _ | refine Below.setCell ?_ (by have hq_ := B1.out.size; first | omega | (simp <;> omega)) _)) b2 (by have hq_ := B1.out.size; first | omega | (simp <;> omega))); have r0 := Hb.mk (At.re r0.out b2 (by first | exact r0c | simp [go_sem, r0c, r0l]) (by first | exact r0z | simp [go_sem, r0z, r0l])); obtain ⟨r0c, r0z, r0l⟩ := r0.out; have r1 := Hb.mk (At.re r1.out b2 (by first | exact r1c | simp [go_sem, r1c, r1l]) (by first | exact r1z | simp [go_sem, r1z, r1l])); obtain ⟨r1c, r1z, r1l⟩ := r1.out; clear b2))
  exact bodyPost_ret (v := plT 0 0 false) (by simp [results, Try.results15, go_sem, r0c, r1c]) rfl ⟨rfl, (by repeat (first | exact Below.refl _ _ | exact B2.out | refine Below.drews ?_ | refine Below.drew ?_ | refine Below.alloc ?_ (by first | omega | (simp <;> omega)) _ | refine Below.setCell ?_ (by first | omega | (simp <;> omega)) _))⟩
set_option maxHeartbeats 4000000 in
theorem law_MeetOfWays_of {a0 b0 a1 b1 a2 b2 a3 b3 X Y : Nat} {ok : Bool} (KS : Hb (∀ w, Calls Try.prog 15 #[pl a0 b0, pl a1 b1, pl a2 b2, pl a3 b3] w (RS (plT X Y ok) w))) (KG : Hb (∀ w, Calls Try.prog 17 #[pl a0 b0, pl a1 b1, pl a2 b2, pl a3 b3] w (RS (plT X Y ok) w))) (f0 : Fl .f32 X X) (f1 : Fl .f32 Y Y) (w : World) :
    Calls Try.prog 3 #[pl a0 b0, pl a1 b1, pl a2 b2, pl a3 b3] w (RS (.bool true) w) := by
  have B0 := Hb.mk (Below.refl w.heap.size w)
  cases ok
  all_goals
    go_enter Try.func3, Try.ntmps3
    go_wp2
    refine region_freshl (o := ?o1) 12 11 (by kernel_rfl) (by kernel_rfl) (by kernel_rfl) rfl rfl (extract_pure rfl) (fun d v c a w h => by cases d <;> exact h) rfl rfl (fun a w => ?hA1) (fun I1 F1 hne1 HB1 => ?h1)
    case hA1 =>
      go_simp
      try rfl
    case h1 =>
      have p1_0_0 := keepF HB1 (p := ⟨w.heap.size, 0, none⟩) (v := .float .f32 a0) (by first | simp | simp [go_sem])
      have p1_0_1 := keepF HB1 (p := ⟨w.heap.size, 1, none⟩) (v := .float .f32 b0) (by first | simp | simp [go_sem])
      have p1_1_0 := keepF HB1 (p := ⟨w.heap.size + 1, 0, none⟩) (v := .float .f32 a1) (by first | simp | simp [go_sem])
      have p1_1_1 := keepF HB1 (p := ⟨w.heap.size + 1, 1, none⟩) (v := .float .f32 b1) (by first | simp | simp [go_sem])
      have p1_2_0 := keepF HB1 (p := ⟨w.heap.size + 2, 0, none⟩) (v := .float .f32 a2) (by first | simp | simp [go_sem])
      have p1_2_1 := keepF HB1 (p := ⟨w.heap.size + 2, 1, none⟩) (v := .float .f32 b2) (by first | simp | simp [go_sem])
      have p1_3_0 := keepF HB1 (p := ⟨w.heap.size + 3, 0, none⟩) (v := .float .f32 a3) (by first | simp | simp [go_sem])
      have p1_3_1 := keepF HB1 (p := ⟨w.heap.size + 3, 1, none⟩) (v := .float .f32 b3) (by first | simp | simp [go_sem])
      simp only [List.take_succ_cons, List.take_zero, List.drop_succ_cons, List.drop_zero]
      repeat (refine lex_step (fun K hK => ?_); go_simp; first | (refine hK _ ?_; clear hK K) | (apply Exists.intro; refine ⟨fun _ => ?_, hK _ ?_⟩; (first | (go_at_call 16; exact callR (toPlace_any _ _ _)) | (go_at_call 15; exact callR (KS.out _)) | (go_at_call 17; exact callR (KG.out _))); clear hK K))
      refine lex_nil ?_
      intro i1 w1 hb1
      have bF1 : Below (F1 i1).heap.size (F1 i1) w1 := Below.on ((Below.refl _ _).alloc (Nat.le_refl _) _) hb1 (by simp)
      have d1_0 := Below.keep hb1 (p := ⟨(F1 i1).heap.size, 0, none⟩) (v := .float .f32 0) (by simp)
      have z1_0 : w1.frozen? ⟨(F1 i1).heap.size, 0, none⟩ = false := by rw [hb1.frozen (by simp)]; simp
      have d1_1 := Below.keep hb1 (p := ⟨(F1 i1).heap.size, 1, none⟩) (v := .float .f32 0) (by simp)
      have z1_1 : w1.frozen? ⟨(F1 i1).heap.size, 1, none⟩ = false := by rw [hb1.frozen (by simp)]; simp
      have q1_0_0 := Below.keep bF1 (p1_0_0 i1)
      have q1_0_1 := Below.keep bF1 (p1_0_1 i1)
      have q1_1_0 := Below.keep bF1 (p1_1_0 i1)
      have q1_1_1 := Below.keep bF1 (p1_1_1 i1)
      have q1_2_0 := Below.keep bF1 (p1_2_0 i1)
      have q1_2_1 := Below.keep bF1 (p1_2_1 i1)
      have q1_3_0 := Below.keep bF1 (p1_3_0 i1)
      have q1_3_1 := Below.keep bF1 (p1_3_1 i1)
      have BF1 := Hb.mk (Below.on (HB1.out i1) bF1 (HB1.out i1).size)
      have lt1 : (F1 i1).heap.size < w1.heap.size := by have := hb1.size; simp at this; omega
      have hs1 := (HB1.out i1).size
      simp at hs1
      have n1_0 : w.heap.size ≠ (F1 i1).heap.size := by omega
      have n1_1 : w.heap.size + 1 ≠ (F1 i1).heap.size := by omega
      have n1_2 : w.heap.size + 2 ≠ (F1 i1).heap.size := by omega
      have n1_3 : w.heap.size + 3 ≠ (F1 i1).heap.size := by omega
      go_wp2
      generalize hW : World.setCell (World.setCell (w1) ⟨(F1 i1).heap.size, 0, none⟩ (.float .f32 X)) ⟨(F1 i1).heap.size, 1, none⟩ (.float .f32 Y) = W
      have r1_0_0 : W.cell? ⟨w.heap.size, 0, none⟩ = some (.float .f32 a0) := by rw [← hW]; simp [go_sem, q1_0_0]
      have r1_0_1 : W.cell? ⟨w.heap.size, 1, none⟩ = some (.float .f32 b0) := by rw [← hW]; simp [go_sem, q1_0_1]
      have r1_1_0 : W.cell? ⟨w.heap.size + 1, 0, none⟩ = some (.float .f32 a1) := by rw [← hW]; simp [go_sem, q1_1_0]
      have r1_1_1 : W.cell? ⟨w.heap.size + 1, 1, none⟩ = some (.float .f32 b1) := by rw [← hW]; simp [go_sem, q1_1_1]
      have r1_2_0 : W.cell? ⟨w.heap.size + 2, 0, none⟩ = some (.float .f32 a2) := by rw [← hW]; simp [go_sem, q1_2_0]
      have r1_2_1 : W.cell? ⟨w.heap.size + 2, 1, none⟩ = some (.float .f32 b2) := by rw [← hW]; simp [go_sem, q1_2_1]
      have r1_3_0 : W.cell? ⟨w.heap.size + 3, 0, none⟩ = some (.float .f32 a3) := by rw [← hW]; simp [go_sem, q1_3_0]
      have r1_3_1 : W.cell? ⟨w.heap.size + 3, 1, none⟩ = some (.float .f32 b3) := by rw [← hW]; simp [go_sem, q1_3_1]
      have s1_0 : W.cell? ⟨(F1 i1).heap.size, 0, none⟩ = some (.float .f32 X) := by rw [← hW]; simp [go_sem, d1_0]
      have s1_1 : W.cell? ⟨(F1 i1).heap.size, 1, none⟩ = some (.float .f32 Y) := by rw [← hW]; simp [go_sem, d1_1]
      have lW : (F1 i1).heap.size < W.heap.size := by rw [← hW]; simp; exact lt1
      have BW : Below w.heap.size w W := by
        rw [← hW]
        refine Below.setCell ?_ (by show w.heap.size ≤ (F1 i1).heap.size; omega) _
        refine Below.setCell ?_ (by show w.heap.size ≤ (F1 i1).heap.size; omega) _
        exact Below.on (by repeat (first | exact Below.refl _ _ | refine Below.alloc ?_ (by first | omega | (simp <;> omega)) _)) BF1.out (by simp <;> omega)
      generalize (F1 i1).heap.size = N at *
      clear hW HB1 BF1 bF1 hb1 lt1 hs1 B0 p1_0_0 q1_0_0 p1_0_1 q1_0_1 p1_1_0 q1_1_0 p1_1_1 q1_1_1 p1_2_0 q1_2_0 p1_2_1 q1_2_1 p1_3_0 q1_3_0 p1_3_1 q1_3_1 d1_0 z1_0 d1_1 z1_1 n1_0 n1_1 n1_2 n1_3
      refine region_freshl (o := ?o2) 12 11 (by kernel_rfl) (by kernel_rfl) (by kernel_rfl) rfl rfl (extract_pure rfl) (fun d v c a w h => by cases d <;> exact h) rfl rfl (fun a w => ?hA2) (fun I2 F2 hne2 HB2 => ?h2)
      case hA2 =>
        go_simp
        try rfl
      case h2 =>
        have p2_0_0 := keepF HB2 (p := ⟨w.heap.size, 0, none⟩) (v := .float .f32 a0) r1_0_0
        have p2_0_1 := keepF HB2 (p := ⟨w.heap.size, 1, none⟩) (v := .float .f32 b0) r1_0_1
        have p2_1_0 := keepF HB2 (p := ⟨w.heap.size + 1, 0, none⟩) (v := .float .f32 a1) r1_1_0
        have p2_1_1 := keepF HB2 (p := ⟨w.heap.size + 1, 1, none⟩) (v := .float .f32 b1) r1_1_1
        have p2_2_0 := keepF HB2 (p := ⟨w.heap.size + 2, 0, none⟩) (v := .float .f32 a2) r1_2_0
        have p2_2_1 := keepF HB2 (p := ⟨w.heap.size + 2, 1, none⟩) (v := .float .f32 b2) r1_2_1
        have p2_3_0 := keepF HB2 (p := ⟨w.heap.size + 3, 0, none⟩) (v := .float .f32 a3) r1_3_0
        have p2_3_1 := keepF HB2 (p := ⟨w.heap.size + 3, 1, none⟩) (v := .float .f32 b3) r1_3_1
        simp only [List.take_succ_cons, List.take_zero, List.drop_succ_cons, List.drop_zero]
        repeat (refine lex_step (fun K hK => ?_); go_simp; first | (refine hK _ ?_; clear hK K) | (apply Exists.intro; refine ⟨fun _ => ?_, hK _ ?_⟩; (first | (go_at_call 16; exact callR (toPlace_any _ _ _)) | (go_at_call 15; exact callR (KS.out _)) | (go_at_call 17; exact callR (KG.out _))); clear hK K))
        refine lex_nil ?_
        intro i2 w2 hb2
        have bF2 : Below (F2 i2).heap.size (F2 i2) w2 := Below.on ((Below.refl _ _).alloc (Nat.le_refl _) _) hb2 (by simp)
        have d2_0 := Below.keep hb2 (p := ⟨(F2 i2).heap.size, 0, none⟩) (v := .float .f32 0) (by simp)
        have z2_0 : w2.frozen? ⟨(F2 i2).heap.size, 0, none⟩ = false := by rw [hb2.frozen (by simp)]; simp
        have d2_1 := Below.keep hb2 (p := ⟨(F2 i2).heap.size, 1, none⟩) (v := .float .f32 0) (by simp)
        have z2_1 : w2.frozen? ⟨(F2 i2).heap.size, 1, none⟩ = false := by rw [hb2.frozen (by simp)]; simp
        have q2_0_0 := Below.keep bF2 (p2_0_0 i2)
        have q2_0_1 := Below.keep bF2 (p2_0_1 i2)
        have q2_1_0 := Below.keep bF2 (p2_1_0 i2)
        have q2_1_1 := Below.keep bF2 (p2_1_1 i2)
        have q2_2_0 := Below.keep bF2 (p2_2_0 i2)
        have q2_2_1 := Below.keep bF2 (p2_2_1 i2)
        have q2_3_0 := Below.keep bF2 (p2_3_0 i2)
        have q2_3_1 := Below.keep bF2 (p2_3_1 i2)
        have t2_0 := Below.keep bF2 (Below.keep (HB2.out i2) s1_0)
        have t2_1 := Below.keep bF2 (Below.keep (HB2.out i2) s1_1)
        have BF2 := Hb.mk (Below.on (HB2.out i2) bF2 (HB2.out i2).size)
        have lt2 : (F2 i2).heap.size < w2.heap.size := by have := hb2.size; simp at this; omega
        have hs2 := (HB2.out i2).size
        have n2 : N ≠ (F2 i2).heap.size := by omega
        have n2' : (F2 i2).heap.size ≠ N := by omega
        go_wp2_with (first | (go_at_call 18; refine (eqPlace_any f0 f1 f0 f1 _).mono ?_; rintro e w5 ⟨rfl, b5⟩; have B5 := Hb.mk b5; clear b5))
        go_ret
        refine ⟨rfl, ?_⟩
        refine Below.on ?_ B5.out (by have := BW.size; simp; omega)
        refine Below.setCell ?_ (by have := BW.size; show w.heap.size ≤ (F2 i2).heap.size; omega) _
        refine Below.setCell ?_ (by have := BW.size; show w.heap.size ≤ (F2 i2).heap.size; omega) _
        exact Below.on BW BF2.out BW.size
theorem law_MeetOfWays {a b c d p q s t : Nat} (wa : (Lit.float .f32 a).wf = true) (wb : (Lit.float .f32 b).wf = true) (wc : (Lit.float .f32 c).wf = true) (wd : (Lit.float .f32 d).wf = true) (wp : (Lit.float .f32 p).wf = true) (wq : (Lit.float .f32 q).wf = true) (ws : (Lit.float .f32 s).wf = true) (wt : (Lit.float .f32 t).wf = true) (w : World) : Calls Try.prog 3 #[pl a b, pl c d, pl p q, pl s t] w (RS (.bool true) w) := by
  have ga := Fl.own wa
  have gb := Fl.own wb
  have gc := Fl.own wc
  have gd := Fl.own wd
  have gp := Fl.own wp
  have gq := Fl.own wq
  have gs := Fl.own ws
  have gt := Fl.own wt
  cases v0 : validC (nrm .f32 a) (nrm .f32 b)
  · exact law_MeetOfWays_of ⟨sMeet_no1 ga gb gc gd (by rw [v0]; rfl)⟩ ⟨iMeet_no0 ga gb v0⟩ fl0 fl0 w
  · obtain ⟨ta, tb⟩ := turns_of v0
    have xa := ta.word ga
    have xb := tb.word gb
    rw [← xa] at ga v0 ta
    rw [← xb] at gb v0 tb
    cases v1 : validC (nrm .f32 c) (nrm .f32 d)
    · exact law_MeetOfWays_of ⟨sMeet_no1 ga gb gc gd (by rw [v0, v1]; rfl)⟩ ⟨iMeet_no1 ga gb gc gd v0 v1⟩ fl0 fl0 w
    · obtain ⟨tc, td⟩ := turns_of v1
      have xc := tc.word gc
      have xd := td.word gd
      rw [← xc] at gc v1 tc
      rw [← xd] at gd v1 td
      cases v2 : validC (nrm .f32 p) (nrm .f32 q)
      · exact law_MeetOfWays_of ⟨sMeet_no2 ga gb gc gd gp gq gs gt v0 v1 (by rw [v2]; rfl)⟩ ⟨iMeet_no2 ga gb gc gd gp gq v0 v1 v2⟩ fl0 fl0 w
      · obtain ⟨tp, tq⟩ := turns_of v2
        have xp := tp.word gp
        have xq := tq.word gq
        rw [← xp] at gp v2 tp
        rw [← xq] at gq v2 tq
        cases v3 : validC (nrm .f32 s) (nrm .f32 t)
        · exact law_MeetOfWays_of ⟨sMeet_no2 ga gb gc gd gp gq gs gt v0 v1 (by rw [v2, v3]; rfl)⟩ ⟨iMeet_no3 ga gb gc gd gp gq gs gt v0 v1 v2 v3⟩ fl0 fl0 w
        · obtain ⟨ts, tt⟩ := turns_of v3
          have xs := ts.word gs
          have xt := tt.word gt
          rw [← xs] at gs v3 ts
          rw [← xt] at gt v3 tt
          have hm := Meet.of (Wb.way ta tb) (Wb.way tc td) (Wb.way tp tq) (Wb.way ts tt)
          cases hb : fcmp .lss .f32 (dotC (crX (crX (wxC a b) (wyC a b) (sineC a) (wxC c d) (wyC c d) (sineC c)) (crY (wxC a b) (wyC a b) (sineC a) (wxC c d) (wyC c d) (sineC c)) (crZ (wxC a b) (wyC a b) (sineC a) (wxC c d) (wyC c d) (sineC c)) (crX (wxC p q) (wyC p q) (sineC p) (wxC s t) (wyC s t) (sineC s)) (crY (wxC p q) (wyC p q) (sineC p) (wxC s t) (wyC s t) (sineC s)) (crZ (wxC p q) (wyC p q) (sineC p) (wxC s t) (wyC s t) (sineC s))) (crY (crX (wxC a b) (wyC a b) (sineC a) (wxC c d) (wyC c d) (sineC c)) (crY (wxC a b) (wyC a b) (sineC a) (wxC c d) (wyC c d) (sineC c)) (crZ (wxC a b) (wyC a b) (sineC a) (wxC c d) (wyC c d) (sineC c)) (crX (wxC p q) (wyC p q) (sineC p) (wxC s t) (wyC s t) (sineC s)) (crY (wxC p q) (wyC p q) (sineC p) (wxC s t) (wyC s t) (sineC s)) (crZ (wxC p q) (wyC p q) (sineC p) (wxC s t) (wyC s t) (sineC s))) (crZ (crX (wxC a b) (wyC a b) (sineC a) (wxC c d) (wyC c d) (sineC c)) (crY (wxC a b) (wyC a b) (sineC a) (wxC c d) (wyC c d) (sineC c)) (crZ (wxC a b) (wyC a b) (sineC a) (wxC c d) (wyC c d) (sineC c)) (crX (wxC p q) (wyC p q) (sineC p) (wxC s t) (wyC s t) (sineC s)) (crY (wxC p q) (wyC p q) (sineC p) (wxC s t) (wyC s t) (sineC s)) (crZ (wxC p q) (wyC p q) (sineC p) (wxC s t) (wyC s t) (sineC s))) (fop .add .f32 (wxC a b) (wxC c d)) (fop .add .f32 (wyC a b) (wyC c d)) (fop .add .f32 (sineC a) (sineC c))) 0
          · cases hk : placeOk (crX (crX (wxC a b) (wyC a b) (sineC a) (wxC c d) (wyC c d) (sineC c)) (crY (wxC a b) (wyC a b) (sineC a) (wxC c d) (wyC c d) (sineC c)) (crZ (wxC a b) (wyC a b) (sineC a) (wxC c d) (wyC c d) (sineC c)) (crX (wxC p q) (wyC p q) (sineC p) (wxC s t) (wyC s t) (sineC s)) (crY (wxC p q) (wyC p q) (sineC p) (wxC s t) (wyC s t) (sineC s)) (crZ (wxC p q) (wyC p q) (sineC p) (wxC s t) (wyC s t) (sineC s))) (crY (crX (wxC a b) (wyC a b) (sineC a) (wxC c d) (wyC c d) (sineC c)) (crY (wxC a b) (wyC a b) (sineC a) (wxC c d) (wyC c d) (sineC c)) (crZ (wxC a b) (wyC a b) (sineC a) (wxC c d) (wyC c d) (sineC c)) (crX (wxC p q) (wyC p q) (sineC p) (wxC s t) (wyC s t) (sineC s)) (crY (wxC p q) (wyC p q) (sineC p) (wxC s t) (wyC s t) (sineC s)) (crZ (wxC p q) (wyC p q) (sineC p) (wxC s t) (wyC s t) (sineC s))) (crZ (crX (wxC a b) (wyC a b) (sineC a) (wxC c d) (wyC c d) (sineC c)) (crY (wxC a b) (wyC a b) (sineC a) (wxC c d) (wyC c d) (sineC c)) (crZ (wxC a b) (wyC a b) (sineC a) (wxC c d) (wyC c d) (sineC c)) (crX (wxC p q) (wyC p q) (sineC p) (wxC s t) (wyC s t) (sineC s)) (crY (wxC p q) (wyC p q) (sineC p) (wxC s t) (wyC s t) (sineC s)) (crZ (wxC p q) (wyC p q) (sineC p) (wxC s t) (wyC s t) (sineC s)))
            · exact law_MeetOfWays_of ⟨sMeet_false ga gb gc gd gp gq gs gt v0 v1 v2 v3 hb ⟨l02From_no hm.m.fx hm.m.fy hm.m.fz hk⟩⟩ ⟨iMeet_false ga gb gc gd gp gq gs gt v0 v1 v2 v3 hb ⟨iPlaceOfWay_no hm.m.fx hm.m.fy hm.m.fz hk⟩⟩ fl0 fl0 w
            · obtain ⟨g1, g2⟩ := place_fls hk
              exact law_MeetOfWays_of ⟨sMeet_false ga gb gc gd gp gq gs gt v0 v1 v2 v3 hb ⟨l02From_yes hm.m.fx hm.m.fy hm.m.fz hk⟩⟩ ⟨iMeet_false ga gb gc gd gp gq gs gt v0 v1 v2 v3 hb ⟨iPlaceOfWay_yes hm.m.fx hm.m.fy hm.m.fz hk⟩⟩ g1 g2 w
          · cases hk : placeOk (ngf (crX (crX (wxC a b) (wyC a b) (sineC a) (wxC c d) (wyC c d) (sineC c)) (crY (wxC a b) (wyC a b) (sineC a) (wxC c d) (wyC c d) (sineC c)) (crZ (wxC a b) (wyC a b) (sineC a) (wxC c d) (wyC c d) (sineC c)) (crX (wxC p q) (wyC p q) (sineC p) (wxC s t) (wyC s t) (sineC s)) (crY (wxC p q) (wyC p q) (sineC p) (wxC s t) (wyC s t) (sineC s)) (crZ (wxC p q) (wyC p q) (sineC p) (wxC s t) (wyC s t) (sineC s)))) (ngf (crY (crX (wxC a b) (wyC a b) (sineC a) (wxC c d) (wyC c d) (sineC c)) (crY (wxC a b) (wyC a b) (sineC a) (wxC c d) (wyC c d) (sineC c)) (crZ (wxC a b) (wyC a b) (sineC a) (wxC c d) (wyC c d) (sineC c)) (crX (wxC p q) (wyC p q) (sineC p) (wxC s t) (wyC s t) (sineC s)) (crY (wxC p q) (wyC p q) (sineC p) (wxC s t) (wyC s t) (sineC s)) (crZ (wxC p q) (wyC p q) (sineC p) (wxC s t) (wyC s t) (sineC s)))) (ngf (crZ (crX (wxC a b) (wyC a b) (sineC a) (wxC c d) (wyC c d) (sineC c)) (crY (wxC a b) (wyC a b) (sineC a) (wxC c d) (wyC c d) (sineC c)) (crZ (wxC a b) (wyC a b) (sineC a) (wxC c d) (wyC c d) (sineC c)) (crX (wxC p q) (wyC p q) (sineC p) (wxC s t) (wyC s t) (sineC s)) (crY (wxC p q) (wyC p q) (sineC p) (wxC s t) (wyC s t) (sineC s)) (crZ (wxC p q) (wyC p q) (sineC p) (wxC s t) (wyC s t) (sineC s))))
            · exact law_MeetOfWays_of ⟨sMeet_true ga gb gc gd gp gq gs gt v0 v1 v2 v3 hb ⟨l02From_no (ngf_fl hm.m.fx hm.m.ax.fin) (ngf_fl hm.m.fy hm.m.ay.fin) (ngf_fl hm.m.fz hm.m.az.fin) hk⟩⟩ ⟨iMeet_true ga gb gc gd gp gq gs gt v0 v1 v2 v3 hb ⟨iPlaceOfWay_no (ngf_fl hm.m.fx hm.m.ax.fin) (ngf_fl hm.m.fy hm.m.ay.fin) (ngf_fl hm.m.fz hm.m.az.fin) hk⟩⟩ fl0 fl0 w
            · obtain ⟨g1, g2⟩ := place_fls hk
              exact law_MeetOfWays_of ⟨sMeet_true ga gb gc gd gp gq gs gt v0 v1 v2 v3 hb ⟨l02From_yes (ngf_fl hm.m.fx hm.m.ax.fin) (ngf_fl hm.m.fy hm.m.ay.fin) (ngf_fl hm.m.fz hm.m.az.fin) hk⟩⟩ ⟨iMeet_true ga gb gc gd gp gq gs gt v0 v1 v2 v3 hb ⟨iPlaceOfWay_yes (ngf_fl hm.m.fx hm.m.ax.fin) (ngf_fl hm.m.fy hm.m.ay.fin) (ngf_fl hm.m.fz hm.m.az.fin) hk⟩⟩ g1 g2 w
end Go.Proofs.Ytjjhklfpdllijaa
