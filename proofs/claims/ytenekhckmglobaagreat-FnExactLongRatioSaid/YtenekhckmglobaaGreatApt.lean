/-
  Crosses of ways, and how far valid places are apart, of the program and of its model; the exact law ApartOf. No condition.
-/
import Derived.Test.YtenekhckmglobaaGreatWs
import Derived.Test.YtenekhckmglobaaGreatCrs
import Derived.Test.YtenekhckmglobaaGreatPow
namespace Go.Proofs.YtenekhckmglobaaGreat
open Go Go.RowKit
set_option maxRecDepth 100000

def crX (_a b c _x y z : Nat) : Nat := fop .sub .f32 (fop .mul .f32 b z) (fop .mul .f32 c y)
def crY (a _b c x _y z : Nat) : Nat := fop .sub .f32 (fop .mul .f32 c x) (fop .mul .f32 a z)
def crZ (a b _c x y _z : Nat) : Nat := fop .sub .f32 (fop .mul .f32 a y) (fop .mul .f32 b x)
theorem wayCross_any {x y z a b c x' y' z' a' b' c' : Nat} (h1 : Fl .f32 x a) (h2 : Fl .f32 y b) (h3 : Fl .f32 z c) (h4 : Fl .f32 x' a') (h5 : Fl .f32 y' b') (h6 : Fl .f32 z' c') (w : World) : Calls Tryz.prog 123 #[wy a b c, wy a' b' c'] w (RWB (crX x y z x' y' z') (crY x y z x' y' z') (crZ x y z x' y' z') w) := by
  go_enter Tryz.func123, Tryz.ntmps123
  have tk_m1 : True := trivial; have tk_m2 : True := trivial; have tk_m3 : True := trivial; have tk_m4 : True := trivial; have tk_m5 : True := trivial; have tk_m6 : True := trivial; have tk_m7 : True := trivial; have tk_m8 : True := trivial; have tk_m9 : True := trivial
  go_wp2_with (first | (clear tk_m1; refine wpList_fop rfl rfl rfl rfl rfl h2 h6 ?_; intro m1 n_m1 h_m1; simp only [Act.put, List.setIfInBounds_toArray, List.set_cons_succ, List.set_cons_zero]) | (clear tk_m2; refine wpList_fop rfl rfl rfl rfl rfl h3 h5 ?_; intro m2 n_m2 h_m2; simp only [Act.put, List.setIfInBounds_toArray, List.set_cons_succ, List.set_cons_zero]) | (clear tk_m3; refine wpList_fop rfl rfl rfl rfl rfl h_m1 h_m2 ?_; intro m3 n_m3 h_m3; simp only [Act.put, List.setIfInBounds_toArray, List.set_cons_succ, List.set_cons_zero]) | (clear tk_m4; refine wpList_fop rfl rfl rfl rfl rfl h3 h4 ?_; intro m4 n_m4 h_m4; simp only [Act.put, List.setIfInBounds_toArray, List.set_cons_succ, List.set_cons_zero]) | (clear tk_m5; refine wpList_fop rfl rfl rfl rfl rfl h1 h6 ?_; intro m5 n_m5 h_m5; simp only [Act.put, List.setIfInBounds_toArray, List.set_cons_succ, List.set_cons_zero]) | (clear tk_m6; refine wpList_fop rfl rfl rfl rfl rfl h_m4 h_m5 ?_; intro m6 n_m6 h_m6; simp only [Act.put, List.setIfInBounds_toArray, List.set_cons_succ, List.set_cons_zero]) | (clear tk_m7; refine wpList_fop rfl rfl rfl rfl rfl h1 h5 ?_; intro m7 n_m7 h_m7; simp only [Act.put, List.setIfInBounds_toArray, List.set_cons_succ, List.set_cons_zero]) | (clear tk_m8; refine wpList_fop rfl rfl rfl rfl rfl h2 h4 ?_; intro m8 n_m8 h_m8; simp only [Act.put, List.setIfInBounds_toArray, List.set_cons_succ, List.set_cons_zero]) | (clear tk_m9; refine wpList_fop rfl rfl rfl rfl rfl h_m7 h_m8 ?_; intro m9 n_m9 h_m9; simp only [Act.put, List.setIfInBounds_toArray, List.set_cons_succ, List.set_cons_zero]))
  exact bodyPost_ret (v := wy m3 m6 m9) (by simp [results, Tryz.results123, go_sem]) rfl ⟨_, _, _, rfl, h_m3, h_m6, h_m9, (by repeat (first | exact Below.refl _ _ | with_reducible assumption | refine Below.drews ?_ | refine Below.drew ?_ | refine Below.alloc ?_ (by simp <;> omega) _ | refine Below.setCell ?_ (by simp <;> omega) _))⟩
theorem l02Cross_any {x y z a b c x' y' z' a' b' c' : Nat} (h1 : Fl .f32 x a) (h2 : Fl .f32 y b) (h3 : Fl .f32 z c) (h4 : Fl .f32 x' a') (h5 : Fl .f32 y' b') (h6 : Fl .f32 z' c') (w : World) : Calls Tryz.prog 91 #[wy a b c, wy a' b' c'] w (RWB (crX x y z x' y' z') (crY x y z x' y' z') (crZ x y z x' y' z') w) := by
  go_enter Tryz.func91, Tryz.ntmps91
  have tk_m1 : True := trivial; have tk_m2 : True := trivial; have tk_m3 : True := trivial; have tk_m4 : True := trivial; have tk_m5 : True := trivial; have tk_m6 : True := trivial; have tk_m7 : True := trivial; have tk_m8 : True := trivial; have tk_m9 : True := trivial
  go_wp2_with (first | (clear tk_m1; refine wpList_fop rfl rfl rfl rfl rfl h2 h6 ?_; intro m1 n_m1 h_m1; simp only [Act.put, List.setIfInBounds_toArray, List.set_cons_succ, List.set_cons_zero]) | (clear tk_m2; refine wpList_fop rfl rfl rfl rfl rfl h3 h5 ?_; intro m2 n_m2 h_m2; simp only [Act.put, List.setIfInBounds_toArray, List.set_cons_succ, List.set_cons_zero]) | (clear tk_m3; refine wpList_fop rfl rfl rfl rfl rfl h_m1 h_m2 ?_; intro m3 n_m3 h_m3; simp only [Act.put, List.setIfInBounds_toArray, List.set_cons_succ, List.set_cons_zero]) | (clear tk_m4; refine wpList_fop rfl rfl rfl rfl rfl h3 h4 ?_; intro m4 n_m4 h_m4; simp only [Act.put, List.setIfInBounds_toArray, List.set_cons_succ, List.set_cons_zero]) | (clear tk_m5; refine wpList_fop rfl rfl rfl rfl rfl h1 h6 ?_; intro m5 n_m5 h_m5; simp only [Act.put, List.setIfInBounds_toArray, List.set_cons_succ, List.set_cons_zero]) | (clear tk_m6; refine wpList_fop rfl rfl rfl rfl rfl h_m4 h_m5 ?_; intro m6 n_m6 h_m6; simp only [Act.put, List.setIfInBounds_toArray, List.set_cons_succ, List.set_cons_zero]) | (clear tk_m7; refine wpList_fop rfl rfl rfl rfl rfl h1 h5 ?_; intro m7 n_m7 h_m7; simp only [Act.put, List.setIfInBounds_toArray, List.set_cons_succ, List.set_cons_zero]) | (clear tk_m8; refine wpList_fop rfl rfl rfl rfl rfl h2 h4 ?_; intro m8 n_m8 h_m8; simp only [Act.put, List.setIfInBounds_toArray, List.set_cons_succ, List.set_cons_zero]) | (clear tk_m9; refine wpList_fop rfl rfl rfl rfl rfl h_m7 h_m8 ?_; intro m9 n_m9 h_m9; simp only [Act.put, List.setIfInBounds_toArray, List.set_cons_succ, List.set_cons_zero]))
  exact bodyPost_ret (v := wy m3 m6 m9) (by simp [results, Tryz.results91, go_sem]) rfl ⟨_, _, _, rfl, h_m3, h_m6, h_m9, (by repeat (first | exact Below.refl _ _ | with_reducible assumption | refine Below.drews ?_ | refine Below.drew ?_ | refine Below.alloc ?_ (by simp <;> omega) _ | refine Below.setCell ?_ (by simp <;> omega) _))⟩
theorem exactW {cx cy cz : Nat} {w : World} {f : FuncId} {args : Array Value} (h : Calls Tryz.prog f args w (RWB cx cy cz w)) (h1 : fin .f32 cx = true) (h2 : fin .f32 cy = true) (h3 : fin .f32 cz = true) : Calls Tryz.prog f args w (RS (wy cx cy cz) w) :=
  h.mono fun _ _ ⟨x, y, z, he, f1, f2, f3, hb⟩ => ⟨by rw [he, f1.word (fin_notN h1), f2.word (fin_notN h2), f3.word (fin_notN h3)], hb⟩
theorem exactB {c : Nat} {w : World} {f : FuncId} {args : Array Value} (h : Calls Tryz.prog f args w (RFB c w)) (h1 : fin .f32 c = true) : Calls Tryz.prog f args w (RS (.float .f32 c) w) :=
  h.mono fun _ _ ⟨r, he, hf, hb⟩ => ⟨by rw [he, hf.word (fin_notN h1)], hb⟩
/-- A way whose parts have at most the size b. -/
structure Wb (x y z b : Nat) : Prop where
  ax : Ab .f32 x b
  ay : Ab .f32 y b
  az : Ab .f32 z b
  fx : Fl .f32 x x
  fy : Fl .f32 y y
  fz : Fl .f32 z z
theorem Wb.way {n e : Nat} (hn : Turn n) (he : Turn e) : Wb (wxC n e) (wyC n e) (sineC n) 1082130432 := by
  obtain ⟨a1, a2⟩ := wx_ab hn he
  exact ⟨a1, a2, hn.sine.mono (by decide +kernel) (by decide +kernel), fop_fl a1.fin, fop_fl a2.fin, sine_ok hn.sine.fin⟩
theorem Wb.cross {x y z x' y' z' b d m : Nat} (h : Wb x y z b) (g : Wb x' y' z' d) {s : Nat} (hm : fin .f32 m = true) (hs : fin .f32 s = true) (k1 : val FloatKind.f32.format (rung .f32 b) * val FloatKind.f32.format (rung .f32 d) ≤ val FloatKind.f32.format (rung .f32 m) * 2 ^ (-FloatKind.f32.format.leastPlace).toNat) (k2 : val FloatKind.f32.format (rung .f32 m) + val FloatKind.f32.format (rung .f32 m) ≤ val FloatKind.f32.format (rung .f32 s)) : Wb (crX x y z x' y' z') (crY x y z x' y' z') (crZ x y z x' y' z') s := by
  have a1 : Ab .f32 (crX x y z x' y' z') s := sub_ab (mul_ab h.ay g.az hm k1) (mul_ab h.az g.ay hm k1) hs k2
  have a2 : Ab .f32 (crY x y z x' y' z') s := sub_ab (mul_ab h.az g.ax hm k1) (mul_ab h.ax g.az hm k1) hs k2
  have a3 : Ab .f32 (crZ x y z x' y' z') s := sub_ab (mul_ab h.ax g.ay hm k1) (mul_ab h.ay g.ax hm k1) hs k2
  exact ⟨a1, a2, a3, fop_fl (op := .sub) a1.fin, fop_fl (op := .sub) a2.fin, fop_fl (op := .sub) a3.fin⟩
theorem Wb.dot {x y z x' y' z' b d m : Nat} (h : Wb x y z b) (g : Wb x' y' z' d) {s t : Nat} (hm : fin .f32 m = true) (hs : fin .f32 s = true) (ht : fin .f32 t = true) (k1 : val FloatKind.f32.format (rung .f32 b) * val FloatKind.f32.format (rung .f32 d) ≤ val FloatKind.f32.format (rung .f32 m) * 2 ^ (-FloatKind.f32.format.leastPlace).toNat) (k2 : val FloatKind.f32.format (rung .f32 m) + val FloatKind.f32.format (rung .f32 m) ≤ val FloatKind.f32.format (rung .f32 s)) (k3 : val FloatKind.f32.format (rung .f32 s) + val FloatKind.f32.format (rung .f32 m) ≤ val FloatKind.f32.format (rung .f32 t)) : Ab .f32 (dotC x y z x' y' z') t :=
  add_ab (add_ab (mul_ab h.ax g.ax hm k1) (mul_ab h.ay g.ay hm k1) hs k2) (mul_ab h.az g.az hm k1) ht k3
theorem sum_sgn {x y : Nat} (hx : fin .f32 x = true) (hy : fin .f32 y = true) (sx : sgn .f32 x = false) (sy : sgn .f32 y = false) : sgn .f32 (fop .add .f32 x y) = false := by
  rw [fop_add_near hx hy, nearest_sgn, sx, sy]
  have p1 := sv_pos sx
  have p2 := sv_pos sy
  split
  · rfl
  · rw [decide_eq_false_iff_not, p1, p2]; omega
theorem Wb.long {x y z b : Nat} (h : Wb x y z b) (hd : fin .f32 (dotC x y z x y z) = true) : fin .f32 (longC x y z) = true ∧ fcmp .lss .f32 (longC x y z) 0 = false ∧ Fl .f32 (longC x y z) (longC x y z) := by
  have h1 := add_fin (k := .f32) hd
  have h2 := add_fin (k := .f32) h1.1
  exact root_nn hd (sum_sgn h1.1 h1.2 (sum_sgn h2.1 h2.2 (sq_sgn h.ax.fin) (sq_sgn h.ay.fin)) (sq_sgn h.az.fin))
/-- how far two ways are apart -/
def aptC (a b c x y z : Nat) : Nat := angleC (longC (crX a b c x y z) (crY a b c x y z) (crZ a b c x y z)) (dotC a b c x y z)
structure Apt (a b c x y z : Nat) : Prop where
  cr : Wb (crX a b c x y z) (crY a b c x y z) (crZ a b c x y z) 1107296256
  lf : fin .f32 (longC (crX a b c x y z) (crY a b c x y z) (crZ a b c x y z)) = true
  lz : fcmp .lss .f32 (longC (crX a b c x y z) (crY a b c x y z) (crZ a b c x y z)) 0 = false
  ll : Fl .f32 (longC (crX a b c x y z) (crY a b c x y z) (crZ a b c x y z)) (longC (crX a b c x y z) (crY a b c x y z) (crZ a b c x y z))
  d : Ab .f32 (dotC a b c x y z) 1115684864
  fd : Fl .f32 (dotC a b c x y z) (dotC a b c x y z)
  ap : Ab .f32 (aptC a b c x y z) 1056964608
  fa : Fl .f32 (aptC a b c x y z) (aptC a b c x y z)
theorem Apt.of {a b c x y z : Nat} (h : Wb a b c 1082130432) (g : Wb x y z 1082130432) : Apt a b c x y z := by
  have hc := h.cross (m := 1098907648) (s := 1107296256) g (by decide +kernel) (by decide +kernel) (by decide +kernel) (by decide +kernel)
  have hd := h.dot (m := 1098907648) (s := 1107296256) (t := 1115684864) g (by decide +kernel) (by decide +kernel) (by decide +kernel) (by decide +kernel) (by decide +kernel) (by decide +kernel)
  have hcc := hc.dot (m := 1149239296) (s := 1157627904) (t := 1166016512) hc (by decide +kernel) (by decide +kernel) (by decide +kernel) (by decide +kernel) (by decide +kernel) (by decide +kernel)
  obtain ⟨l1, l2, l3⟩ := hc.long hcc.fin
  have ha := (angle_ab l1 hd.fin).1
  exact ⟨hc, l1, l2, l3, hd, fop_fl (op := .add) hd.fin, ha, Fl.not (fin_notN ha.fin) (wf_angle _ _)⟩
set_option maxHeartbeats 2000000 in
theorem wayApart_any {a b c x y z : Nat} (hw : Wb a b c 1082130432) (gw : Wb x y z 1082130432) (w : World) : Calls Tryz.prog 96 #[wy a b c, wy x y z] w (RS (.float .f32 (aptC a b c x y z)) w) := by
  have ha := Apt.of hw gw
  have KC := Hb.mk (fun w => exactW (wayCross_any hw.fx hw.fy hw.fz gw.fx gw.fy gw.fz w) ha.cr.ax.fin ha.cr.ay.fin ha.cr.az.fin)
  have KL := Hb.mk (fun w => exactB (wayLong_any ha.cr.fx ha.cr.fy ha.cr.fz w) ha.lf)
  have KD := Hb.mk (fun w => exactB (wayDot_any hw.fx hw.fy hw.fz gw.fx gw.fy gw.fz w) ha.d.fin)
  have KA := Hb.mk (fun w => exactF (c := aptC a b c x y z) (iAngleTurns_any ha.ll ha.fd w) ha.ap.fin)
  clear ha hw gw
  generalize aptC a b c x y z = A at *
  generalize longC (crX a b c x y z) (crY a b c x y z) (crZ a b c x y z) = L at *
  generalize crX a b c x y z = X at *
  generalize crY a b c x y z = Y at *
  generalize crZ a b c x y z = Z at *
  generalize dotC a b c x y z = D at *
  go_enter Tryz.func96, Tryz.ntmps96
  go_wp2
  refine region_all (by kernel_rfl) (by kernel_rfl) (fun I F hne HB hcl => ?_)
  have p00 := keepF HB (p := ⟨w.heap.size, 0, none⟩) (v := .float .f32 a) (by simp [go_sem])
  have p01 := keepF HB (p := ⟨w.heap.size, 1, none⟩) (v := .float .f32 b) (by simp [go_sem])
  have p02 := keepF HB (p := ⟨w.heap.size, 2, none⟩) (v := .float .f32 c) (by simp [go_sem])
  have p10 := keepF HB (p := ⟨w.heap.size + 1, 0, none⟩) (v := .float .f32 x) (by simp [go_sem])
  have p11 := keepF HB (p := ⟨w.heap.size + 1, 1, none⟩) (v := .float .f32 y) (by simp [go_sem])
  have p12 := keepF HB (p := ⟨w.heap.size + 1, 2, none⟩) (v := .float .f32 z) (by simp [go_sem])
  repeat (quiet_step (first | (go_at_call 123; exact callS hcl (KC.out _)) | (go_at_call 124; exact callS hcl (KL.out _)) | (go_at_call 125; exact callS hcl (KD.out _)) | (go_at_call 85; exact callD hcl (KA.out _))))
  refine wpQuiet_nil ?_
  intro _ hw'
  obtain ⟨iq, rfl⟩ := hw'
  clear hcl
  have E1 := Hb.mk (HB.out iq)
  go_wp2
  go_ret
  exact ⟨rfl, (by repeat (first | exact Below.refl _ _ | refine Below.on ?_ E1.out (by first | omega | (simp <;> omega)) | refine Below.drews ?_ | refine Below.drew ?_ | refine Below.alloc ?_ (by first | omega | (simp <;> omega)) _ | refine Below.setCell ?_ (by first | omega | (simp <;> omega)) _))⟩
set_option maxHeartbeats 2000000 in
theorem l02Apart_any {n1 e1 n2 e2 : Nat} (h1 : Fl .f32 n1 n1) (h2 : Fl .f32 e1 e1) (h3 : Fl .f32 n2 n2) (h4 : Fl .f32 e2 e2) (t1 : Turn n1) (t2 : Turn e1) (t3 : Turn n2) (t4 : Turn e2) (w : World) : Calls Tryz.prog 42 #[pl n1 e1, pl n2 e2] w (RS (.float .f32 (aptC (wxC n1 e1) (wyC n1 e1) (sineC n1) (wxC n2 e2) (wyC n2 e2) (sineC n2))) w) := by
  have KW1 := Hb.mk (l02Way_any h1 h2 t1 t2)
  have KW2 := Hb.mk (l02Way_any h3 h4 t3 t4)
  have hw := Wb.way t1 t2
  have gw := Wb.way t3 t4
  clear t1 t2 t3 t4
  generalize wxC n1 e1 = a at *
  generalize wyC n1 e1 = b at *
  generalize sineC n1 = c at *
  generalize wxC n2 e2 = x at *
  generalize wyC n2 e2 = y at *
  generalize sineC n2 = z at *
  have ha := Apt.of hw gw
  have KC := Hb.mk (fun w => exactW (l02Cross_any hw.fx hw.fy hw.fz gw.fx gw.fy gw.fz w) ha.cr.ax.fin ha.cr.ay.fin ha.cr.az.fin)
  have KL := Hb.mk (fun w => exactB (l02Long_any ha.cr.fx ha.cr.fy ha.cr.fz w) ha.lf)
  have KD := Hb.mk (fun w => exactB (l02Dot_any hw.fx hw.fy hw.fz gw.fx gw.fy gw.fz w) ha.d.fin)
  have KA := Hb.mk (fun w => exactF (c := aptC a b c x y z) (l01Angle_any ha.ll ha.fd w) ha.ap.fin)
  clear ha hw gw
  generalize aptC a b c x y z = A at *
  generalize longC (crX a b c x y z) (crY a b c x y z) (crZ a b c x y z) = L at *
  generalize crX a b c x y z = X at *
  generalize crY a b c x y z = Y at *
  generalize crZ a b c x y z = Z at *
  generalize dotC a b c x y z = D at *
  have B0 := Hb.mk (Below.refl w.heap.size w)
  go_enter Tryz.func42, Tryz.ntmps42
  have tk_a : True := trivial; have tk_b : True := trivial
  go_wp2_with (first
    | (go_at_call 88; clear tk_a; refine (KW1.out _).mono ?_; rintro ex w1 ⟨rfl, b1⟩; have B1 := Hb.mk (Below.on (B := w.heap.size) (a := w) (by repeat (first | exact B0.out | refine Below.drews ?_ | refine Below.drew ?_ | refine Below.alloc ?_ (by have hq_ := B0.out.size; first | omega | (simp <;> omega)) _ | refine Below.setCell ?_ (by have hq_ := B0.out.size; first | omega | (simp <;> omega)) _)) b1 (by have hq_ := B0.out.size; first | omega | (simp <;> omega))); have q0 := Hb.mk (At.keep b1 (p := ⟨w.heap.size + 1, 0, none⟩) (v := .float .f32 n2) (by simp [go_sem]) (by simp [go_sem])); obtain ⟨q0c, q0z, q0l⟩ := q0.out; have q1 := Hb.mk (At.keep b1 (p := ⟨w.heap.size + 1, 1, none⟩) (v := .float .f32 e2) (by simp [go_sem]) (by simp [go_sem])); obtain ⟨q1c, q1z, q1l⟩ := q1.out; clear b1)
    | (go_at_call 88; clear tk_b; refine (KW2.out _).mono ?_; rintro ex w2 ⟨rfl, b2⟩; have B2 := Hb.mk (Below.on (B := w.heap.size) (a := w) (by repeat (first | exact B1.out | refine Below.drews ?_ | refine Below.drew ?_ | refine Below.alloc ?_ (by have hq_ := B1.out.size; first | omega | (simp <;> omega)) _ | refine Below.setCell ?_ (by have hq_ := B1.out.size; first | omega | (simp <;> omega)) _)) b2 (by have hq_ := B1.out.size; first | omega | (simp <;> omega))); have r0 := Hb.mk (At.keep b2 (p := ⟨w1.heap.size, 0, none⟩) (v := .float .f32 a) (by simp [go_sem]) (by simp [go_sem])); obtain ⟨r0c, r0z, r0l⟩ := r0.out; have r1 := Hb.mk (At.keep b2 (p := ⟨w1.heap.size, 1, none⟩) (v := .float .f32 b) (by simp [go_sem]) (by simp [go_sem])); obtain ⟨r1c, r1z, r1l⟩ := r1.out; have r2 := Hb.mk (At.keep b2 (p := ⟨w1.heap.size, 2, none⟩) (v := .float .f32 c) (by simp [go_sem]) (by simp [go_sem])); obtain ⟨r2c, r2z, r2l⟩ := r2.out; clear b2))
  refine region_all (by kernel_rfl) (by kernel_rfl) (fun I F hne HB hcl => ?_)
  have p0 := keepF HB (p := ⟨w1.heap.size, 0, none⟩) (v := .float .f32 a) (by simp [go_sem, r0c, r0l])
  have p1 := keepF HB (p := ⟨w1.heap.size, 1, none⟩) (v := .float .f32 b) (by simp [go_sem, r1c, r1l])
  have p2 := keepF HB (p := ⟨w1.heap.size, 2, none⟩) (v := .float .f32 c) (by simp [go_sem, r2c, r2l])
  have p3 := keepF HB (p := ⟨w2.heap.size, 0, none⟩) (v := .float .f32 x) (by simp [go_sem])
  have p4 := keepF HB (p := ⟨w2.heap.size, 1, none⟩) (v := .float .f32 y) (by simp [go_sem])
  have p5 := keepF HB (p := ⟨w2.heap.size, 2, none⟩) (v := .float .f32 z) (by simp [go_sem])
  repeat (quiet_step (first | (go_at_call 91; exact callS hcl (KC.out _)) | (go_at_call 90; exact callS hcl (KL.out _)) | (go_at_call 92; exact callS hcl (KD.out _)) | (go_at_call 89; exact callD hcl (KA.out _))))
  refine wpQuiet_nil ?_
  intro _ hw'
  obtain ⟨iq, rfl⟩ := hw'
  clear hcl
  have E1 := Hb.mk (HB.out iq)
  have y2 := B2.out.size
  go_wp2
  go_ret
  exact ⟨rfl, (by repeat (first | exact Below.refl _ _ | refine Below.on ?_ E1.out (by first | omega | (simp <;> omega)) | exact B2.out | refine Below.drews ?_ | refine Below.drew ?_ | refine Below.alloc ?_ (by first | omega | (simp <;> omega)) _ | refine Below.setCell ?_ (by first | omega | (simp <;> omega)) _))⟩
set_option maxHeartbeats 2000000 in
theorem iApartOf_yes {n1 e1 n2 e2 : Nat} (h1 : Fl .f32 n1 n1) (h2 : Fl .f32 e1 e1) (h3 : Fl .f32 n2 n2) (h4 : Fl .f32 e2 e2) (v1 : validC n1 e1 = true) (v2 : validC n2 e2 = true) (w : World) : Calls Tryz.prog 44 #[pl n1 e1, pl n2 e2] w (RS (flT2 (aptC (wxC n1 e1) (wyC n1 e1) (sineC n1) (wxC n2 e2) (wyC n2 e2) (sineC n2)) true) w) := by
  obtain ⟨t1, t2⟩ := turns_of v1
  obtain ⟨t3, t4⟩ := turns_of v2
  have KS := Hb.mk (fun (g : Nat) => ws2 (g := g) h1 h2 h3 h4 v1 v2)
  have KP := Hb.mk (wayApart_any (Wb.way t1 t2) (Wb.way t3 t4))
  clear v1 v2 t1 t2 t3 t4
  generalize aptC (wxC n1 e1) (wyC n1 e1) (sineC n1) (wxC n2 e2) (wyC n2 e2) (sineC n2) = A at *
  generalize wxC n1 e1 = a at *
  generalize wyC n1 e1 = b at *
  generalize sineC n1 = c at *
  generalize wxC n2 e2 = x at *
  generalize wyC n2 e2 = y at *
  generalize sineC n2 = z at *
  have B0 := Hb.mk (Below.refl w.heap.size w)
  go_enter Tryz.func44, Tryz.ntmps44
  go_wp2_with (first | (go_at_call 95; refine (KS.out _ _ (by simp [go_sem]) (by simp [go_sem]) (by simp [go_sem]) (by simp [go_sem])).mono ?_; rintro ex w1 ⟨rfl, b1, l1, k1⟩; have B1 := Hb.mk (Below.on (B := w.heap.size) (a := w) (by repeat (first | exact B0.out | refine Below.drews ?_ | refine Below.drew ?_ | refine Below.alloc ?_ (by have hq_ := B0.out.size; first | omega | (simp <;> omega)) _ | refine Below.setCell ?_ (by have hq_ := B0.out.size; first | omega | (simp <;> omega)) _)) b1 (by have hq_ := B0.out.size; first | omega | (simp <;> omega))); have q0 := k1 0 (by decide); have q1 := k1 1 (by decide); have q2 := k1 2 (by decide); have q3 := k1 3 (by decide); have q4 := k1 4 (by decide); have q5 := k1 5 (by decide); simp at q0 q1 q2 q3 q4 q5 l1; clear k1 b1))
  refine region_all (by kernel_rfl) (by kernel_rfl) (fun I F hne HB hcl => ?_)
  have p0 := keepF HB (p := ⟨w.heap.size + 3, 0, none⟩) (v := .float .f32 a) q0
  have p1 := keepF HB (p := ⟨w.heap.size + 3, 1, none⟩) (v := .float .f32 b) q1
  have p2 := keepF HB (p := ⟨w.heap.size + 3, 2, none⟩) (v := .float .f32 c) q2
  have p3 := keepF HB (p := ⟨w.heap.size + 3, 3, none⟩) (v := .float .f32 x) q3
  have p4 := keepF HB (p := ⟨w.heap.size + 3, 4, none⟩) (v := .float .f32 y) q4
  have p5 := keepF HB (p := ⟨w.heap.size + 3, 5, none⟩) (v := .float .f32 z) q5
  repeat (quiet_step (first | (go_at_call 96; exact callS hcl (KP.out _))))
  refine wpQuiet_nil ?_
  intro _ hw'
  obtain ⟨iq, rfl⟩ := hw'
  clear hcl
  have E1 := Hb.mk (HB.out iq)
  have y1 := B1.out.size
  go_wp2
  go_ret2
  exact ⟨rfl, (by repeat (first | exact Below.refl _ _ | refine Below.on ?_ E1.out (by first | omega | (simp <;> omega)) | exact B1.out | refine Below.drews ?_ | refine Below.drew ?_ | refine Below.alloc ?_ (by first | omega | (simp <;> omega)) _ | refine Below.setCell ?_ (by first | omega | (simp <;> omega)) _))⟩
theorem iApartOf_no0 {n1 e1 n2 e2 cn ce : Nat} (f0 : Fl .f32 cn n1) (h0 : Fl .f32 ce e1) (v0 : validC cn ce = false) (w : World) : Calls Tryz.prog 44 #[pl n1 e1, pl n2 e2] w (RS (flT2 0 false) w) := by
  have KS := Hb.mk (fun (g : Nat) => ws2_no0 (g := g) (n1 := n2) (e1 := e2) f0 h0 v0)
  clear v0
  have B0 := Hb.mk (Below.refl w.heap.size w)
  go_enter Tryz.func44, Tryz.ntmps44
  go_wp2_with (first | (go_at_call 95; refine (KS.out _ _ (by simp [go_sem]) (by simp [go_sem]) (by simp [go_sem]) (by simp [go_sem])).mono ?_; rintro ex w1 ⟨rfl, b1⟩; have B1 := Hb.mk (Below.on (B := w.heap.size) (a := w) (by repeat (first | exact B0.out | refine Below.drews ?_ | refine Below.drew ?_ | refine Below.alloc ?_ (by have hq_ := B0.out.size; first | omega | (simp <;> omega)) _ | refine Below.setCell ?_ (by have hq_ := B0.out.size; first | omega | (simp <;> omega)) _)) b1 (by have hq_ := B0.out.size; first | omega | (simp <;> omega))); clear b1))
  go_ret2
  exact ⟨rfl, (by repeat (first | exact Below.refl _ _ | exact B1.out | refine Below.drews ?_ | refine Below.drew ?_ | refine Below.alloc ?_ (by first | omega | (simp <;> omega)) _ | refine Below.setCell ?_ (by first | omega | (simp <;> omega)) _))⟩
theorem iApartOf_no1 {n1 e1 n2 e2 cn ce : Nat} (f0 : Fl .f32 n1 n1) (h0 : Fl .f32 e1 e1) (f1 : Fl .f32 cn n2) (h1 : Fl .f32 ce e2) (v0 : validC n1 e1 = true) (v1 : validC cn ce = false) (w : World) : Calls Tryz.prog 44 #[pl n1 e1, pl n2 e2] w (RS (flT2 0 false) w) := by
  have KS := Hb.mk (fun (g : Nat) => ws2_no1 (g := g) f0 h0 f1 h1 v0 v1)
  clear v0 v1
  have B0 := Hb.mk (Below.refl w.heap.size w)
  go_enter Tryz.func44, Tryz.ntmps44
  go_wp2_with (first | (go_at_call 95; refine (KS.out _ _ (by simp [go_sem]) (by simp [go_sem]) (by simp [go_sem]) (by simp [go_sem])).mono ?_; rintro ex w1 ⟨rfl, b1⟩; have B1 := Hb.mk (Below.on (B := w.heap.size) (a := w) (by repeat (first | exact B0.out | refine Below.drews ?_ | refine Below.drew ?_ | refine Below.alloc ?_ (by have hq_ := B0.out.size; first | omega | (simp <;> omega)) _ | refine Below.setCell ?_ (by have hq_ := B0.out.size; first | omega | (simp <;> omega)) _)) b1 (by have hq_ := B0.out.size; first | omega | (simp <;> omega))); clear b1))
  go_ret2
  exact ⟨rfl, (by repeat (first | exact Below.refl _ _ | exact B1.out | refine Below.drews ?_ | refine Below.drew ?_ | refine Below.alloc ?_ (by first | omega | (simp <;> omega)) _ | refine Below.setCell ?_ (by first | omega | (simp <;> omega)) _))⟩
end Go.Proofs.YtenekhckmglobaaGreat
