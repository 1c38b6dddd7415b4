/-
  PointOf's model: l03Point, kind for kind. Printed by gen_pts.py.
-/
import Derived.Test.YtenekhckmglobaaGreatPtA
import Derived.Test.YtenekhckmglobaaGreatOpp
namespace Go.Proofs.YtenekhckmglobaaGreat
open Go Go.RowKit
set_option maxRecDepth 100000

/-- What is known of a valid map's and a valid place's words. -/
structure Pm (mn me f pn pe : Nat) : Prop where
  f1 : Fl .f32 mn mn
  f2 : Fl .f32 me me
  f3 : Fl .f32 f f
  f4 : Fl .f32 pn pn
  f5 : Fl .f32 pe pe
  v1 : validC mn me = true
  v2 : validC pn pe = true
  tf : Turn f
theorem first_turn {f : Nat} (h : firstIn f = true) : Turn f := by
  unfold firstIn at h
  rw [Bool.and_eq_true] at h
  exact Turn.of ((between_ab (by decide +kernel) (by decide +kernel) (by decide +kernel) h.1 h.2).mono (by decide +kernel) (by decide +kernel))
def ptD (me pe : Nat) : Nat := fop .sub .f32 pe me
def ptE (me pe : Nat) : Nat := wrapC (ptD me pe)
theorem ptD_ab {mn me pn pe : Nat} (v1 : validC mn me = true) (v2 : validC pn pe = true) : Ab .f32 (ptD me pe) 1148846080 := (sub_ab (c := 1065353216) (valid_ab v2).2 (valid_ab v1).2 (by decide +kernel) (by decide +kernel)).mono (by decide +kernel) (by decide +kernel)
theorem ptD_fl {mn me pn pe : Nat} (v1 : validC mn me = true) (v2 : validC pn pe = true) : Fl .f32 (ptD me pe) (ptD me pe) := fop_fl (ptD_ab v1 v2).fin
theorem ptE_ab {mn me pn pe : Nat} (v1 : validC mn me = true) (v2 : validC pn pe = true) : Ab .f32 (ptE me pe) 1174405120 := wrap_ab (ptD_ab v1 v2)
theorem ptE_fl {mn me pn pe : Nat} (v1 : validC mn me = true) (v2 : validC pn pe = true) : Fl .f32 (ptE me pe) (ptE me pe) := wrap_fl (ptD_ab v1 v2)
abbrev ptA (mn me pn pe : Nat) : Nat := aptC (wxC mn me) (wyC mn me) (sineC mn) (wxC pn pe) (wyC pn pe) (sineC pn)
def ptX (a : Nat) : Nat := fcv .f32 .f64 (fop .sub .f32 1048576000 a)
theorem ptX_fin {mn me pn pe : Nat} (v1 : validC mn me = true) (v2 : validC pn pe = true) : fin .f32 (fop .sub .f32 1048576000 (crsC mn me pn pe)) = true := (sub_ab (a := 1048576000) (c := 1174405120) (ab_self (by decide +kernel)) ((Crs.of (turns_of v1).1 (turns_of v1).2 (turns_of v2).1 (turns_of v2).2).C) (by decide +kernel) (by decide +kernel)).fin
theorem ptX_wide {mn me pn pe : Nat} (v1 : validC mn me = true) (v2 : validC pn pe = true) : fin .f64 (ptX (crsC mn me pn pe)) = true := (wide_fin (ptX_fin v1 v2)).1
theorem ptX_fl {mn me pn pe : Nat} (v1 : validC mn me = true) (v2 : validC pn pe = true) : Fl .f64 (ptX (crsC mn me pn pe)) (ptX (crsC mn me pn pe)) := Fl.not (fin_notN (ptX_wide v1 v2)) (wf_fcv _)
theorem ptA_fin {mn me pn pe : Nat} (v1 : validC mn me = true) (v2 : validC pn pe = true) : fin .f32 (ptA mn me pn pe) = true := (Apt.of (Wb.way (turns_of v1).1 (turns_of v1).2) (Wb.way (turns_of v2).1 (turns_of v2).2)).ap.fin
theorem crsC_fin {mn me pn pe : Nat} (v1 : validC mn me = true) (v2 : validC pn pe = true) : fin .f32 (crsC mn me pn pe) = true := (Crs.of (turns_of v1).1 (turns_of v1).2 (turns_of v2).1 (turns_of v2).2).C.fin
set_option maxHeartbeats 2000000 in
theorem l03Point_0 {mn me f pn pe g : Nat} (hm : Pm mn me f pn pe) (w : World) (hg : g < w.heap.size) (c0 : w.cell? ⟨g, 0, none⟩ = some (.int .i64 0)) (c1 : w.cell? ⟨g, 1, none⟩ = some (.float .f32 mn)) (c2 : w.cell? ⟨g, 2, none⟩ = some (.float .f32 me)) (c3 : w.cell? ⟨g, 3, none⟩ = some (.float .f32 f)) : Calls Tryz.prog 24 #[.pointer (some ⟨g, 0, none⟩), pl pn pe] w (RS (ptT (fop .mul .f32 (roundC (ptE me pe)) (cosC f)) (roundC pn) true) w) := by
  obtain ⟨f1, f2, f3, f4, f5, v1, v2, tf⟩ := hm
  have mD : Hb (∀ w, (binOp .sub 22 (.float .f32 pe) (.float .f32 me)).run Tryz.prog w = .ok (.float .f32 (ptD me pe)) w) := ⟨fop_exact _ (ptD_ab v1 v2).fin⟩
  have KW := Hb.mk (fun w => exactF (l02Wrap_any (ptD_fl v1 v2) (ptD_ab v1 v2) w) (wrap_ab (ptD_ab v1 v2)).fin)
  have fE := ptE_fl v1 v2
  have KC := Hb.mk (l02Cosine_any f3)
  clear v1 v2 tf
  have B0 := Hb.mk (Below.refl w.heap.size w)
  have hgen : wrapC (ptD me pe) = ptE me pe := rfl
  rw [hgen] at KW
  clear hgen
  generalize ptE me pe = E at *
  generalize ptD me pe = D at *
  go_enter Tryz.func24, Tryz.ntmps24
  go_wp2
  refine region_all (by kernel_rfl) (by kernel_rfl) (fun I1 F1 hne1 HB1 hcl => ?_)
  have m0_1 := keepF HB1 (p := ⟨g, 0, none⟩) (v := .int .i64 0) (by exact (World.cell?_alloc_lt _ _ _ hg).trans c0)
  have m1_1 := keepF HB1 (p := ⟨g, 1, none⟩) (v := .float .f32 mn) (by exact (World.cell?_alloc_lt _ _ _ hg).trans c1)
  have m2_1 := keepF HB1 (p := ⟨g, 2, none⟩) (v := .float .f32 me) (by exact (World.cell?_alloc_lt _ _ _ hg).trans c2)
  have m3_1 := keepF HB1 (p := ⟨g, 3, none⟩) (v := .float .f32 f) (by exact (World.cell?_alloc_lt _ _ _ hg).trans c3)
  have a0_1 := keepF HB1 (p := ⟨w.heap.size, 0, none⟩) (v := .float .f32 pn) (by simp [go_sem])
  have a1_1 := keepF HB1 (p := ⟨w.heap.size, 1, none⟩) (v := .float .f32 pe) (by simp [go_sem])
  have gD := mD.out
  repeat (quiet_step (first | (go_at_call 52; exact callD hcl (KW.out _))))
  refine wpQuiet_nil ?_
  intro _ hw'
  obtain ⟨i1, rfl⟩ := hw'
  clear hcl
  have E1 := HB1.out i1
  have B1 := Hb.mk (Below.on (B := w.heap.size) (a := w) (by repeat (first | exact B0.out | refine Below.drews ?_ | refine Below.drew ?_ | refine Below.alloc ?_ (by have hq_ := B0.out.size; first | omega | (simp <;> omega)) _ | refine Below.setCell ?_ (by have hq_ := B0.out.size; first | omega | (simp <;> omega)) _)) E1 (by have hq_ := B0.out.size; first | omega | (simp <;> omega)))
  clear E1
  clear gD
  have tk_x : True := trivial
  go_wp2_with (first | (go_at_call_of 53 (Value.float .f32 f); refine (KC.out _).mono ?_; rintro ee ww ⟨r_c, n_c, rfl, h_c, rfl⟩) | (go_at_call_of 41 (Value.float .f32 E); refine (l03Round_any fE _).mono ?_; rintro ee ww ⟨r_e, n_e, rfl, h_e, rfl⟩) | (go_at_call_of 41 (Value.float .f32 pn); refine (l03Round_any f4 _).mono ?_; rintro ee ww ⟨r_y, n_y, rfl, h_y, rfl⟩) | (clear tk_x; refine wpList_fop rfl rfl rfl rfl rfl h_e h_c ?_; intro r_x n_x h_x; simp only [Act.put, List.setIfInBounds_toArray, List.set_cons_succ, List.set_cons_zero]) | (go_at_call 48; refine (l03Number_any h_x h_y _).mono ?_; rintro ee ww ⟨rfl, nn, rfl⟩))
  go_ret2
  exact ⟨rfl, (by repeat (first | with_reducible refine Below.setCell ?_ (by first | omega | (simp <;> omega)) _ | with_reducible refine Below.drews ?_ | with_reducible refine Below.drew ?_ | with_reducible refine Below.alloc ?_ (by first | omega | (simp <;> omega)) _ | with_reducible exact B1.out | with_reducible exact Below.refl _ _))⟩
set_option maxHeartbeats 2000000 in
theorem l03Point_1y {mn me f pn pe g : Nat} (hm : Pm mn me f pn pe) (hs : stretOk pn = true) (w : World) (hg : g < w.heap.size) (c0 : w.cell? ⟨g, 0, none⟩ = some (.int .i64 1)) (c1 : w.cell? ⟨g, 1, none⟩ = some (.float .f32 mn)) (c2 : w.cell? ⟨g, 2, none⟩ = some (.float .f32 me)) (c3 : w.cell? ⟨g, 3, none⟩ = some (.float .f32 f)) : Calls Tryz.prog 24 #[.pointer (some ⟨g, 0, none⟩), pl pn pe] w (RS (ptT (roundC (ptE me pe)) (roundC (stretV pn)) true) w) := by
  obtain ⟨f1, f2, f3, f4, f5, v1, v2, tf⟩ := hm
  have mD : Hb (∀ w, (binOp .sub 22 (.float .f32 pe) (.float .f32 me)).run Tryz.prog w = .ok (.float .f32 (ptD me pe)) w) := ⟨fop_exact _ (ptD_ab v1 v2).fin⟩
  have KW := Hb.mk (fun w => exactF (l02Wrap_any (ptD_fl v1 v2) (ptD_ab v1 v2) w) (wrap_ab (ptD_ab v1 v2)).fin)
  have fE := ptE_fl v1 v2
  have KC := Hb.mk (l02Cosine_any f3)
  have KS := l02Stretch_any f4
  rw [hs] at KS
  have KS := Hb.mk KS
  clear hs
  clear v1 v2 tf
  have B0 := Hb.mk (Below.refl w.heap.size w)
  have hgen : wrapC (ptD me pe) = ptE me pe := rfl
  rw [hgen] at KW
  clear hgen
  generalize ptE me pe = E at *
  generalize ptD me pe = D at *
  go_enter Tryz.func24, Tryz.ntmps24
  go_wp2
  refine region_all (by kernel_rfl) (by kernel_rfl) (fun I1 F1 hne1 HB1 hcl => ?_)
  have m0_1 := keepF HB1 (p := ⟨g, 0, none⟩) (v := .int .i64 1) (by exact (World.cell?_alloc_lt _ _ _ hg).trans c0)
  have m1_1 := keepF HB1 (p := ⟨g, 1, none⟩) (v := .float .f32 mn) (by exact (World.cell?_alloc_lt _ _ _ hg).trans c1)
  have m2_1 := keepF HB1 (p := ⟨g, 2, none⟩) (v := .float .f32 me) (by exact (World.cell?_alloc_lt _ _ _ hg).trans c2)
  have m3_1 := keepF HB1 (p := ⟨g, 3, none⟩) (v := .float .f32 f) (by exact (World.cell?_alloc_lt _ _ _ hg).trans c3)
  have a0_1 := keepF HB1 (p := ⟨w.heap.size, 0, none⟩) (v := .float .f32 pn) (by simp [go_sem])
  have a1_1 := keepF HB1 (p := ⟨w.heap.size, 1, none⟩) (v := .float .f32 pe) (by simp [go_sem])
  have gD := mD.out
  repeat (quiet_step (first | (go_at_call 52; exact callD hcl (KW.out _))))
  refine wpQuiet_nil ?_
  intro _ hw'
  obtain ⟨i1, rfl⟩ := hw'
  clear hcl
  have E1 := HB1.out i1
  have B1 := Hb.mk (Below.on (B := w.heap.size) (a := w) (by repeat (first | exact B0.out | refine Below.drews ?_ | refine Below.drew ?_ | refine Below.alloc ?_ (by have hq_ := B0.out.size; first | omega | (simp <;> omega)) _ | refine Below.setCell ?_ (by have hq_ := B0.out.size; first | omega | (simp <;> omega)) _)) E1 (by have hq_ := B0.out.size; first | omega | (simp <;> omega)))
  clear E1
  clear gD
  go_wp2_with (first | (go_at_call_of 53 (Value.float .f32 f); refine (KC.out _).mono ?_; rintro ee ww ⟨r_c, n_c, rfl, h_c, rfl⟩) | (go_at_call 54; refine (KS.out _).mono ?_; rintro ee ww ⟨r_t, n_t, rfl, h_t, rfl⟩) | (go_at_call_of 41 (Value.float .f32 E); refine (l03Round_any fE _).mono ?_; rintro ee ww ⟨r_e, n_e, rfl, h_e, rfl⟩) | (go_at_call_of 41 (Value.float .f32 r_t); refine (l03Round_any h_t _).mono ?_; rintro ee ww ⟨r_y, n_y, rfl, h_y, rfl⟩) | (go_at_call 48; refine (l03Number_any h_e h_y _).mono ?_; rintro ee ww ⟨rfl, nn, rfl⟩))
  go_ret2
  exact ⟨rfl, (by repeat (first | with_reducible refine Below.setCell ?_ (by first | omega | (simp <;> omega)) _ | with_reducible refine Below.drews ?_ | with_reducible refine Below.drew ?_ | with_reducible refine Below.alloc ?_ (by first | omega | (simp <;> omega)) _ | with_reducible exact B1.out | with_reducible exact Below.refl _ _))⟩
set_option maxHeartbeats 2000000 in
theorem l03Point_1n {mn me f pn pe g : Nat} (hm : Pm mn me f pn pe) (hs : stretOk pn = false) (w : World) (hg : g < w.heap.size) (c0 : w.cell? ⟨g, 0, none⟩ = some (.int .i64 1)) (c1 : w.cell? ⟨g, 1, none⟩ = some (.float .f32 mn)) (c2 : w.cell? ⟨g, 2, none⟩ = some (.float .f32 me)) (c3 : w.cell? ⟨g, 3, none⟩ = some (.float .f32 f)) : Calls Tryz.prog 24 #[.pointer (some ⟨g, 0, none⟩), pl pn pe] w (RS (cxT 0 0 false) w) := by
  obtain ⟨f1, f2, f3, f4, f5, v1, v2, tf⟩ := hm
  have mD : Hb (∀ w, (binOp .sub 22 (.float .f32 pe) (.float .f32 me)).run Tryz.prog w = .ok (.float .f32 (ptD me pe)) w) := ⟨fop_exact _ (ptD_ab v1 v2).fin⟩
  have KW := Hb.mk (fun w => exactF (l02Wrap_any (ptD_fl v1 v2) (ptD_ab v1 v2) w) (wrap_ab (ptD_ab v1 v2)).fin)
  have fE := ptE_fl v1 v2
  have KC := Hb.mk (l02Cosine_any f3)
  have KS := l02Stretch_any f4
  rw [hs] at KS
  have KS := Hb.mk KS
  clear hs
  clear v1 v2 tf
  have B0 := Hb.mk (Below.refl w.heap.size w)
  have hgen : wrapC (ptD me pe) = ptE me pe := rfl
  rw [hgen] at KW
  clear hgen
  generalize ptE me pe = E at *
  generalize ptD me pe = D at *
  go_enter Tryz.func24, Tryz.ntmps24
  go_wp2
  refine region_all (by kernel_rfl) (by kernel_rfl) (fun I1 F1 hne1 HB1 hcl => ?_)
  have m0_1 := keepF HB1 (p := ⟨g, 0, none⟩) (v := .int .i64 1) (by exact (World.cell?_alloc_lt _ _ _ hg).trans c0)
  have m1_1 := keepF HB1 (p := ⟨g, 1, none⟩) (v := .float .f32 mn) (by exact (World.cell?_alloc_lt _ _ _ hg).trans c1)
  have m2_1 := keepF HB1 (p := ⟨g, 2, none⟩) (v := .float .f32 me) (by exact (World.cell?_alloc_lt _ _ _ hg).trans c2)
  have m3_1 := keepF HB1 (p := ⟨g, 3, none⟩) (v := .float .f32 f) (by exact (World.cell?_alloc_lt _ _ _ hg).trans c3)
  have a0_1 := keepF HB1 (p := ⟨w.heap.size, 0, none⟩) (v := .float .f32 pn) (by simp [go_sem])
  have a1_1 := keepF HB1 (p := ⟨w.heap.size, 1, none⟩) (v := .float .f32 pe) (by simp [go_sem])
  have gD := mD.out
  repeat (quiet_step (first | (go_at_call 52; exact callD hcl (KW.out _))))
  refine wpQuiet_nil ?_
  intro _ hw'
  obtain ⟨i1, rfl⟩ := hw'
  clear hcl
  have E1 := HB1.out i1
  have B1 := Hb.mk (Below.on (B := w.heap.size) (a := w) (by repeat (first | exact B0.out | refine Below.drews ?_ | refine Below.drew ?_ | refine Below.alloc ?_ (by have hq_ := B0.out.size; first | omega | (simp <;> omega)) _ | refine Below.setCell ?_ (by have hq_ := B0.out.size; first | omega | (simp <;> omega)) _)) E1 (by have hq_ := B0.out.size; first | omega | (simp <;> omega)))
  clear E1
  clear gD
  go_wp2_with (first | (go_at_call_of 53 (Value.float .f32 f); refine (KC.out _).mono ?_; rintro ee ww ⟨r_c, n_c, rfl, h_c, rfl⟩) | (go_at_call 54; refine (KS.out _).mono ?_; rintro ee ww ⟨r_t, n_t, rfl, h_t, rfl⟩))
  go_ret2
  exact ⟨rfl, (by repeat (first | with_reducible refine Below.setCell ?_ (by first | omega | (simp <;> omega)) _ | with_reducible refine Below.drews ?_ | with_reducible refine Below.drew ?_ | with_reducible refine Below.alloc ?_ (by first | omega | (simp <;> omega)) _ | with_reducible exact B1.out | with_reducible exact Below.refl _ _))⟩
set_option maxHeartbeats 2000000 in
theorem l03Point_2 {mn me f pn pe g : Nat} (hm : Pm mn me f pn pe) (w : World) (hg : g < w.heap.size) (c0 : w.cell? ⟨g, 0, none⟩ = some (.int .i64 2)) (c1 : w.cell? ⟨g, 1, none⟩ = some (.float .f32 mn)) (c2 : w.cell? ⟨g, 2, none⟩ = some (.float .f32 me)) (c3 : w.cell? ⟨g, 3, none⟩ = some (.float .f32 f)) : Calls Tryz.prog 24 #[.pointer (some ⟨g, 0, none⟩), pl pn pe] w (RS (ptT (fop .mul .f32 (roundC (ptE me pe)) (cosC f)) (fop .quo .f32 (sineC pn) (cosC f)) true) w) := by
  obtain ⟨f1, f2, f3, f4, f5, v1, v2, tf⟩ := hm
  have mD : Hb (∀ w, (binOp .sub 22 (.float .f32 pe) (.float .f32 me)).run Tryz.prog w = .ok (.float .f32 (ptD me pe)) w) := ⟨fop_exact _ (ptD_ab v1 v2).fin⟩
  have KW := Hb.mk (fun w => exactF (l02Wrap_any (ptD_fl v1 v2) (ptD_ab v1 v2) w) (wrap_ab (ptD_ab v1 v2)).fin)
  have fE := ptE_fl v1 v2
  have KC := Hb.mk (l02Cosine_any f3)
  clear v1 v2 tf
  have B0 := Hb.mk (Below.refl w.heap.size w)
  have hgen : wrapC (ptD me pe) = ptE me pe := rfl
  rw [hgen] at KW
  clear hgen
  generalize ptE me pe = E at *
  generalize ptD me pe = D at *
  go_enter Tryz.func24, Tryz.ntmps24
  go_wp2
  refine region_all (by kernel_rfl) (by kernel_rfl) (fun I1 F1 hne1 HB1 hcl => ?_)
  have m0_1 := keepF HB1 (p := ⟨g, 0, none⟩) (v := .int .i64 2) (by exact (World.cell?_alloc_lt _ _ _ hg).trans c0)
  have m1_1 := keepF HB1 (p := ⟨g, 1, none⟩) (v := .float .f32 mn) (by exact (World.cell?_alloc_lt _ _ _ hg).trans c1)
  have m2_1 := keepF HB1 (p := ⟨g, 2, none⟩) (v := .float .f32 me) (by exact (World.cell?_alloc_lt _ _ _ hg).trans c2)
  have m3_1 := keepF HB1 (p := ⟨g, 3, none⟩) (v := .float .f32 f) (by exact (World.cell?_alloc_lt _ _ _ hg).trans c3)
  have a0_1 := keepF HB1 (p := ⟨w.heap.size, 0, none⟩) (v := .float .f32 pn) (by simp [go_sem])
  have a1_1 := keepF HB1 (p := ⟨w.heap.size, 1, none⟩) (v := .float .f32 pe) (by simp [go_sem])
  have gD := mD.out
  repeat (quiet_step (first | (go_at_call 52; exact callD hcl (KW.out _))))
  refine wpQuiet_nil ?_
  intro _ hw'
  obtain ⟨i1, rfl⟩ := hw'
  clear hcl
  have E1 := HB1.out i1
  have B1 := Hb.mk (Below.on (B := w.heap.size) (a := w) (by repeat (first | exact B0.out | refine Below.drews ?_ | refine Below.drew ?_ | refine Below.alloc ?_ (by have hq_ := B0.out.size; first | omega | (simp <;> omega)) _ | refine Below.setCell ?_ (by have hq_ := B0.out.size; first | omega | (simp <;> omega)) _)) E1 (by have hq_ := B0.out.size; first | omega | (simp <;> omega)))
  clear E1
  clear gD
  have tk_x : True := trivial; have tk_y : True := trivial
  go_wp2_with (first | (go_at_call_of 53 (Value.float .f32 f); refine (KC.out _).mono ?_; rintro ee ww ⟨r_c, n_c, rfl, h_c, rfl⟩) | (go_at_call_of 41 (Value.float .f32 E); refine (l03Round_any fE _).mono ?_; rintro ee ww ⟨r_e, n_e, rfl, h_e, rfl⟩) | (go_at_call_of 55 (Value.float .f32 pn); refine (l01Sine_any f4 _).mono ?_; rintro ee ww ⟨r_s, n_s, rfl, h_s, rfl⟩) | (clear tk_x; refine wpList_fop rfl rfl rfl rfl rfl h_e h_c ?_; intro r_x n_x h_x; simp only [Act.put, List.setIfInBounds_toArray, List.set_cons_succ, List.set_cons_zero]) | (clear tk_y; refine wpList_fop rfl rfl rfl rfl rfl h_s h_c ?_; intro r_y n_y h_y; simp only [Act.put, List.setIfInBounds_toArray, List.set_cons_succ, List.set_cons_zero]) | (go_at_call 48; refine (l03Number_any h_x h_y _).mono ?_; rintro ee ww ⟨rfl, nn, rfl⟩))
  go_ret2
  exact ⟨rfl, (by repeat (first | with_reducible refine Below.setCell ?_ (by first | omega | (simp <;> omega)) _ | with_reducible refine Below.drews ?_ | with_reducible refine Below.drew ?_ | with_reducible refine Below.alloc ?_ (by first | omega | (simp <;> omega)) _ | with_reducible exact B1.out | with_reducible exact Below.refl _ _))⟩
set_option maxHeartbeats 2000000 in
theorem l03Point_3 {mn me f pn pe g : Nat} (hm : Pm mn me f pn pe) (w : World) (hg : g < w.heap.size) (c0 : w.cell? ⟨g, 0, none⟩ = some (.int .i64 3)) (c1 : w.cell? ⟨g, 1, none⟩ = some (.float .f32 mn)) (c2 : w.cell? ⟨g, 2, none⟩ = some (.float .f32 me)) (c3 : w.cell? ⟨g, 3, none⟩ = some (.float .f32 f)) : Calls Tryz.prog 24 #[.pointer (some ⟨g, 0, none⟩), pl pn pe] w (RS (ptT (fop .mul .f32 (roundC (ptE me pe)) (cosC pn)) (roundC pn) true) w) := by
  obtain ⟨f1, f2, f3, f4, f5, v1, v2, tf⟩ := hm
  have mD : Hb (∀ w, (binOp .sub 22 (.float .f32 pe) (.float .f32 me)).run Tryz.prog w = .ok (.float .f32 (ptD me pe)) w) := ⟨fop_exact _ (ptD_ab v1 v2).fin⟩
  have KW := Hb.mk (fun w => exactF (l02Wrap_any (ptD_fl v1 v2) (ptD_ab v1 v2) w) (wrap_ab (ptD_ab v1 v2)).fin)
  have fE := ptE_fl v1 v2
  have KC := Hb.mk (l02Cosine_any f3)
  have KN := Hb.mk (l02Cosine_any f4)
  clear v1 v2 tf
  have B0 := Hb.mk (Below.refl w.heap.size w)
  have hgen : wrapC (ptD me pe) = ptE me pe := rfl
  rw [hgen] at KW
  clear hgen
  generalize ptE me pe = E at *
  generalize ptD me pe = D at *
  go_enter Tryz.func24, Tryz.ntmps24
  go_wp2
  refine region_all (by kernel_rfl) (by kernel_rfl) (fun I1 F1 hne1 HB1 hcl => ?_)
  have m0_1 := keepF HB1 (p := ⟨g, 0, none⟩) (v := .int .i64 3) (by exact (World.cell?_alloc_lt _ _ _ hg).trans c0)
  have m1_1 := keepF HB1 (p := ⟨g, 1, none⟩) (v := .float .f32 mn) (by exact (World.cell?_alloc_lt _ _ _ hg).trans c1)
  have m2_1 := keepF HB1 (p := ⟨g, 2, none⟩) (v := .float .f32 me) (by exact (World.cell?_alloc_lt _ _ _ hg).trans c2)
  have m3_1 := keepF HB1 (p := ⟨g, 3, none⟩) (v := .float .f32 f) (by exact (World.cell?_alloc_lt _ _ _ hg).trans c3)
  have a0_1 := keepF HB1 (p := ⟨w.heap.size, 0, none⟩) (v := .float .f32 pn) (by simp [go_sem])
  have a1_1 := keepF HB1 (p := ⟨w.heap.size, 1, none⟩) (v := .float .f32 pe) (by simp [go_sem])
  have gD := mD.out
  repeat (quiet_step (first | (go_at_call 52; exact callD hcl (KW.out _))))
  refine wpQuiet_nil ?_
  intro _ hw'
  obtain ⟨i1, rfl⟩ := hw'
  clear hcl
  have E1 := HB1.out i1
  have B1 := Hb.mk (Below.on (B := w.heap.size) (a := w) (by repeat (first | exact B0.out | refine Below.drews ?_ | refine Below.drew ?_ | refine Below.alloc ?_ (by have hq_ := B0.out.size; first | omega | (simp <;> omega)) _ | refine Below.setCell ?_ (by have hq_ := B0.out.size; first | omega | (simp <;> omega)) _)) E1 (by have hq_ := B0.out.size; first | omega | (simp <;> omega)))
  clear E1
  clear gD
  have tk_x : True := trivial
  go_wp2_with (first | (go_at_call_of 53 (Value.float .f32 f); refine (KC.out _).mono ?_; rintro ee ww ⟨r_c, n_c, rfl, h_c, rfl⟩) | (go_at_call_of 53 (Value.float .f32 pn); refine (KN.out _).mono ?_; rintro ee ww ⟨r_k, n_k, rfl, h_k, rfl⟩) | (go_at_call_of 41 (Value.float .f32 E); refine (l03Round_any fE _).mono ?_; rintro ee ww ⟨r_e, n_e, rfl, h_e, rfl⟩) | (go_at_call_of 41 (Value.float .f32 pn); refine (l03Round_any f4 _).mono ?_; rintro ee ww ⟨r_y, n_y, rfl, h_y, rfl⟩) | (clear tk_x; refine wpList_fop rfl rfl rfl rfl rfl h_e h_k ?_; intro r_x n_x h_x; simp only [Act.put, List.setIfInBounds_toArray, List.set_cons_succ, List.set_cons_zero]) | (go_at_call 48; refine (l03Number_any h_x h_y _).mono ?_; rintro ee ww ⟨rfl, nn, rfl⟩))
  go_ret2
  exact ⟨rfl, (by repeat (first | with_reducible refine Below.setCell ?_ (by first | omega | (simp <;> omega)) _ | with_reducible refine Below.drews ?_ | with_reducible refine Below.drew ?_ | with_reducible refine Below.alloc ?_ (by first | omega | (simp <;> omega)) _ | with_reducible exact B1.out | with_reducible exact Below.refl _ _))⟩
set_option maxHeartbeats 2000000 in
theorem l03Point_4y {mn me f pn pe g : Nat} (hm : Pm mn me f pn pe) {cr ci : Nat} (HP : Hb (∀ w, Calls Tryz.prog 58 #[.float .f64 (ptX (crsC mn me pn pe))] w (RC cr ci w))) (hs : sterOk (ptA mn me pn pe) = true) (w : World) (hg : g < w.heap.size) (c0 : w.cell? ⟨g, 0, none⟩ = some (.int .i64 4)) (c1 : w.cell? ⟨g, 1, none⟩ = some (.float .f32 mn)) (c2 : w.cell? ⟨g, 2, none⟩ = some (.float .f32 me)) (c3 : w.cell? ⟨g, 3, none⟩ = some (.float .f32 f)) : Calls Tryz.prog 24 #[.pointer (some ⟨g, 0, none⟩), pl pn pe] w (RS (ptT (fop .mul .f32 cr (sterC (ptA mn me pn pe))) (fop .mul .f32 ci (sterC (ptA mn me pn pe))) true) w) := by
  obtain ⟨f1, f2, f3, f4, f5, v1, v2, tf⟩ := hm
  have mD : Hb (∀ w, (binOp .sub 22 (.float .f32 pe) (.float .f32 me)).run Tryz.prog w = .ok (.float .f32 (ptD me pe)) w) := ⟨fop_exact _ (ptD_ab v1 v2).fin⟩
  have KW := Hb.mk (fun w => exactF (l02Wrap_any (ptD_fl v1 v2) (ptD_ab v1 v2) w) (wrap_ab (ptD_ab v1 v2)).fin)
  have fE := ptE_fl v1 v2
  have KC := Hb.mk (l02Cosine_any f3)
  have t1 := turns_of v1
  have t2 := turns_of v2
  have KA : Hb (∀ w, Calls Tryz.prog 42 #[pl mn me, pl pn pe] w (RS (.float .f32 (ptA mn me pn pe)) w)) := ⟨l02Apart_any f1 f2 f4 f5 t1.1 t1.2 t2.1 t2.2⟩
  have KG := Hb.mk (l02Course_any f1 f2 f4 f5 t1.1 t1.2 t2.1 t2.2)
  have fA : Fl .f32 (ptA mn me pn pe) (ptA mn me pn pe) := (Apt.of (Wb.way t1.1 t1.2) (Wb.way t2.1 t2.2)).fa
  have fG : Fl .f32 (crsC mn me pn pe) (crsC mn me pn pe) := Fl.not (fin_notN (crsC_fin v1 v2)) (wf_above (wf_angle _ _))
  have nX := Hb.mk (fin_notN (ptX_wide v1 v2))
  have eX := Hb.mk (show fcv .f32 .f64 (fop .sub .f32 1048576000 (crsC mn me pn pe)) = ptX (crsC mn me pn pe) from rfl)
  clear t1 t2
  have hs := Hb.mk (show fcmp .leq .f32 (ptA mn me pn pe) 1055286886 = true from hs)
  generalize ptX (crsC mn me pn pe) = X at *
  generalize crsC mn me pn pe = G at *
  generalize ptA mn me pn pe = A at *
  clear v1 v2 tf
  have B0 := Hb.mk (Below.refl w.heap.size w)
  have hgen : wrapC (ptD me pe) = ptE me pe := rfl
  rw [hgen] at KW
  clear hgen
  generalize ptE me pe = E at *
  generalize ptD me pe = D at *
  go_enter Tryz.func24, Tryz.ntmps24
  go_wp2
  refine region_all (by kernel_rfl) (by kernel_rfl) (fun I1 F1 hne1 HB1 hcl => ?_)
  have m0_1 := keepF HB1 (p := ⟨g, 0, none⟩) (v := .int .i64 4) (by exact (World.cell?_alloc_lt _ _ _ hg).trans c0)
  have m1_1 := keepF HB1 (p := ⟨g, 1, none⟩) (v := .float .f32 mn) (by exact (World.cell?_alloc_lt _ _ _ hg).trans c1)
  have m2_1 := keepF HB1 (p := ⟨g, 2, none⟩) (v := .float .f32 me) (by exact (World.cell?_alloc_lt _ _ _ hg).trans c2)
  have m3_1 := keepF HB1 (p := ⟨g, 3, none⟩) (v := .float .f32 f) (by exact (World.cell?_alloc_lt _ _ _ hg).trans c3)
  have a0_1 := keepF HB1 (p := ⟨w.heap.size, 0, none⟩) (v := .float .f32 pn) (by simp [go_sem])
  have a1_1 := keepF HB1 (p := ⟨w.heap.size, 1, none⟩) (v := .float .f32 pe) (by simp [go_sem])
  have gD := mD.out
  repeat (quiet_step (first | (go_at_call 52; exact callD hcl (KW.out _))))
  refine wpQuiet_nil ?_
  intro _ hw'
  obtain ⟨i1, rfl⟩ := hw'
  clear hcl
  have E1 := HB1.out i1
  have B1 := Hb.mk (Below.on (B := w.heap.size) (a := w) (by repeat (first | exact B0.out | refine Below.drews ?_ | refine Below.drew ?_ | refine Below.alloc ?_ (by have hq_ := B0.out.size; first | omega | (simp <;> omega)) _ | refine Below.setCell ?_ (by have hq_ := B0.out.size; first | omega | (simp <;> omega)) _)) E1 (by have hq_ := B0.out.size; first | omega | (simp <;> omega)))
  clear E1
  clear gD
  have tk_x : True := trivial; have tk_z : True := trivial; have tk_v : True := trivial; have tk_u : True := trivial; have tk_w : True := trivial
  go_wp2_with (first | (go_at_call_of 53 (Value.float .f32 f); refine (KC.out _).mono ?_; rintro ee ww ⟨r_c, n_c, rfl, h_c, rfl⟩) | (clear tk_x; refine wpList_fop rfl rfl rfl rfl rfl (by first | (with_reducible assumption) | (with_reducible exact Fl.ofInt _ _) | exact Fl.not (by decide +kernel) (by decide +kernel)) fA ?_; intro r_x n_x h_x; simp only [Act.put, List.setIfInBounds_toArray, List.set_cons_succ, List.set_cons_zero]) | (go_at_call_of 41 (Value.float .f32 A); refine (l03Round_any fA _).mono ?_; rintro ee ww ⟨r_r, n_r, rfl, h_r, rfl⟩) | (refine wpList_fcmp rfl rfl rfl rfl rfl (by first | (with_reducible assumption) | (with_reducible exact Fl.ofInt _ _) | exact Fl.not (by decide +kernel) (by decide +kernel)) (by first | (with_reducible assumption) | (with_reducible exact Fl.ofInt _ _) | exact Fl.not (by decide +kernel) (by decide +kernel)) ?_; simp only [Act.put, List.setIfInBounds_toArray, List.set_cons_succ, List.set_cons_zero, hs.out]) | (go_at_call_of 55 (Value.float .f32 r_x); refine (l01Sine_any h_x _).mono ?_; rintro ee ww ⟨r_s, n_s, rfl, h_s, rfl⟩) | (go_at_call_of 53 (Value.float .f32 r_x); refine (l02Cosine_any h_x _).mono ?_; rintro ee ww ⟨r_k, n_k, rfl, h_k, rfl⟩) | (clear tk_u; refine wpList_fop rfl rfl rfl rfl rfl h_s h_k ?_; intro r_u n_u h_u; simp only [Act.put, List.setIfInBounds_toArray, List.set_cons_succ, List.set_cons_zero]) | (clear tk_w; refine wpList_fop rfl rfl rfl rfl rfl (by first | (with_reducible assumption) | (with_reducible exact Fl.ofInt _ _) | exact Fl.not (by decide +kernel) (by decide +kernel)) h_u ?_; intro r_w n_w h_w; simp only [Act.put, List.setIfInBounds_toArray, List.set_cons_succ, List.set_cons_zero]) | (clear tk_z; refine wpList_fop rfl rfl rfl rfl rfl (by first | (with_reducible assumption) | (with_reducible exact Fl.ofInt _ _) | exact Fl.not (by decide +kernel) (by decide +kernel)) fG ?_; intro r_z n_z h_z; simp only [Act.put, List.setIfInBounds_toArray, List.set_cons_succ, List.set_cons_zero]) | (clear tk_v; refine wpList_fcv rfl rfl rfl (by kernel_rfl) Tryz.underlying41 (by decide) h_z (fits_wide _) ?_; intro r_v n_v h_v; rw [eX.out] at h_v; obtain rfl := (h_v.word nX.out).symm; simp only [Act.put, List.setIfInBounds_toArray, List.set_cons_succ, List.set_cons_zero]) | (go_at_call 58; refine (HP.out _).mono ?_; rintro ee ww ⟨r_p, i_p, rfl, h_p, k_p, n_p, rfl⟩) | (go_at_call 57; refine (l01Scale_any h_p k_p h_w _).mono ?_; rintro ee ww ⟨r_q, i_q, rfl, h_q, k_q, n_q, rfl⟩) | (go_at_call 48; refine (l03Number_any h_q k_q _).mono ?_; rintro ee ww ⟨rfl, nn, rfl⟩))
  refine region_all (by kernel_rfl) (by kernel_rfl) (fun I2 F2 hne2 HB2 hcl => ?_)
  have m0_2 := keepF HB2 (p := ⟨g, 0, none⟩) (v := .int .i64 4) (by first | simp [(m0_1 i1), go_sem] | exact (m0_1 i1))
  have m1_2 := keepF HB2 (p := ⟨g, 1, none⟩) (v := .float .f32 mn) (by first | simp [(m1_1 i1), go_sem] | exact (m1_1 i1))
  have m2_2 := keepF HB2 (p := ⟨g, 2, none⟩) (v := .float .f32 me) (by first | simp [(m2_1 i1), go_sem] | exact (m2_1 i1))
  have m3_2 := keepF HB2 (p := ⟨g, 3, none⟩) (v := .float .f32 f) (by first | simp [(m3_1 i1), go_sem] | exact (m3_1 i1))
  have a0_2 := keepF HB2 (p := ⟨w.heap.size, 0, none⟩) (v := .float .f32 pn) (by first | simp [(a0_1 i1), go_sem] | exact (a0_1 i1))
  have a1_2 := keepF HB2 (p := ⟨w.heap.size, 1, none⟩) (v := .float .f32 pe) (by first | simp [(a1_1 i1), go_sem] | exact (a1_1 i1))
  repeat (quiet_step (first | (go_at_call 42; exact callS hcl (KA.out _))))
  refine wpQuiet_nil ?_
  intro _ hw'
  obtain ⟨i2, rfl⟩ := hw'
  clear hcl
  have E2 := HB2.out i2
  have B2 := Hb.mk (Below.on (B := w.heap.size) (a := w) (by repeat (first | exact B1.out | refine Below.drews ?_ | refine Below.drew ?_ | refine Below.alloc ?_ (by have hq_ := B1.out.size; first | omega | (simp <;> omega)) _ | refine Below.setCell ?_ (by have hq_ := B1.out.size; first | omega | (simp <;> omega)) _)) E2 (by have hq_ := B1.out.size; first | omega | (simp <;> omega)))
  clear E2
  go_wp2_with (first | (go_at_call_of 53 (Value.float .f32 f); refine (KC.out _).mono ?_; rintro ee ww ⟨r_c, n_c, rfl, h_c, rfl⟩) | (clear tk_x; refine wpList_fop rfl rfl rfl rfl rfl (by first | (with_reducible assumption) | (with_reducible exact Fl.ofInt _ _) | exact Fl.not (by decide +kernel) (by decide +kernel)) fA ?_; intro r_x n_x h_x; simp only [Act.put, List.setIfInBounds_toArray, List.set_cons_succ, List.set_cons_zero]) | (go_at_call_of 41 (Value.float .f32 A); refine (l03Round_any fA _).mono ?_; rintro ee ww ⟨r_r, n_r, rfl, h_r, rfl⟩) | (refine wpList_fcmp rfl rfl rfl rfl rfl (by first | (with_reducible assumption) | (with_reducible exact Fl.ofInt _ _) | exact Fl.not (by decide +kernel) (by decide +kernel)) (by first | (with_reducible assumption) | (with_reducible exact Fl.ofInt _ _) | exact Fl.not (by decide +kernel) (by decide +kernel)) ?_; simp only [Act.put, List.setIfInBounds_toArray, List.set_cons_succ, List.set_cons_zero, hs.out]) | (go_at_call_of 55 (Value.float .f32 r_x); refine (l01Sine_any h_x _).mono ?_; rintro ee ww ⟨r_s, n_s, rfl, h_s, rfl⟩) | (go_at_call_of 53 (Value.float .f32 r_x); refine (l02Cosine_any h_x _).mono ?_; rintro ee ww ⟨r_k, n_k, rfl, h_k, rfl⟩) | (clear tk_u; refine wpList_fop rfl rfl rfl rfl rfl h_s h_k ?_; intro r_u n_u h_u; simp only [Act.put, List.setIfInBounds_toArray, List.set_cons_succ, List.set_cons_zero]) | (clear tk_w; refine wpList_fop rfl rfl rfl rfl rfl (by first | (with_reducible assumption) | (with_reducible exact Fl.ofInt _ _) | exact Fl.not (by decide +kernel) (by decide +kernel)) h_u ?_; intro r_w n_w h_w; simp only [Act.put, List.setIfInBounds_toArray, List.set_cons_succ, List.set_cons_zero]) | (clear tk_z; refine wpList_fop rfl rfl rfl rfl rfl (by first | (with_reducible assumption) | (with_reducible exact Fl.ofInt _ _) | exact Fl.not (by decide +kernel) (by decide +kernel)) fG ?_; intro r_z n_z h_z; simp only [Act.put, List.setIfInBounds_toArray, List.set_cons_succ, List.set_cons_zero]) | (clear tk_v; refine wpList_fcv rfl rfl rfl (by kernel_rfl) Tryz.underlying41 (by decide) h_z (fits_wide _) ?_; intro r_v n_v h_v; rw [eX.out] at h_v; obtain rfl := (h_v.word nX.out).symm; simp only [Act.put, List.setIfInBounds_toArray, List.set_cons_succ, List.set_cons_zero]) | (go_at_call 58; refine (HP.out _).mono ?_; rintro ee ww ⟨r_p, i_p, rfl, h_p, k_p, n_p, rfl⟩) | (go_at_call 57; refine (l01Scale_any h_p k_p h_w _).mono ?_; rintro ee ww ⟨r_q, i_q, rfl, h_q, k_q, n_q, rfl⟩) | (go_at_call 48; refine (l03Number_any h_q k_q _).mono ?_; rintro ee ww ⟨rfl, nn, rfl⟩))
  refine region_all (by kernel_rfl) (by kernel_rfl) (fun I3 F3 hne3 HB3 hcl => ?_)
  have m0_3 := keepF HB3 (p := ⟨g, 0, none⟩) (v := .int .i64 4) (by first | simp [(m0_2 i2), go_sem] | exact (m0_2 i2))
  have m1_3 := keepF HB3 (p := ⟨g, 1, none⟩) (v := .float .f32 mn) (by first | simp [(m1_2 i2), go_sem] | exact (m1_2 i2))
  have m2_3 := keepF HB3 (p := ⟨g, 2, none⟩) (v := .float .f32 me) (by first | simp [(m2_2 i2), go_sem] | exact (m2_2 i2))
  have m3_3 := keepF HB3 (p := ⟨g, 3, none⟩) (v := .float .f32 f) (by first | simp [(m3_2 i2), go_sem] | exact (m3_2 i2))
  have a0_3 := keepF HB3 (p := ⟨w.heap.size, 0, none⟩) (v := .float .f32 pn) (by first | simp [(a0_2 i2), go_sem] | exact (a0_2 i2))
  have a1_3 := keepF HB3 (p := ⟨w.heap.size, 1, none⟩) (v := .float .f32 pe) (by first | simp [(a1_2 i2), go_sem] | exact (a1_2 i2))
  repeat (quiet_step (first | (go_at_call 56; exact callS hcl (KG.out _))))
  refine wpQuiet_nil ?_
  intro _ hw'
  obtain ⟨i3, rfl⟩ := hw'
  clear hcl
  have E3 := HB3.out i3
  have B3 := Hb.mk (Below.on (B := w.heap.size) (a := w) (by repeat (first | exact B2.out | refine Below.drews ?_ | refine Below.drew ?_ | refine Below.alloc ?_ (by have hq_ := B2.out.size; first | omega | (simp <;> omega)) _ | refine Below.setCell ?_ (by have hq_ := B2.out.size; first | omega | (simp <;> omega)) _)) E3 (by have hq_ := B2.out.size; first | omega | (simp <;> omega)))
  clear E3
  go_wp2_with (first | (go_at_call_of 53 (Value.float .f32 f); refine (KC.out _).mono ?_; rintro ee ww ⟨r_c, n_c, rfl, h_c, rfl⟩) | (clear tk_x; refine wpList_fop rfl rfl rfl rfl rfl (by first | (with_reducible assumption) | (with_reducible exact Fl.ofInt _ _) | exact Fl.not (by decide +kernel) (by decide +kernel)) fA ?_; intro r_x n_x h_x; simp only [Act.put, List.setIfInBounds_toArray, List.set_cons_succ, List.set_cons_zero]) | (go_at_call_of 41 (Value.float .f32 A); refine (l03Round_any fA _).mono ?_; rintro ee ww ⟨r_r, n_r, rfl, h_r, rfl⟩) | (refine wpList_fcmp rfl rfl rfl rfl rfl (by first | (with_reducible assumption) | (with_reducible exact Fl.ofInt _ _) | exact Fl.not (by decide +kernel) (by decide +kernel)) (by first | (with_reducible assumption) | (with_reducible exact Fl.ofInt _ _) | exact Fl.not (by decide +kernel) (by decide +kernel)) ?_; simp only [Act.put, List.setIfInBounds_toArray, List.set_cons_succ, List.set_cons_zero, hs.out]) | (go_at_call_of 55 (Value.float .f32 r_x); refine (l01Sine_any h_x _).mono ?_; rintro ee ww ⟨r_s, n_s, rfl, h_s, rfl⟩) | (go_at_call_of 53 (Value.float .f32 r_x); refine (l02Cosine_any h_x _).mono ?_; rintro ee ww ⟨r_k, n_k, rfl, h_k, rfl⟩) | (clear tk_u; refine wpList_fop rfl rfl rfl rfl rfl h_s h_k ?_; intro r_u n_u h_u; simp only [Act.put, List.setIfInBounds_toArray, List.set_cons_succ, List.set_cons_zero]) | (clear tk_w; refine wpList_fop rfl rfl rfl rfl rfl (by first | (with_reducible assumption) | (with_reducible exact Fl.ofInt _ _) | exact Fl.not (by decide +kernel) (by decide +kernel)) h_u ?_; intro r_w n_w h_w; simp only [Act.put, List.setIfInBounds_toArray, List.set_cons_succ, List.set_cons_zero]) | (clear tk_z; refine wpList_fop rfl rfl rfl rfl rfl (by first | (with_reducible assumption) | (with_reducible exact Fl.ofInt _ _) | exact Fl.not (by decide +kernel) (by decide +kernel)) fG ?_; intro r_z n_z h_z; simp only [Act.put, List.setIfInBounds_toArray, List.set_cons_succ, List.set_cons_zero]) | (clear tk_v; refine wpList_fcv rfl rfl rfl (by kernel_rfl) Tryz.underlying41 (by decide) h_z (fits_wide _) ?_; intro r_v n_v h_v; rw [eX.out] at h_v; obtain rfl := (h_v.word nX.out).symm; simp only [Act.put, List.setIfInBounds_toArray, List.set_cons_succ, List.set_cons_zero]) | (go_at_call 58; refine (HP.out _).mono ?_; rintro ee ww ⟨r_p, i_p, rfl, h_p, k_p, n_p, rfl⟩) | (go_at_call 57; refine (l01Scale_any h_p k_p h_w _).mono ?_; rintro ee ww ⟨r_q, i_q, rfl, h_q, k_q, n_q, rfl⟩) | (go_at_call 48; refine (l03Number_any h_q k_q _).mono ?_; rintro ee ww ⟨rfl, nn, rfl⟩))
  go_ret2
  exact ⟨rfl, (by repeat (first | with_reducible refine Below.setCell ?_ (by first | omega | (simp <;> omega)) _ | with_reducible refine Below.drews ?_ | with_reducible refine Below.drew ?_ | with_reducible refine Below.alloc ?_ (by first | omega | (simp <;> omega)) _ | with_reducible exact B3.out | with_reducible exact Below.refl _ _))⟩
set_option maxHeartbeats 2000000 in
theorem l03Point_4n {mn me f pn pe g : Nat} (hm : Pm mn me f pn pe) {cr ci : Nat} (HP : Hb (∀ w, Calls Tryz.prog 58 #[.float .f64 (ptX (crsC mn me pn pe))] w (RC cr ci w))) (hs : sterOk (ptA mn me pn pe) = false) (w : World) (hg : g < w.heap.size) (c0 : w.cell? ⟨g, 0, none⟩ = some (.int .i64 4)) (c1 : w.cell? ⟨g, 1, none⟩ = some (.float .f32 mn)) (c2 : w.cell? ⟨g, 2, none⟩ = some (.float .f32 me)) (c3 : w.cell? ⟨g, 3, none⟩ = some (.float .f32 f)) : Calls Tryz.prog 24 #[.pointer (some ⟨g, 0, none⟩), pl pn pe] w (RS (cxT 0 0 false) w) := by
  obtain ⟨f1, f2, f3, f4, f5, v1, v2, tf⟩ := hm
  have mD : Hb (∀ w, (binOp .sub 22 (.float .f32 pe) (.float .f32 me)).run Tryz.prog w = .ok (.float .f32 (ptD me pe)) w) := ⟨fop_exact _ (ptD_ab v1 v2).fin⟩
  have KW := Hb.mk (fun w => exactF (l02Wrap_any (ptD_fl v1 v2) (ptD_ab v1 v2) w) (wrap_ab (ptD_ab v1 v2)).fin)
  have fE := ptE_fl v1 v2
  have KC := Hb.mk (l02Cosine_any f3)
  have t1 := turns_of v1
  have t2 := turns_of v2
  have KA : Hb (∀ w, Calls Tryz.prog 42 #[pl mn me, pl pn pe] w (RS (.float .f32 (ptA mn me pn pe)) w)) := ⟨l02Apart_any f1 f2 f4 f5 t1.1 t1.2 t2.1 t2.2⟩
  have KG := Hb.mk (l02Course_any f1 f2 f4 f5 t1.1 t1.2 t2.1 t2.2)
  have fA : Fl .f32 (ptA mn me pn pe) (ptA mn me pn pe) := (Apt.of (Wb.way t1.1 t1.2) (Wb.way t2.1 t2.2)).fa
  have fG : Fl .f32 (crsC mn me pn pe) (crsC mn me pn pe) := Fl.not (fin_notN (crsC_fin v1 v2)) (wf_above (wf_angle _ _))
  have nX := Hb.mk (fin_notN (ptX_wide v1 v2))
  have eX := Hb.mk (show fcv .f32 .f64 (fop .sub .f32 1048576000 (crsC mn me pn pe)) = ptX (crsC mn me pn pe) from rfl)
  clear t1 t2
  have hs := Hb.mk (show fcmp .leq .f32 (ptA mn me pn pe) 1055286886 = false from hs)
  generalize ptX (crsC mn me pn pe) = X at *
  generalize crsC mn me pn pe = G at *
  generalize ptA mn me pn pe = A at *
  clear v1 v2 tf
  have B0 := Hb.mk (Below.refl w.heap.size w)
  have hgen : wrapC (ptD me pe) = ptE me pe := rfl
  rw [hgen] at KW
  clear hgen
  generalize ptE me pe = E at *
  generalize ptD me pe = D at *
  go_enter Tryz.func24, Tryz.ntmps24
  go_wp2
  refine region_all (by kernel_rfl) (by kernel_rfl) (fun I1 F1 hne1 HB1 hcl => ?_)
  have m0_1 := keepF HB1 (p := ⟨g, 0, none⟩) (v := .int .i64 4) (by exact (World.cell?_alloc_lt _ _ _ hg).trans c0)
  have m1_1 := keepF HB1 (p := ⟨g, 1, none⟩) (v := .float .f32 mn) (by exact (World.cell?_alloc_lt _ _ _ hg).trans c1)
  have m2_1 := keepF HB1 (p := ⟨g, 2, none⟩) (v := .float .f32 me) (by exact (World.cell?_alloc_lt _ _ _ hg).trans c2)
  have m3_1 := keepF HB1 (p := ⟨g, 3, none⟩) (v := .float .f32 f) (by exact (World.cell?_alloc_lt _ _ _ hg).trans c3)
  have a0_1 := keepF HB1 (p := ⟨w.heap.size, 0, none⟩) (v := .float .f32 pn) (by simp [go_sem])
  have a1_1 := keepF HB1 (p := ⟨w.heap.size, 1, none⟩) (v := .float .f32 pe) (by simp [go_sem])
  have gD := mD.out
  repeat (quiet_step (first | (go_at_call 52; exact callD hcl (KW.out _))))
  refine wpQuiet_nil ?_
  intro _ hw'
  obtain ⟨i1, rfl⟩ := hw'
  clear hcl
  have E1 := HB1.out i1
  have B1 := Hb.mk (Below.on (B := w.heap.size) (a := w) (by repeat (first | exact B0.out | refine Below.drews ?_ | refine Below.drew ?_ | refine Below.alloc ?_ (by have hq_ := B0.out.size; first | omega | (simp <;> omega)) _ | refine Below.setCell ?_ (by have hq_ := B0.out.size; first | omega | (simp <;> omega)) _)) E1 (by have hq_ := B0.out.size; first | omega | (simp <;> omega)))
  clear E1
  clear gD
  have tk_x : True := trivial; have tk_z : True := trivial; have tk_v : True := trivial
  go_wp2_with (first | (go_at_call_of 53 (Value.float .f32 f); refine (KC.out _).mono ?_; rintro ee ww ⟨r_c, n_c, rfl, h_c, rfl⟩) | (clear tk_x; refine wpList_fop rfl rfl rfl rfl rfl (by first | (with_reducible assumption) | (with_reducible exact Fl.ofInt _ _) | exact Fl.not (by decide +kernel) (by decide +kernel)) fA ?_; intro r_x n_x h_x; simp only [Act.put, List.setIfInBounds_toArray, List.set_cons_succ, List.set_cons_zero]) | (go_at_call_of 41 (Value.float .f32 A); refine (l03Round_any fA _).mono ?_; rintro ee ww ⟨r_r, n_r, rfl, h_r, rfl⟩) | (refine wpList_fcmp rfl rfl rfl rfl rfl (by first | (with_reducible assumption) | (with_reducible exact Fl.ofInt _ _) | exact Fl.not (by decide +kernel) (by decide +kernel)) (by first | (with_reducible assumption) | (with_reducible exact Fl.ofInt _ _) | exact Fl.not (by decide +kernel) (by decide +kernel)) ?_; simp only [Act.put, List.setIfInBounds_toArray, List.set_cons_succ, List.set_cons_zero, hs.out]) | (clear tk_z; refine wpList_fop rfl rfl rfl rfl rfl (by first | (with_reducible assumption) | (with_reducible exact Fl.ofInt _ _) | exact Fl.not (by decide +kernel) (by decide +kernel)) fG ?_; intro r_z n_z h_z; simp only [Act.put, List.setIfInBounds_toArray, List.set_cons_succ, List.set_cons_zero]) | (clear tk_v; refine wpList_fcv rfl rfl rfl (by kernel_rfl) Tryz.underlying41 (by decide) h_z (fits_wide _) ?_; intro r_v n_v h_v; rw [eX.out] at h_v; obtain rfl := (h_v.word nX.out).symm; simp only [Act.put, List.setIfInBounds_toArray, List.set_cons_succ, List.set_cons_zero]) | (go_at_call 58; refine (HP.out _).mono ?_; rintro ee ww ⟨r_p, i_p, rfl, h_p, k_p, n_p, rfl⟩) | (go_at_call 57; refine (l01Scale_any h_p k_p h_w _).mono ?_; rintro ee ww ⟨r_q, i_q, rfl, h_q, k_q, n_q, rfl⟩) | (go_at_call 48; refine (l03Number_any h_q k_q _).mono ?_; rintro ee ww ⟨rfl, nn, rfl⟩))
  refine region_all (by kernel_rfl) (by kernel_rfl) (fun I2 F2 hne2 HB2 hcl => ?_)
  have m0_2 := keepF HB2 (p := ⟨g, 0, none⟩) (v := .int .i64 4) (by first | simp [(m0_1 i1), go_sem] | exact (m0_1 i1))
  have m1_2 := keepF HB2 (p := ⟨g, 1, none⟩) (v := .float .f32 mn) (by first | simp [(m1_1 i1), go_sem] | exact (m1_1 i1))
  have m2_2 := keepF HB2 (p := ⟨g, 2, none⟩) (v := .float .f32 me) (by first | simp [(m2_1 i1), go_sem] | exact (m2_1 i1))
  have m3_2 := keepF HB2 (p := ⟨g, 3, none⟩) (v := .float .f32 f) (by first | simp [(m3_1 i1), go_sem] | exact (m3_1 i1))
  have a0_2 := keepF HB2 (p := ⟨w.heap.size, 0, none⟩) (v := .float .f32 pn) (by first | simp [(a0_1 i1), go_sem] | exact (a0_1 i1))
  have a1_2 := keepF HB2 (p := ⟨w.heap.size, 1, none⟩) (v := .float .f32 pe) (by first | simp [(a1_1 i1), go_sem] | exact (a1_1 i1))
  repeat (quiet_step (first | (go_at_call 42; exact callS hcl (KA.out _))))
  refine wpQuiet_nil ?_
  intro _ hw'
  obtain ⟨i2, rfl⟩ := hw'
  clear hcl
  have E2 := HB2.out i2
  have B2 := Hb.mk (Below.on (B := w.heap.size) (a := w) (by repeat (first | exact B1.out | refine Below.drews ?_ | refine Below.drew ?_ | refine Below.alloc ?_ (by have hq_ := B1.out.size; first | omega | (simp <;> omega)) _ | refine Below.setCell ?_ (by have hq_ := B1.out.size; first | omega | (simp <;> omega)) _)) E2 (by have hq_ := B1.out.size; first | omega | (simp <;> omega)))
  clear E2
  go_wp2_with (first | (go_at_call_of 53 (Value.float .f32 f); refine (KC.out _).mono ?_; rintro ee ww ⟨r_c, n_c, rfl, h_c, rfl⟩) | (clear tk_x; refine wpList_fop rfl rfl rfl rfl rfl (by first | (with_reducible assumption) | (with_reducible exact Fl.ofInt _ _) | exact Fl.not (by decide +kernel) (by decide +kernel)) fA ?_; intro r_x n_x h_x; simp only [Act.put, List.setIfInBounds_toArray, List.set_cons_succ, List.set_cons_zero]) | (go_at_call_of 41 (Value.float .f32 A); refine (l03Round_any fA _).mono ?_; rintro ee ww ⟨r_r, n_r, rfl, h_r, rfl⟩) | (refine wpList_fcmp rfl rfl rfl rfl rfl (by first | (with_reducible assumption) | (with_reducible exact Fl.ofInt _ _) | exact Fl.not (by decide +kernel) (by decide +kernel)) (by first | (with_reducible assumption) | (with_reducible exact Fl.ofInt _ _) | exact Fl.not (by decide +kernel) (by decide +kernel)) ?_; simp only [Act.put, List.setIfInBounds_toArray, List.set_cons_succ, List.set_cons_zero, hs.out]) | (clear tk_z; refine wpList_fop rfl rfl rfl rfl rfl (by first | (with_reducible assumption) | (with_reducible exact Fl.ofInt _ _) | exact Fl.not (by decide +kernel) (by decide +kernel)) fG ?_; intro r_z n_z h_z; simp only [Act.put, List.setIfInBounds_toArray, List.set_cons_succ, List.set_cons_zero]) | (clear tk_v; refine wpList_fcv rfl rfl rfl (by kernel_rfl) Tryz.underlying41 (by decide) h_z (fits_wide _) ?_; intro r_v n_v h_v; rw [eX.out] at h_v; obtain rfl := (h_v.word nX.out).symm; simp only [Act.put, List.setIfInBounds_toArray, List.set_cons_succ, List.set_cons_zero]) | (go_at_call 58; refine (HP.out _).mono ?_; rintro ee ww ⟨r_p, i_p, rfl, h_p, k_p, n_p, rfl⟩) | (go_at_call 57; refine (l01Scale_any h_p k_p h_w _).mono ?_; rintro ee ww ⟨r_q, i_q, rfl, h_q, k_q, n_q, rfl⟩) | (go_at_call 48; refine (l03Number_any h_q k_q _).mono ?_; rintro ee ww ⟨rfl, nn, rfl⟩))
  refine region_all (by kernel_rfl) (by kernel_rfl) (fun I3 F3 hne3 HB3 hcl => ?_)
  have m0_3 := keepF HB3 (p := ⟨g, 0, none⟩) (v := .int .i64 4) (by first | simp [(m0_2 i2), go_sem] | exact (m0_2 i2))
  have m1_3 := keepF HB3 (p := ⟨g, 1, none⟩) (v := .float .f32 mn) (by first | simp [(m1_2 i2), go_sem] | exact (m1_2 i2))
  have m2_3 := keepF HB3 (p := ⟨g, 2, none⟩) (v := .float .f32 me) (by first | simp [(m2_2 i2), go_sem] | exact (m2_2 i2))
  have m3_3 := keepF HB3 (p := ⟨g, 3, none⟩) (v := .float .f32 f) (by first | simp [(m3_2 i2), go_sem] | exact (m3_2 i2))
  have a0_3 := keepF HB3 (p := ⟨w.heap.size, 0, none⟩) (v := .float .f32 pn) (by first | simp [(a0_2 i2), go_sem] | exact (a0_2 i2))
  have a1_3 := keepF HB3 (p := ⟨w.heap.size, 1, none⟩) (v := .float .f32 pe) (by first | simp [(a1_2 i2), go_sem] | exact (a1_2 i2))
  repeat (quiet_step (first | (go_at_call 56; exact callS hcl (KG.out _))))
  refine wpQuiet_nil ?_
  intro _ hw'
  obtain ⟨i3, rfl⟩ := hw'
  clear hcl
  have E3 := HB3.out i3
  have B3 := Hb.mk (Below.on (B := w.heap.size) (a := w) (by repeat (first | exact B2.out | refine Below.drews ?_ | refine Below.drew ?_ | refine Below.alloc ?_ (by have hq_ := B2.out.size; first | omega | (simp <;> omega)) _ | refine Below.setCell ?_ (by have hq_ := B2.out.size; first | omega | (simp <;> omega)) _)) E3 (by have hq_ := B2.out.size; first | omega | (simp <;> omega)))
  clear E3
  go_wp2_with (first | (go_at_call_of 53 (Value.float .f32 f); refine (KC.out _).mono ?_; rintro ee ww ⟨r_c, n_c, rfl, h_c, rfl⟩) | (clear tk_x; refine wpList_fop rfl rfl rfl rfl rfl (by first | (with_reducible assumption) | (with_reducible exact Fl.ofInt _ _) | exact Fl.not (by decide +kernel) (by decide +kernel)) fA ?_; intro r_x n_x h_x; simp only [Act.put, List.setIfInBounds_toArray, List.set_cons_succ, List.set_cons_zero]) | (go_at_call_of 41 (Value.float .f32 A); refine (l03Round_any fA _).mono ?_; rintro ee ww ⟨r_r, n_r, rfl, h_r, rfl⟩) | (refine wpList_fcmp rfl rfl rfl rfl rfl (by first | (with_reducible assumption) | (with_reducible exact Fl.ofInt _ _) | exact Fl.not (by decide +kernel) (by decide +kernel)) (by first | (with_reducible assumption) | (with_reducible exact Fl.ofInt _ _) | exact Fl.not (by decide +kernel) (by decide +kernel)) ?_; simp only [Act.put, List.setIfInBounds_toArray, List.set_cons_succ, List.set_cons_zero, hs.out]) | (clear tk_z; refine wpList_fop rfl rfl rfl rfl rfl (by first | (with_reducible assumption) | (with_reducible exact Fl.ofInt _ _) | exact Fl.not (by decide +kernel) (by decide +kernel)) fG ?_; intro r_z n_z h_z; simp only [Act.put, List.setIfInBounds_toArray, List.set_cons_succ, List.set_cons_zero]) | (clear tk_v; refine wpList_fcv rfl rfl rfl (by kernel_rfl) Tryz.underlying41 (by decide) h_z (fits_wide _) ?_; intro r_v n_v h_v; rw [eX.out] at h_v; obtain rfl := (h_v.word nX.out).symm; simp only [Act.put, List.setIfInBounds_toArray, List.set_cons_succ, List.set_cons_zero]) | (go_at_call 58; refine (HP.out _).mono ?_; rintro ee ww ⟨r_p, i_p, rfl, h_p, k_p, n_p, rfl⟩) | (go_at_call 57; refine (l01Scale_any h_p k_p h_w _).mono ?_; rintro ee ww ⟨r_q, i_q, rfl, h_q, k_q, n_q, rfl⟩) | (go_at_call 48; refine (l03Number_any h_q k_q _).mono ?_; rintro ee ww ⟨rfl, nn, rfl⟩))
  go_ret2
  exact ⟨rfl, (by repeat (first | with_reducible refine Below.setCell ?_ (by first | omega | (simp <;> omega)) _ | with_reducible refine Below.drews ?_ | with_reducible refine Below.drew ?_ | with_reducible refine Below.alloc ?_ (by first | omega | (simp <;> omega)) _ | with_reducible exact B3.out | with_reducible exact Below.refl _ _))⟩
set_option maxHeartbeats 2000000 in
theorem l03Point_5 {mn me f pn pe g : Nat} (hm : Pm mn me f pn pe) {cr ci : Nat} (HP : Hb (∀ w, Calls Tryz.prog 58 #[.float .f64 (ptX (crsC mn me pn pe))] w (RC cr ci w))) (w : World) (hg : g < w.heap.size) (c0 : w.cell? ⟨g, 0, none⟩ = some (.int .i64 5)) (c1 : w.cell? ⟨g, 1, none⟩ = some (.float .f32 mn)) (c2 : w.cell? ⟨g, 2, none⟩ = some (.float .f32 me)) (c3 : w.cell? ⟨g, 3, none⟩ = some (.float .f32 f)) : Calls Tryz.prog 24 #[.pointer (some ⟨g, 0, none⟩), pl pn pe] w (RS (ptT (fop .mul .f32 cr (equC (ptA mn me pn pe))) (fop .mul .f32 ci (equC (ptA mn me pn pe))) true) w) := by
  obtain ⟨f1, f2, f3, f4, f5, v1, v2, tf⟩ := hm
  have mD : Hb (∀ w, (binOp .sub 22 (.float .f32 pe) (.float .f32 me)).run Tryz.prog w = .ok (.float .f32 (ptD me pe)) w) := ⟨fop_exact _ (ptD_ab v1 v2).fin⟩
  have KW := Hb.mk (fun w => exactF (l02Wrap_any (ptD_fl v1 v2) (ptD_ab v1 v2) w) (wrap_ab (ptD_ab v1 v2)).fin)
  have fE := ptE_fl v1 v2
  have KC := Hb.mk (l02Cosine_any f3)
  have t1 := turns_of v1
  have t2 := turns_of v2
  have KA : Hb (∀ w, Calls Tryz.prog 42 #[pl mn me, pl pn pe] w (RS (.float .f32 (ptA mn me pn pe)) w)) := ⟨l02Apart_any f1 f2 f4 f5 t1.1 t1.2 t2.1 t2.2⟩
  have KG := Hb.mk (l02Course_any f1 f2 f4 f5 t1.1 t1.2 t2.1 t2.2)
  have fA : Fl .f32 (ptA mn me pn pe) (ptA mn me pn pe) := (Apt.of (Wb.way t1.1 t1.2) (Wb.way t2.1 t2.2)).fa
  have fG : Fl .f32 (crsC mn me pn pe) (crsC mn me pn pe) := Fl.not (fin_notN (crsC_fin v1 v2)) (wf_above (wf_angle _ _))
  have nX := Hb.mk (fin_notN (ptX_wide v1 v2))
  have eX := Hb.mk (show fcv .f32 .f64 (fop .sub .f32 1048576000 (crsC mn me pn pe)) = ptX (crsC mn me pn pe) from rfl)
  clear t1 t2
  generalize ptX (crsC mn me pn pe) = X at *
  generalize crsC mn me pn pe = G at *
  generalize ptA mn me pn pe = A at *
  clear v1 v2 tf
  have B0 := Hb.mk (Below.refl w.heap.size w)
  have hgen : wrapC (ptD me pe) = ptE me pe := rfl
  rw [hgen] at KW
  clear hgen
  generalize ptE me pe = E at *
  generalize ptD me pe = D at *
  go_enter Tryz.func24, Tryz.ntmps24
  go_wp2
  refine region_all (by kernel_rfl) (by kernel_rfl) (fun I1 F1 hne1 HB1 hcl => ?_)
  have m0_1 := keepF HB1 (p := ⟨g, 0, none⟩) (v := .int .i64 5) (by exact (World.cell?_alloc_lt _ _ _ hg).trans c0)
  have m1_1 := keepF HB1 (p := ⟨g, 1, none⟩) (v := .float .f32 mn) (by exact (World.cell?_alloc_lt _ _ _ hg).trans c1)
  have m2_1 := keepF HB1 (p := ⟨g, 2, none⟩) (v := .float .f32 me) (by exact (World.cell?_alloc_lt _ _ _ hg).trans c2)
  have m3_1 := keepF HB1 (p := ⟨g, 3, none⟩) (v := .float .f32 f) (by exact (World.cell?_alloc_lt _ _ _ hg).trans c3)
  have a0_1 := keepF HB1 (p := ⟨w.heap.size, 0, none⟩) (v := .float .f32 pn) (by simp [go_sem])
  have a1_1 := keepF HB1 (p := ⟨w.heap.size, 1, none⟩) (v := .float .f32 pe) (by simp [go_sem])
  have gD := mD.out
  repeat (quiet_step (first | (go_at_call 52; exact callD hcl (KW.out _))))
  refine wpQuiet_nil ?_
  intro _ hw'
  obtain ⟨i1, rfl⟩ := hw'
  clear hcl
  have E1 := HB1.out i1
  have B1 := Hb.mk (Below.on (B := w.heap.size) (a := w) (by repeat (first | exact B0.out | refine Below.drews ?_ | refine Below.drew ?_ | refine Below.alloc ?_ (by have hq_ := B0.out.size; first | omega | (simp <;> omega)) _ | refine Below.setCell ?_ (by have hq_ := B0.out.size; first | omega | (simp <;> omega)) _)) E1 (by have hq_ := B0.out.size; first | omega | (simp <;> omega)))
  clear E1
  clear gD
  have tk_x : True := trivial; have tk_z : True := trivial; have tk_v : True := trivial; have tk_w : True := trivial
  go_wp2_with (first | (go_at_call_of 53 (Value.float .f32 f); refine (KC.out _).mono ?_; rintro ee ww ⟨r_c, n_c, rfl, h_c, rfl⟩) | (clear tk_x; refine wpList_fop rfl rfl rfl rfl rfl (by first | (with_reducible assumption) | (with_reducible exact Fl.ofInt _ _) | exact Fl.not (by decide +kernel) (by decide +kernel)) fA ?_; intro r_x n_x h_x; simp only [Act.put, List.setIfInBounds_toArray, List.set_cons_succ, List.set_cons_zero]) | (go_at_call_of 41 (Value.float .f32 A); refine (l03Round_any fA _).mono ?_; rintro ee ww ⟨r_r, n_r, rfl, h_r, rfl⟩) | (go_at_call_of 55 (Value.float .f32 r_x); refine (l01Sine_any h_x _).mono ?_; rintro ee ww ⟨r_s, n_s, rfl, h_s, rfl⟩) | (clear tk_w; refine wpList_fop rfl rfl rfl rfl rfl (by first | (with_reducible assumption) | (with_reducible exact Fl.ofInt _ _) | exact Fl.not (by decide +kernel) (by decide +kernel)) h_s ?_; intro r_w n_w h_w; simp only [Act.put, List.setIfInBounds_toArray, List.set_cons_succ, List.set_cons_zero]) | (clear tk_z; refine wpList_fop rfl rfl rfl rfl rfl (by first | (with_reducible assumption) | (with_reducible exact Fl.ofInt _ _) | exact Fl.not (by decide +kernel) (by decide +kernel)) fG ?_; intro r_z n_z h_z; simp only [Act.put, List.setIfInBounds_toArray, List.set_cons_succ, List.set_cons_zero]) | (clear tk_v; refine wpList_fcv rfl rfl rfl (by kernel_rfl) Tryz.underlying41 (by decide) h_z (fits_wide _) ?_; intro r_v n_v h_v; rw [eX.out] at h_v; obtain rfl := (h_v.word nX.out).symm; simp only [Act.put, List.setIfInBounds_toArray, List.set_cons_succ, List.set_cons_zero]) | (go_at_call 58; refine (HP.out _).mono ?_; rintro ee ww ⟨r_p, i_p, rfl, h_p, k_p, n_p, rfl⟩) | (go_at_call 57; refine (l01Scale_any h_p k_p h_w _).mono ?_; rintro ee ww ⟨r_q, i_q, rfl, h_q, k_q, n_q, rfl⟩) | (go_at_call 48; refine (l03Number_any h_q k_q _).mono ?_; rintro ee ww ⟨rfl, nn, rfl⟩))
  refine region_all (by kernel_rfl) (by kernel_rfl) (fun I2 F2 hne2 HB2 hcl => ?_)
  have m0_2 := keepF HB2 (p := ⟨g, 0, none⟩) (v := .int .i64 5) (by first | simp [(m0_1 i1), go_sem] | exact (m0_1 i1))
  have m1_2 := keepF HB2 (p := ⟨g, 1, none⟩) (v := .float .f32 mn) (by first | simp [(m1_1 i1), go_sem] | exact (m1_1 i1))
  have m2_2 := keepF HB2 (p := ⟨g, 2, none⟩) (v := .float .f32 me) (by first | simp [(m2_1 i1), go_sem] | exact (m2_1 i1))
  have m3_2 := keepF HB2 (p := ⟨g, 3, none⟩) (v := .float .f32 f) (by first | simp [(m3_1 i1), go_sem] | exact (m3_1 i1))
  have a0_2 := keepF HB2 (p := ⟨w.heap.size, 0, none⟩) (v := .float .f32 pn) (by first | simp [(a0_1 i1), go_sem] | exact (a0_1 i1))
  have a1_2 := keepF HB2 (p := ⟨w.heap.size, 1, none⟩) (v := .float .f32 pe) (by first | simp [(a1_1 i1), go_sem] | exact (a1_1 i1))
  repeat (quiet_step (first | (go_at_call 42; exact callS hcl (KA.out _))))
  refine wpQuiet_nil ?_
  intro _ hw'
  obtain ⟨i2, rfl⟩ := hw'
  clear hcl
  have E2 := HB2.out i2
  have B2 := Hb.mk (Below.on (B := w.heap.size) (a := w) (by repeat (first | exact B1.out | refine Below.drews ?_ | refine Below.drew ?_ | refine Below.alloc ?_ (by have hq_ := B1.out.size; first | omega | (simp <;> omega)) _ | refine Below.setCell ?_ (by have hq_ := B1.out.size; first | omega | (simp <;> omega)) _)) E2 (by have hq_ := B1.out.size; first | omega | (simp <;> omega)))
  clear E2
  go_wp2_with (first | (go_at_call_of 53 (Value.float .f32 f); refine (KC.out _).mono ?_; rintro ee ww ⟨r_c, n_c, rfl, h_c, rfl⟩) | (clear tk_x; refine wpList_fop rfl rfl rfl rfl rfl (by first | (with_reducible assumption) | (with_reducible exact Fl.ofInt _ _) | exact Fl.not (by decide +kernel) (by decide +kernel)) fA ?_; intro r_x n_x h_x; simp only [Act.put, List.setIfInBounds_toArray, List.set_cons_succ, List.set_cons_zero]) | (go_at_call_of 41 (Value.float .f32 A); refine (l03Round_any fA _).mono ?_; rintro ee ww ⟨r_r, n_r, rfl, h_r, rfl⟩) | (go_at_call_of 55 (Value.float .f32 r_x); refine (l01Sine_any h_x _).mono ?_; rintro ee ww ⟨r_s, n_s, rfl, h_s, rfl⟩) | (clear tk_w; refine wpList_fop rfl rfl rfl rfl rfl (by first | (with_reducible assumption) | (with_reducible exact Fl.ofInt _ _) | exact Fl.not (by decide +kernel) (by decide +kernel)) h_s ?_; intro r_w n_w h_w; simp only [Act.put, List.setIfInBounds_toArray, List.set_cons_succ, List.set_cons_zero]) | (clear tk_z; refine wpList_fop rfl rfl rfl rfl rfl (by first | (with_reducible assumption) | (with_reducible exact Fl.ofInt _ _) | exact Fl.not (by decide +kernel) (by decide +kernel)) fG ?_; intro r_z n_z h_z; simp only [Act.put, List.setIfInBounds_toArray, List.set_cons_succ, List.set_cons_zero]) | (clear tk_v; refine wpList_fcv rfl rfl rfl (by kernel_rfl) Tryz.underlying41 (by decide) h_z (fits_wide _) ?_; intro r_v n_v h_v; rw [eX.out] at h_v; obtain rfl := (h_v.word nX.out).symm; simp only [Act.put, List.setIfInBounds_toArray, List.set_cons_succ, List.set_cons_zero]) | (go_at_call 58; refine (HP.out _).mono ?_; rintro ee ww ⟨r_p, i_p, rfl, h_p, k_p, n_p, rfl⟩) | (go_at_call 57; refine (l01Scale_any h_p k_p h_w _).mono ?_; rintro ee ww ⟨r_q, i_q, rfl, h_q, k_q, n_q, rfl⟩) | (go_at_call 48; refine (l03Number_any h_q k_q _).mono ?_; rintro ee ww ⟨rfl, nn, rfl⟩))
  refine region_all (by kernel_rfl) (by kernel_rfl) (fun I3 F3 hne3 HB3 hcl => ?_)
  have m0_3 := keepF HB3 (p := ⟨g, 0, none⟩) (v := .int .i64 5) (by first | simp [(m0_2 i2), go_sem] | exact (m0_2 i2))
  have m1_3 := keepF HB3 (p := ⟨g, 1, none⟩) (v := .float .f32 mn) (by first | simp [(m1_2 i2), go_sem] | exact (m1_2 i2))
  have m2_3 := keepF HB3 (p := ⟨g, 2, none⟩) (v := .float .f32 me) (by first | simp [(m2_2 i2), go_sem] | exact (m2_2 i2))
  have m3_3 := keepF HB3 (p := ⟨g, 3, none⟩) (v := .float .f32 f) (by first | simp [(m3_2 i2), go_sem] | exact (m3_2 i2))
  have a0_3 := keepF HB3 (p := ⟨w.heap.size, 0, none⟩) (v := .float .f32 pn) (by first | simp [(a0_2 i2), go_sem] | exact (a0_2 i2))
  have a1_3 := keepF HB3 (p := ⟨w.heap.size, 1, none⟩) (v := .float .f32 pe) (by first | simp [(a1_2 i2), go_sem] | exact (a1_2 i2))
  repeat (quiet_step (first | (go_at_call 56; exact callS hcl (KG.out _))))
  refine wpQuiet_nil ?_
  intro _ hw'
  obtain ⟨i3, rfl⟩ := hw'
  clear hcl
  have E3 := HB3.out i3
  have B3 := Hb.mk (Below.on (B := w.heap.size) (a := w) (by repeat (first | exact B2.out | refine Below.drews ?_ | refine Below.drew ?_ | refine Below.alloc ?_ (by have hq_ := B2.out.size; first | omega | (simp <;> omega)) _ | refine Below.setCell ?_ (by have hq_ := B2.out.size; first | omega | (simp <;> omega)) _)) E3 (by have hq_ := B2.out.size; first | omega | (simp <;> omega)))
  clear E3
  go_wp2_with (first | (go_at_call_of 53 (Value.float .f32 f); refine (KC.out _).mono ?_; rintro ee ww ⟨r_c, n_c, rfl, h_c, rfl⟩) | (clear tk_x; refine wpList_fop rfl rfl rfl rfl rfl (by first | (with_reducible assumption) | (with_reducible exact Fl.ofInt _ _) | exact Fl.not (by decide +kernel) (by decide +kernel)) fA ?_; intro r_x n_x h_x; simp only [Act.put, List.setIfInBounds_toArray, List.set_cons_succ, List.set_cons_zero]) | (go_at_call_of 41 (Value.float .f32 A); refine (l03Round_any fA _).mono ?_; rintro ee ww ⟨r_r, n_r, rfl, h_r, rfl⟩) | (go_at_call_of 55 (Value.float .f32 r_x); refine (l01Sine_any h_x _).mono ?_; rintro ee ww ⟨r_s, n_s, rfl, h_s, rfl⟩) | (clear tk_w; refine wpList_fop rfl rfl rfl rfl rfl (by first | (with_reducible assumption) | (with_reducible exact Fl.ofInt _ _) | exact Fl.not (by decide +kernel) (by decide +kernel)) h_s ?_; intro r_w n_w h_w; simp only [Act.put, List.setIfInBounds_toArray, List.set_cons_succ, List.set_cons_zero]) | (clear tk_z; refine wpList_fop rfl rfl rfl rfl rfl (by first | (with_reducible assumption) | (with_reducible exact Fl.ofInt _ _) | exact Fl.not (by decide +kernel) (by decide +kernel)) fG ?_; intro r_z n_z h_z; simp only [Act.put, List.setIfInBounds_toArray, List.set_cons_succ, List.set_cons_zero]) | (clear tk_v; refine wpList_fcv rfl rfl rfl (by kernel_rfl) Tryz.underlying41 (by decide) h_z (fits_wide _) ?_; intro r_v n_v h_v; rw [eX.out] at h_v; obtain rfl := (h_v.word nX.out).symm; simp only [Act.put, List.setIfInBounds_toArray, List.set_cons_succ, List.set_cons_zero]) | (go_at_call 58; refine (HP.out _).mono ?_; rintro ee ww ⟨r_p, i_p, rfl, h_p, k_p, n_p, rfl⟩) | (go_at_call 57; refine (l01Scale_any h_p k_p h_w _).mono ?_; rintro ee ww ⟨r_q, i_q, rfl, h_q, k_q, n_q, rfl⟩) | (go_at_call 48; refine (l03Number_any h_q k_q _).mono ?_; rintro ee ww ⟨rfl, nn, rfl⟩))
  go_ret2
  exact ⟨rfl, (by repeat (first | with_reducible refine Below.setCell ?_ (by first | omega | (simp <;> omega)) _ | with_reducible refine Below.drews ?_ | with_reducible refine Below.drew ?_ | with_reducible refine Below.alloc ?_ (by first | omega | (simp <;> omega)) _ | with_reducible exact B3.out | with_reducible exact Below.refl _ _))⟩
set_option maxHeartbeats 2000000 in
theorem l03Point_6 {mn me f pn pe g : Nat} (hm : Pm mn me f pn pe) {cr ci : Nat} (HP : Hb (∀ w, Calls Tryz.prog 58 #[.float .f64 (ptX (crsC mn me pn pe))] w (RC cr ci w))) (w : World) (hg : g < w.heap.size) (c0 : w.cell? ⟨g, 0, none⟩ = some (.int .i64 6)) (c1 : w.cell? ⟨g, 1, none⟩ = some (.float .f32 mn)) (c2 : w.cell? ⟨g, 2, none⟩ = some (.float .f32 me)) (c3 : w.cell? ⟨g, 3, none⟩ = some (.float .f32 f)) : Calls Tryz.prog 24 #[.pointer (some ⟨g, 0, none⟩), pl pn pe] w (RS (ptT (fop .mul .f32 cr (roundC (ptA mn me pn pe))) (fop .mul .f32 ci (roundC (ptA mn me pn pe))) true) w) := by
  obtain ⟨f1, f2, f3, f4, f5, v1, v2, tf⟩ := hm
  have mD : Hb (∀ w, (binOp .sub 22 (.float .f32 pe) (.float .f32 me)).run Tryz.prog w = .ok (.float .f32 (ptD me pe)) w) := ⟨fop_exact _ (ptD_ab v1 v2).fin⟩
  have KW := Hb.mk (fun w => exactF (l02Wrap_any (ptD_fl v1 v2) (ptD_ab v1 v2) w) (wrap_ab (ptD_ab v1 v2)).fin)
  have fE := ptE_fl v1 v2
  have KC := Hb.mk (l02Cosine_any f3)
  have t1 := turns_of v1
  have t2 := turns_of v2
  have KA : Hb (∀ w, Calls Tryz.prog 42 #[pl mn me, pl pn pe] w (RS (.float .f32 (ptA mn me pn pe)) w)) := ⟨l02Apart_any f1 f2 f4 f5 t1.1 t1.2 t2.1 t2.2⟩
  have KG := Hb.mk (l02Course_any f1 f2 f4 f5 t1.1 t1.2 t2.1 t2.2)
  have fA : Fl .f32 (ptA mn me pn pe) (ptA mn me pn pe) := (Apt.of (Wb.way t1.1 t1.2) (Wb.way t2.1 t2.2)).fa
  have fG : Fl .f32 (crsC mn me pn pe) (crsC mn me pn pe) := Fl.not (fin_notN (crsC_fin v1 v2)) (wf_above (wf_angle _ _))
  have nX := Hb.mk (fin_notN (ptX_wide v1 v2))
  have eX := Hb.mk (show fcv .f32 .f64 (fop .sub .f32 1048576000 (crsC mn me pn pe)) = ptX (crsC mn me pn pe) from rfl)
  clear t1 t2
  generalize ptX (crsC mn me pn pe) = X at *
  generalize crsC mn me pn pe = G at *
  generalize ptA mn me pn pe = A at *
  clear v1 v2 tf
  have B0 := Hb.mk (Below.refl w.heap.size w)
  have hgen : wrapC (ptD me pe) = ptE me pe := rfl
  rw [hgen] at KW
  clear hgen
  generalize ptE me pe = E at *
  generalize ptD me pe = D at *
  go_enter Tryz.func24, Tryz.ntmps24
  go_wp2
  refine region_all (by kernel_rfl) (by kernel_rfl) (fun I1 F1 hne1 HB1 hcl => ?_)
  have m0_1 := keepF HB1 (p := ⟨g, 0, none⟩) (v := .int .i64 6) (by exact (World.cell?_alloc_lt _ _ _ hg).trans c0)
  have m1_1 := keepF HB1 (p := ⟨g, 1, none⟩) (v := .float .f32 mn) (by exact (World.cell?_alloc_lt _ _ _ hg).trans c1)
  have m2_1 := keepF HB1 (p := ⟨g, 2, none⟩) (v := .float .f32 me) (by exact (World.cell?_alloc_lt _ _ _ hg).trans c2)
  have m3_1 := keepF HB1 (p := ⟨g, 3, none⟩) (v := .float .f32 f) (by exact (World.cell?_alloc_lt _ _ _ hg).trans c3)
  have a0_1 := keepF HB1 (p := ⟨w.heap.size, 0, none⟩) (v := .float .f32 pn) (by simp [go_sem])
  have a1_1 := keepF HB1 (p := ⟨w.heap.size, 1, none⟩) (v := .float .f32 pe) (by simp [go_sem])
  have gD := mD.out
  repeat (quiet_step (first | (go_at_call 52; exact callD hcl (KW.out _))))
  refine wpQuiet_nil ?_
  intro _ hw'
  obtain ⟨i1, rfl⟩ := hw'
  clear hcl
  have E1 := HB1.out i1
  have B1 := Hb.mk (Below.on (B := w.heap.size) (a := w) (by repeat (first | exact B0.out | refine Below.drews ?_ | refine Below.drew ?_ | refine Below.alloc ?_ (by have hq_ := B0.out.size; first | omega | (simp <;> omega)) _ | refine Below.setCell ?_ (by have hq_ := B0.out.size; first | omega | (simp <;> omega)) _)) E1 (by have hq_ := B0.out.size; first | omega | (simp <;> omega)))
  clear E1
  clear gD
  have tk_x : True := trivial; have tk_z : True := trivial; have tk_v : True := trivial
  go_wp2_with (first | (go_at_call_of 53 (Value.float .f32 f); refine (KC.out _).mono ?_; rintro ee ww ⟨r_c, n_c, rfl, h_c, rfl⟩) | (clear tk_x; refine wpList_fop rfl rfl rfl rfl rfl (by first | (with_reducible assumption) | (with_reducible exact Fl.ofInt _ _) | exact Fl.not (by decide +kernel) (by decide +kernel)) fA ?_; intro r_x n_x h_x; simp only [Act.put, List.setIfInBounds_toArray, List.set_cons_succ, List.set_cons_zero]) | (go_at_call_of 41 (Value.float .f32 A); refine (l03Round_any fA _).mono ?_; rintro ee ww ⟨r_r, n_r, rfl, h_r, rfl⟩) | (clear tk_z; refine wpList_fop rfl rfl rfl rfl rfl (by first | (with_reducible assumption) | (with_reducible exact Fl.ofInt _ _) | exact Fl.not (by decide +kernel) (by decide +kernel)) fG ?_; intro r_z n_z h_z; simp only [Act.put, List.setIfInBounds_toArray, List.set_cons_succ, List.set_cons_zero]) | (clear tk_v; refine wpList_fcv rfl rfl rfl (by kernel_rfl) Tryz.underlying41 (by decide) h_z (fits_wide _) ?_; intro r_v n_v h_v; rw [eX.out] at h_v; obtain rfl := (h_v.word nX.out).symm; simp only [Act.put, List.setIfInBounds_toArray, List.set_cons_succ, List.set_cons_zero]) | (go_at_call 58; refine (HP.out _).mono ?_; rintro ee ww ⟨r_p, i_p, rfl, h_p, k_p, n_p, rfl⟩) | (go_at_call 57; refine (l01Scale_any h_p k_p h_r _).mono ?_; rintro ee ww ⟨r_q, i_q, rfl, h_q, k_q, n_q, rfl⟩) | (go_at_call 48; refine (l03Number_any h_q k_q _).mono ?_; rintro ee ww ⟨rfl, nn, rfl⟩))
  refine region_all (by kernel_rfl) (by kernel_rfl) (fun I2 F2 hne2 HB2 hcl => ?_)
  have m0_2 := keepF HB2 (p := ⟨g, 0, none⟩) (v := .int .i64 6) (by first | simp [(m0_1 i1), go_sem] | exact (m0_1 i1))
  have m1_2 := keepF HB2 (p := ⟨g, 1, none⟩) (v := .float .f32 mn) (by first | simp [(m1_1 i1), go_sem] | exact (m1_1 i1))
  have m2_2 := keepF HB2 (p := ⟨g, 2, none⟩) (v := .float .f32 me) (by first | simp [(m2_1 i1), go_sem] | exact (m2_1 i1))
  have m3_2 := keepF HB2 (p := ⟨g, 3, none⟩) (v := .float .f32 f) (by first | simp [(m3_1 i1), go_sem] | exact (m3_1 i1))
  have a0_2 := keepF HB2 (p := ⟨w.heap.size, 0, none⟩) (v := .float .f32 pn) (by first | simp [(a0_1 i1), go_sem] | exact (a0_1 i1))
  have a1_2 := keepF HB2 (p := ⟨w.heap.size, 1, none⟩) (v := .float .f32 pe) (by first | simp [(a1_1 i1), go_sem] | exact (a1_1 i1))
  repeat (quiet_step (first | (go_at_call 42; exact callS hcl (KA.out _))))
  refine wpQuiet_nil ?_
  intro _ hw'
  obtain ⟨i2, rfl⟩ := hw'
  clear hcl
  have E2 := HB2.out i2
  have B2 := Hb.mk (Below.on (B := w.heap.size) (a := w) (by repeat (first | exact B1.out | refine Below.drews ?_ | refine Below.drew ?_ | refine Below.alloc ?_ (by have hq_ := B1.out.size; first | omega | (simp <;> omega)) _ | refine Below.setCell ?_ (by have hq_ := B1.out.size; first | omega | (simp <;> omega)) _)) E2 (by have hq_ := B1.out.size; first | omega | (simp <;> omega)))
  clear E2
  go_wp2_with (first | (go_at_call_of 53 (Value.float .f32 f); refine (KC.out _).mono ?_; rintro ee ww ⟨r_c, n_c, rfl, h_c, rfl⟩) | (clear tk_x; refine wpList_fop rfl rfl rfl rfl rfl (by first | (with_reducible assumption) | (with_reducible exact Fl.ofInt _ _) | exact Fl.not (by decide +kernel) (by decide +kernel)) fA ?_; intro r_x n_x h_x; simp only [Act.put, List.setIfInBounds_toArray, List.set_cons_succ, List.set_cons_zero]) | (go_at_call_of 41 (Value.float .f32 A); refine (l03Round_any fA _).mono ?_; rintro ee ww ⟨r_r, n_r, rfl, h_r, rfl⟩) | (clear tk_z; refine wpList_fop rfl rfl rfl rfl rfl (by first | (with_reducible assumption) | (with_reducible exact Fl.ofInt _ _) | exact Fl.not (by decide +kernel) (by decide +kernel)) fG ?_; intro r_z n_z h_z; simp only [Act.put, List.setIfInBounds_toArray, List.set_cons_succ, List.set_cons_zero]) | (clear tk_v; refine wpList_fcv rfl rfl rfl (by kernel_rfl) Tryz.underlying41 (by decide) h_z (fits_wide _) ?_; intro r_v n_v h_v; rw [eX.out] at h_v; obtain rfl := (h_v.word nX.out).symm; simp only [Act.put, List.setIfInBounds_toArray, List.set_cons_succ, List.set_cons_zero]) | (go_at_call 58; refine (HP.out _).mono ?_; rintro ee ww ⟨r_p, i_p, rfl, h_p, k_p, n_p, rfl⟩) | (go_at_call 57; refine (l01Scale_any h_p k_p h_r _).mono ?_; rintro ee ww ⟨r_q, i_q, rfl, h_q, k_q, n_q, rfl⟩) | (go_at_call 48; refine (l03Number_any h_q k_q _).mono ?_; rintro ee ww ⟨rfl, nn, rfl⟩))
  refine region_all (by kernel_rfl) (by kernel_rfl) (fun I3 F3 hne3 HB3 hcl => ?_)
  have m0_3 := keepF HB3 (p := ⟨g, 0, none⟩) (v := .int .i64 6) (by first | simp [(m0_2 i2), go_sem] | exact (m0_2 i2))
  have m1_3 := keepF HB3 (p := ⟨g, 1, none⟩) (v := .float .f32 mn) (by first | simp [(m1_2 i2), go_sem] | exact (m1_2 i2))
  have m2_3 := keepF HB3 (p := ⟨g, 2, none⟩) (v := .float .f32 me) (by first | simp [(m2_2 i2), go_sem] | exact (m2_2 i2))
  have m3_3 := keepF HB3 (p := ⟨g, 3, none⟩) (v := .float .f32 f) (by first | simp [(m3_2 i2), go_sem] | exact (m3_2 i2))
  have a0_3 := keepF HB3 (p := ⟨w.heap.size, 0, none⟩) (v := .float .f32 pn) (by first | simp [(a0_2 i2), go_sem] | exact (a0_2 i2))
  have a1_3 := keepF HB3 (p := ⟨w.heap.size, 1, none⟩) (v := .float .f32 pe) (by first | simp [(a1_2 i2), go_sem] | exact (a1_2 i2))
  repeat (quiet_step (first | (go_at_call 56; exact callS hcl (KG.out _))))
  refine wpQuiet_nil ?_
  intro _ hw'
  obtain ⟨i3, rfl⟩ := hw'
  clear hcl
  have E3 := HB3.out i3
  have B3 := Hb.mk (Below.on (B := w.heap.size) (a := w) (by repeat (first | exact B2.out | refine Below.drews ?_ | refine Below.drew ?_ | refine Below.alloc ?_ (by have hq_ := B2.out.size; first | omega | (simp <;> omega)) _ | refine Below.setCell ?_ (by have hq_ := B2.out.size; first | omega | (simp <;> omega)) _)) E3 (by have hq_ := B2.out.size; first | omega | (simp <;> omega)))
  clear E3
  go_wp2_with (first | (go_at_call_of 53 (Value.float .f32 f); refine (KC.out _).mono ?_; rintro ee ww ⟨r_c, n_c, rfl, h_c, rfl⟩) | (clear tk_x; refine wpList_fop rfl rfl rfl rfl rfl (by first | (with_reducible assumption) | (with_reducible exact Fl.ofInt _ _) | exact Fl.not (by decide +kernel) (by decide +kernel)) fA ?_; intro r_x n_x h_x; simp only [Act.put, List.setIfInBounds_toArray, List.set_cons_succ, List.set_cons_zero]) | (go_at_call_of 41 (Value.float .f32 A); refine (l03Round_any fA _).mono ?_; rintro ee ww ⟨r_r, n_r, rfl, h_r, rfl⟩) | (clear tk_z; refine wpList_fop rfl rfl rfl rfl rfl (by first | (with_reducible assumption) | (with_reducible exact Fl.ofInt _ _) | exact Fl.not (by decide +kernel) (by decide +kernel)) fG ?_; intro r_z n_z h_z; simp only [Act.put, List.setIfInBounds_toArray, List.set_cons_succ, List.set_cons_zero]) | (clear tk_v; refine wpList_fcv rfl rfl rfl (by kernel_rfl) Tryz.underlying41 (by decide) h_z (fits_wide _) ?_; intro r_v n_v h_v; rw [eX.out] at h_v; obtain rfl := (h_v.word nX.out).symm; simp only [Act.put, List.setIfInBounds_toArray, List.set_cons_succ, List.set_cons_zero]) | (go_at_call 58; refine (HP.out _).mono ?_; rintro ee ww ⟨r_p, i_p, rfl, h_p, k_p, n_p, rfl⟩) | (go_at_call 57; refine (l01Scale_any h_p k_p h_r _).mono ?_; rintro ee ww ⟨r_q, i_q, rfl, h_q, k_q, n_q, rfl⟩) | (go_at_call 48; refine (l03Number_any h_q k_q _).mono ?_; rintro ee ww ⟨rfl, nn, rfl⟩))
  go_ret2
  exact ⟨rfl, (by repeat (first | with_reducible refine Below.setCell ?_ (by first | omega | (simp <;> omega)) _ | with_reducible refine Below.drews ?_ | with_reducible refine Below.drew ?_ | with_reducible refine Below.alloc ?_ (by first | omega | (simp <;> omega)) _ | with_reducible exact B3.out | with_reducible exact Below.refl _ _))⟩
end Go.Proofs.YtenekhckmglobaaGreat
