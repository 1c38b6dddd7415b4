/-
  PointOf, of the program: what projection a map has, and where it leads. Printed by gen_pti.py.
-/
import Derived.Test.YtenekhckmglobaaGreatPtS
namespace Go.Proofs.YtenekhckmglobaaGreat
open Go Go.RowKit
set_option maxRecDepth 100000
theorem fop_pick (P : Program) {op : BinOp} (ha : arithOp op = true) (t : TypeId) {k : FloatKind} {cx cy x y : Nat} (hx : Fl k cx x) (hy : Fl k cy y) :
    ∃ R N : World → Nat, (∀ w, (binOp op t (.float k x) (.float k y)).run P w = .ok (.float k (R w)) (w.drewN (N w))) ∧ ∀ w, Fl k (fop op k cx cy) (R w) := by
  have h : ∀ w : World, ∃ rn : Nat × Nat, (binOp op t (.float k x) (.float k y)).run P w = .ok (.float k rn.1) (w.drewN rn.2) ∧ Fl k (fop op k cx cy) rn.1 := fun w => by
    obtain ⟨r, n, h1, h2⟩ := fop_run (P := P) (w := w) ha t hx hy
    exact ⟨(r, n), h1, h2⟩
  exact ⟨fun w => (Classical.choose (h w)).1, fun w => (Classical.choose (h w)).2, fun w => (Classical.choose_spec (h w)).1, fun w => (Classical.choose_spec (h w)).2⟩
@[go_sem] theorem run_store_func {P : Program} {w : World} {a : Addr} {m : Mode} (fn : Fn) (fs cs : Array Value) : (store a (.func fn fs cs) m).run P w = stored P w a (.func fn fs cs) m := run_store P w a _ m rfl
theorem firstC_any {C x b : Nat} (w : World) (hc : w.cell? ⟨b, 0, none⟩ = some (.float .f32 C)) : Calls Tryz.prog 62 #[.float .f32 x, .pointer (some ⟨b, 0, none⟩)] w (RT (.float .f32 C) w) := by
  go_enter Tryz.func62, Tryz.ntmps62
  go_wp2
  go_ret
  exact RT.any (by repeat (first | exact Drew.refl _ | refine Drew.more ?_))
theorem wholeC_any {x : Nat} (w : World) : Calls Tryz.prog 63 #[.float .f32 x] w (RT (.float .f32 1065353216) w) := by
  go_enter Tryz.func63, Tryz.ntmps63
  go_wp2
  go_ret
  exact RT.any (by repeat (first | exact Drew.refl _ | refine Drew.more ?_))
theorem evenC_any {C x b : Nat} (w : World) (hc : w.cell? ⟨b, 0, none⟩ = some (.float .f32 C)) : Calls Tryz.prog 107 #[.float .f32 x, .pointer (some ⟨b, 0, none⟩)] w (RT (.float .f32 C) w) := by
  go_enter Tryz.func107, Tryz.ntmps107
  go_wp2
  go_ret
  exact RT.any (by repeat (first | exact Drew.refl _ | refine Drew.more ?_))
set_option maxHeartbeats 1000000 in
theorem evenHigh_any {C c b : Nat} (hx : Fl .f32 c c) (hC : Fl .f32 C C) (hs : fin .f32 (sineC c) = true) (w : World) (hc : w.cell? ⟨b, 0, none⟩ = some (.float .f32 C)) : Calls Tryz.prog 108 #[.float .f32 c, .pointer (some ⟨b, 0, none⟩)] w (RP .f32 (fop .quo .f32 (sineC c) C) true w) := by
  have KS := Hb.mk (fun w => exactF (iSineTurns_any hx w) hs)
  obtain ⟨R, N, hq, hR⟩ := fop_pick Tryz.prog (op := .quo) rfl 22 (sine_ok hs) hC
  have hD : ∀ n, (w.drewN n).cell? ⟨b, 0, none⟩ = some (.float .f32 C) := fun n => by simpa [go_sem] using hc
  go_enter Tryz.func108, Tryz.ntmps108
  go_wp2
  go_region_with (go_at_call 104; refine (KS.out _).mono ?_; rintro ee ww ⟨rfl, nn, rfl⟩)
  all_goals go_wp2
  all_goals go_ret2
  all_goals exact RP.any (hR _) (by repeat (first | exact Drew.refl _ | refine Drew.more ?_))
set_option maxHeartbeats 2000000 in
theorem proj_0 {mn me f : Nat} (f3 : Fl .f32 f f) (tf : Turn f) (w : World) : Calls Tryz.prog 28 #[mp 0 mn me f] w (fun e w' => ∃ b, e = .returned (.iface 75 (.agg #[.func (.func 62) #[] #[.pointer (some ⟨b, 0, none⟩)], .func (.func 64) #[] #[], .func (.func 65) #[] #[]])) ∧ w'.cell? ⟨b, 0, none⟩ = some (.float .f32 (cosC f)) ∧ Below w.heap.size w w') := by
  have B0 := Hb.mk (Below.refl w.heap.size w)
  have KC := Hb.mk (fun w => exactF (cosineTurns_any f3 w) tf.cos.fin)
  clear tf
  generalize cosC f = C at *
  go_enter Tryz.func28, Tryz.ntmps28
  go_wp2_with (first | (go_at_call 61; refine (KC.out _).mono ?_; rintro ee ww ⟨rfl, nn, rfl⟩) | go_in)
  go_ret
  exact ⟨_, rfl, by simp [go_sem], (by repeat (first | with_reducible refine Below.setCell ?_ (by first | omega | (simp <;> omega)) _ | with_reducible refine Below.drews ?_ | with_reducible refine Below.drew ?_ | with_reducible refine Below.alloc ?_ (by first | omega | (simp <;> omega)) _ | with_reducible exact B0.out | with_reducible exact Below.refl _ _))⟩
set_option maxHeartbeats 2000000 in
theorem proj_1 {mn me f : Nat} (f3 : Fl .f32 f f) (tf : Turn f) (w : World) : Calls Tryz.prog 28 #[mp 1 mn me f] w (fun e w' => e = .returned (.iface 75 (.agg #[.func (.func 63) #[] #[], .func (.func 66) #[] #[], .func (.func 67) #[] #[]])) ∧ Below w.heap.size w w') := by
  have B0 := Hb.mk (Below.refl w.heap.size w)
  have KC := Hb.mk (fun w => exactF (cosineTurns_any f3 w) tf.cos.fin)
  clear tf
  generalize cosC f = C at *
  go_enter Tryz.func28, Tryz.ntmps28
  go_wp2_with (first | (go_at_call 61; refine (KC.out _).mono ?_; rintro ee ww ⟨rfl, nn, rfl⟩) | go_in)
  go_ret
  exact ⟨rfl, (by repeat (first | with_reducible refine Below.setCell ?_ (by first | omega | (simp <;> omega)) _ | with_reducible refine Below.drews ?_ | with_reducible refine Below.drew ?_ | with_reducible refine Below.alloc ?_ (by first | omega | (simp <;> omega)) _ | with_reducible exact B0.out | with_reducible exact Below.refl _ _))⟩
set_option maxHeartbeats 2000000 in
theorem proj_2 {mn me f : Nat} (f3 : Fl .f32 f f) (tf : Turn f) (w : World) : Calls Tryz.prog 28 #[mp 2 mn me f] w (fun e w' => ∃ b, e = .returned (.iface 75 (.agg #[.func (.func 107) #[] #[.pointer (some ⟨b, 0, none⟩)], .func (.func 108) #[] #[.pointer (some ⟨b, 0, none⟩)], .func (.func 109) #[] #[.pointer (some ⟨b, 0, none⟩)]])) ∧ w'.cell? ⟨b, 0, none⟩ = some (.float .f32 (cosC f)) ∧ Below w.heap.size w w') := by
  have B0 := Hb.mk (Below.refl w.heap.size w)
  have KC := Hb.mk (fun w => exactF (cosineTurns_any f3 w) tf.cos.fin)
  clear tf
  generalize cosC f = C at *
  go_enter Tryz.func28, Tryz.ntmps28
  go_wp2_with (first | (go_at_call 61; refine (KC.out _).mono ?_; rintro ee ww ⟨rfl, nn, rfl⟩) | go_in)
  go_ret
  exact ⟨_, rfl, by simp [go_sem], (by repeat (first | with_reducible refine Below.setCell ?_ (by first | omega | (simp <;> omega)) _ | with_reducible refine Below.drews ?_ | with_reducible refine Below.drew ?_ | with_reducible refine Below.alloc ?_ (by first | omega | (simp <;> omega)) _ | with_reducible exact B0.out | with_reducible exact Below.refl _ _))⟩
set_option maxHeartbeats 2000000 in
theorem proj_3 {mn me f : Nat} (f3 : Fl .f32 f f) (tf : Turn f) (w : World) : Calls Tryz.prog 28 #[mp 3 mn me f] w (fun e w' => e = .returned (.iface 75 (.agg #[.func (.func 61) #[] #[], .func (.func 64) #[] #[], .func (.func 65) #[] #[]])) ∧ Below w.heap.size w w') := by
  have B0 := Hb.mk (Below.refl w.heap.size w)
  have KC := Hb.mk (fun w => exactF (cosineTurns_any f3 w) tf.cos.fin)
  clear tf
  generalize cosC f = C at *
  go_enter Tryz.func28, Tryz.ntmps28
  go_wp2_with (first | (go_at_call 61; refine (KC.out _).mono ?_; rintro ee ww ⟨rfl, nn, rfl⟩) | go_in)
  go_ret
  exact ⟨rfl, (by repeat (first | with_reducible refine Below.setCell ?_ (by first | omega | (simp <;> omega)) _ | with_reducible refine Below.drews ?_ | with_reducible refine Below.drew ?_ | with_reducible refine Below.alloc ?_ (by first | omega | (simp <;> omega)) _ | with_reducible exact B0.out | with_reducible exact Below.refl _ _))⟩
set_option maxHeartbeats 2000000 in
theorem proj_4 {mn me f : Nat} (f3 : Fl .f32 f f) (tf : Turn f) (w : World) : Calls Tryz.prog 28 #[mp 4 mn me f] w (fun e w' => e = .returned (.iface 78 (.agg #[.func (.func 69) #[] #[], .func (.func 70) #[] #[]])) ∧ Below w.heap.size w w') := by
  have B0 := Hb.mk (Below.refl w.heap.size w)
  have KC := Hb.mk (fun w => exactF (cosineTurns_any f3 w) tf.cos.fin)
  clear tf
  generalize cosC f = C at *
  go_enter Tryz.func28, Tryz.ntmps28
  go_wp2_with (first | (go_at_call 61; refine (KC.out _).mono ?_; rintro ee ww ⟨rfl, nn, rfl⟩) | go_in)
  go_ret
  exact ⟨rfl, (by repeat (first | with_reducible refine Below.setCell ?_ (by first | omega | (simp <;> omega)) _ | with_reducible refine Below.drews ?_ | with_reducible refine Below.drew ?_ | with_reducible refine Below.alloc ?_ (by first | omega | (simp <;> omega)) _ | with_reducible exact B0.out | with_reducible exact Below.refl _ _))⟩
set_option maxHeartbeats 2000000 in
theorem proj_5 {mn me f : Nat} (f3 : Fl .f32 f f) (tf : Turn f) (w : World) : Calls Tryz.prog 28 #[mp 5 mn me f] w (fun e w' => e = .returned (.iface 78 (.agg #[.func (.func 71) #[] #[], .func (.func 72) #[] #[]])) ∧ Below w.heap.size w w') := by
  have B0 := Hb.mk (Below.refl w.heap.size w)
  have KC := Hb.mk (fun w => exactF (cosineTurns_any f3 w) tf.cos.fin)
  clear tf
  generalize cosC f = C at *
  go_enter Tryz.func28, Tryz.ntmps28
  go_wp2_with (first | (go_at_call 61; refine (KC.out _).mono ?_; rintro ee ww ⟨rfl, nn, rfl⟩) | go_in)
  go_ret
  exact ⟨rfl, (by repeat (first | with_reducible refine Below.setCell ?_ (by first | omega | (simp <;> omega)) _ | with_reducible refine Below.drews ?_ | with_reducible refine Below.drew ?_ | with_reducible refine Below.alloc ?_ (by first | omega | (simp <;> omega)) _ | with_reducible exact B0.out | with_reducible exact Below.refl _ _))⟩
set_option maxHeartbeats 2000000 in
theorem proj_6 {mn me f : Nat} (f3 : Fl .f32 f f) (tf : Turn f) (w : World) : Calls Tryz.prog 28 #[mp 6 mn me f] w (fun e w' => e = .returned (.iface 78 (.agg #[.func (.func 73) #[] #[], .func (.func 74) #[] #[]])) ∧ Below w.heap.size w w') := by
  have B0 := Hb.mk (Below.refl w.heap.size w)
  have KC := Hb.mk (fun w => exactF (cosineTurns_any f3 w) tf.cos.fin)
  clear tf
  generalize cosC f = C at *
  go_enter Tryz.func28, Tryz.ntmps28
  go_wp2_with (first | (go_at_call 61; refine (KC.out _).mono ?_; rintro ee ww ⟨rfl, nn, rfl⟩) | go_in)
  go_ret
  exact ⟨rfl, (by repeat (first | with_reducible refine Below.setCell ?_ (by first | omega | (simp <;> omega)) _ | with_reducible refine Below.drews ?_ | with_reducible refine Below.drew ?_ | with_reducible refine Below.alloc ?_ (by first | omega | (simp <;> omega)) _ | with_reducible exact B0.out | with_reducible exact Below.refl _ _))⟩
set_option maxHeartbeats 2000000 in
theorem iPt_0 {mn me f pn pe : Nat} {b : Nat} (hm : Pm mn me f pn pe) (w : World) (hc : w.cell? ⟨b, 0, none⟩ = some (.float .f32 (cosC f))) : Calls Tryz.prog 162 #[.agg #[.func (.func 62) #[] #[.pointer (some ⟨b, 0, none⟩)], .func (.func 64) #[] #[], .func (.func 65) #[] #[]], mp 0 mn me f, pl pn pe] w (RCB (fop .mul .f32 (roundC (ptE me pe)) (cosC f)) (roundC pn) (true) w) := by
  have B0 := Hb.mk (Below.refl w.heap.size w)
  obtain ⟨f1, f2, f3, f4, f5, v1, v2, tf⟩ := hm
  have KD := Hb.mk (ptD_ab v1 v2)
  have eD := Hb.mk (show fop .sub .f32 pe me = ptD me pe from rfl)
  have fC : Fl .f32 (cosC f) (cosC f) := sine_ok tf.cos.fin
  have hs := (turns_of v2).1.sine.fin
  have fO : Fl .f32 1065353216 1065353216 := Fl.not (by decide +kernel) (by decide +kernel)
  have eO := Hb.mk (mul_one32 (x := roundC (ptE me pe)) (mul_ab (a := 1086918619) (c := 1207959552) (ab_self (by decide +kernel)) (ptE_ab v1 v2) (by decide +kernel) (by decide +kernel)).fin (wf_fop _ _ _ _))
  have eR := Hb.mk (show fop .mul .f32 1086918619 (ptE me pe) = roundC (ptE me pe) from rfl)
  have eE := Hb.mk (show wrapC (ptD me pe) = ptE me pe from rfl)
  clear v1 v2 tf
  generalize cosC f = C at *
  go_enter Tryz.func162, Tryz.ntmps162
  have tk_d : True := trivial; have tk_r : True := trivial; have tk_m : True := trivial
  go_wp2_with (first | (go_at_call 64; refine (plateHigh_any f4 _).mono ?_; rintro ee ww ⟨r_h, n_h, rfl, h_h, rfl⟩) | (go_at_call 62; refine (firstC_any _ (Below.keep (by repeat (first | exact B0.out | refine Below.drews ?_ | refine Below.drew ?_ | refine Below.alloc ?_ (by have hq_ := B0.out.size; first | omega | (simp <;> omega)) _ | refine Below.setCell ?_ (by have hq_ := B0.out.size; first | omega | (simp <;> omega)) _)) hc)).mono ?_; rintro ee ww ⟨rfl, n_w, rfl⟩) | (clear tk_d; refine wpList_fop rfl rfl rfl rfl rfl f5 f2 ?_; intro r_d n_d h_d; rw [eD.out] at h_d; simp only [Act.put, List.setIfInBounds_toArray, List.set_cons_succ, List.set_cons_zero]) | (go_at_call 115; refine (wrapped_any h_d KD.out _).mono ?_; rw [eE.out]; rintro ee ww ⟨r_e, n_e, rfl, h_e, rfl⟩) | (clear tk_r; refine wpList_fop rfl rfl rfl rfl rfl (by first | (with_reducible assumption) | (with_reducible exact Fl.ofInt _ _) | exact Fl.not (by decide +kernel) (by decide +kernel)) h_e ?_; intro r_r n_r h_r; rw [eR.out] at h_r; simp only [Act.put, List.setIfInBounds_toArray, List.set_cons_succ, List.set_cons_zero]) | (clear tk_m; refine wpList_fop rfl rfl rfl rfl rfl h_r fC ?_; intro r_m n_m h_m; simp only [Act.put, List.setIfInBounds_toArray, List.set_cons_succ, List.set_cons_zero]))
  go_ret2
  exact ⟨_, _, rfl, h_m, h_h, (by repeat (first | with_reducible refine Below.setCell ?_ (by first | omega | (simp <;> omega)) _ | with_reducible refine Below.drews ?_ | with_reducible refine Below.drew ?_ | with_reducible refine Below.alloc ?_ (by first | omega | (simp <;> omega)) _ | with_reducible exact B0.out | with_reducible exact Below.refl _ _))⟩
set_option maxHeartbeats 2000000 in
theorem iPt_1 {mn me f pn pe : Nat} (hm : Pm mn me f pn pe) (w : World) : Calls Tryz.prog 162 #[.agg #[.func (.func 63) #[] #[], .func (.func 66) #[] #[], .func (.func 67) #[] #[]], mp 1 mn me f, pl pn pe] w (RCB (roundC (ptE me pe)) (roundC (stretV pn)) (stretOk pn) w) := by
  have B0 := Hb.mk (Below.refl w.heap.size w)
  obtain ⟨f1, f2, f3, f4, f5, v1, v2, tf⟩ := hm
  have KD := Hb.mk (ptD_ab v1 v2)
  have eD := Hb.mk (show fop .sub .f32 pe me = ptD me pe from rfl)
  have fC : Fl .f32 (cosC f) (cosC f) := sine_ok tf.cos.fin
  have hs := (turns_of v2).1.sine.fin
  have fO : Fl .f32 1065353216 1065353216 := Fl.not (by decide +kernel) (by decide +kernel)
  have eO := Hb.mk (mul_one32 (x := roundC (ptE me pe)) (mul_ab (a := 1086918619) (c := 1207959552) (ab_self (by decide +kernel)) (ptE_ab v1 v2) (by decide +kernel) (by decide +kernel)).fin (wf_fop _ _ _ _))
  have eR := Hb.mk (show fop .mul .f32 1086918619 (ptE me pe) = roundC (ptE me pe) from rfl)
  have eE := Hb.mk (show wrapC (ptD me pe) = ptE me pe from rfl)
  clear v1 v2 tf
  generalize cosC f = C at *
  go_enter Tryz.func162, Tryz.ntmps162
  have tk_d : True := trivial; have tk_r : True := trivial; have tk_m : True := trivial
  go_wp2_with (first | (go_at_call 66; refine (mercatorHigh_any f4 _).mono ?_; rintro ee ww ⟨r_h, n_h, rfl, h_h, rfl⟩) | (go_at_call 63; refine (wholeC_any _).mono ?_; rintro ee ww ⟨rfl, n_w, rfl⟩) | (clear tk_d; refine wpList_fop rfl rfl rfl rfl rfl f5 f2 ?_; intro r_d n_d h_d; rw [eD.out] at h_d; simp only [Act.put, List.setIfInBounds_toArray, List.set_cons_succ, List.set_cons_zero]) | (go_at_call 115; refine (wrapped_any h_d KD.out _).mono ?_; rw [eE.out]; rintro ee ww ⟨r_e, n_e, rfl, h_e, rfl⟩) | (clear tk_r; refine wpList_fop rfl rfl rfl rfl rfl (by first | (with_reducible assumption) | (with_reducible exact Fl.ofInt _ _) | exact Fl.not (by decide +kernel) (by decide +kernel)) h_e ?_; intro r_r n_r h_r; rw [eR.out] at h_r; simp only [Act.put, List.setIfInBounds_toArray, List.set_cons_succ, List.set_cons_zero]) | (clear tk_m; refine wpList_fop rfl rfl rfl rfl rfl h_r fO ?_; intro r_m n_m h_m; simp only [Act.put, List.setIfInBounds_toArray, List.set_cons_succ, List.set_cons_zero]))
  go_ret2
  exact ⟨_, _, rfl, (eO.out ▸ h_m), h_h, (by repeat (first | with_reducible refine Below.setCell ?_ (by first | omega | (simp <;> omega)) _ | with_reducible refine Below.drews ?_ | with_reducible refine Below.drew ?_ | with_reducible refine Below.alloc ?_ (by first | omega | (simp <;> omega)) _ | with_reducible exact B0.out | with_reducible exact Below.refl _ _))⟩
set_option maxHeartbeats 2000000 in
theorem iPt_2 {mn me f pn pe : Nat} {b : Nat} (hm : Pm mn me f pn pe) (w : World) (hc : w.cell? ⟨b, 0, none⟩ = some (.float .f32 (cosC f))) : Calls Tryz.prog 162 #[.agg #[.func (.func 107) #[] #[.pointer (some ⟨b, 0, none⟩)], .func (.func 108) #[] #[.pointer (some ⟨b, 0, none⟩)], .func (.func 109) #[] #[.pointer (some ⟨b, 0, none⟩)]], mp 2 mn me f, pl pn pe] w (RCB (fop .mul .f32 (roundC (ptE me pe)) (cosC f)) (fop .quo .f32 (sineC pn) (cosC f)) (true) w) := by
  have B0 := Hb.mk (Below.refl w.heap.size w)
  obtain ⟨f1, f2, f3, f4, f5, v1, v2, tf⟩ := hm
  have KD := Hb.mk (ptD_ab v1 v2)
  have eD := Hb.mk (show fop .sub .f32 pe me = ptD me pe from rfl)
  have fC : Fl .f32 (cosC f) (cosC f) := sine_ok tf.cos.fin
  have hs := (turns_of v2).1.sine.fin
  have fO : Fl .f32 1065353216 1065353216 := Fl.not (by decide +kernel) (by decide +kernel)
  have eO := Hb.mk (mul_one32 (x := roundC (ptE me pe)) (mul_ab (a := 1086918619) (c := 1207959552) (ab_self (by decide +kernel)) (ptE_ab v1 v2) (by decide +kernel) (by decide +kernel)).fin (wf_fop _ _ _ _))
  have eR := Hb.mk (show fop .mul .f32 1086918619 (ptE me pe) = roundC (ptE me pe) from rfl)
  have eE := Hb.mk (show wrapC (ptD me pe) = ptE me pe from rfl)
  clear v1 v2 tf
  generalize cosC f = C at *
  go_enter Tryz.func162, Tryz.ntmps162
  have tk_d : True := trivial; have tk_r : True := trivial; have tk_m : True := trivial
  go_wp2_with (first | (go_at_call 108; refine (evenHigh_any f4 fC hs _ (Below.keep (by repeat (first | exact B0.out | refine Below.drews ?_ | refine Below.drew ?_ | refine Below.alloc ?_ (by have hq_ := B0.out.size; first | omega | (simp <;> omega)) _ | refine Below.setCell ?_ (by have hq_ := B0.out.size; first | omega | (simp <;> omega)) _)) hc)).mono ?_; rintro ee ww ⟨r_h, n_h, rfl, h_h, rfl⟩) | (go_at_call 107; refine (evenC_any _ (Below.keep (by repeat (first | exact B0.out | refine Below.drews ?_ | refine Below.drew ?_ | refine Below.alloc ?_ (by have hq_ := B0.out.size; first | omega | (simp <;> omega)) _ | refine Below.setCell ?_ (by have hq_ := B0.out.size; first | omega | (simp <;> omega)) _)) hc)).mono ?_; rintro ee ww ⟨rfl, n_w, rfl⟩) | (clear tk_d; refine wpList_fop rfl rfl rfl rfl rfl f5 f2 ?_; intro r_d n_d h_d; rw [eD.out] at h_d; simp only [Act.put, List.setIfInBounds_toArray, List.set_cons_succ, List.set_cons_zero]) | (go_at_call 115; refine (wrapped_any h_d KD.out _).mono ?_; rw [eE.out]; rintro ee ww ⟨r_e, n_e, rfl, h_e, rfl⟩) | (clear tk_r; refine wpList_fop rfl rfl rfl rfl rfl (by first | (with_reducible assumption) | (with_reducible exact Fl.ofInt _ _) | exact Fl.not (by decide +kernel) (by decide +kernel)) h_e ?_; intro r_r n_r h_r; rw [eR.out] at h_r; simp only [Act.put, List.setIfInBounds_toArray, List.set_cons_succ, List.set_cons_zero]) | (clear tk_m; refine wpList_fop rfl rfl rfl rfl rfl h_r fC ?_; intro r_m n_m h_m; simp only [Act.put, List.setIfInBounds_toArray, List.set_cons_succ, List.set_cons_zero]))
  go_ret2
  exact ⟨_, _, rfl, h_m, h_h, (by repeat (first | with_reducible refine Below.setCell ?_ (by first | omega | (simp <;> omega)) _ | with_reducible refine Below.drews ?_ | with_reducible refine Below.drew ?_ | with_reducible refine Below.alloc ?_ (by first | omega | (simp <;> omega)) _ | with_reducible exact B0.out | with_reducible exact Below.refl _ _))⟩
set_option maxHeartbeats 2000000 in
theorem iPt_3 {mn me f pn pe : Nat} (hm : Pm mn me f pn pe) (w : World) : Calls Tryz.prog 162 #[.agg #[.func (.func 61) #[] #[], .func (.func 64) #[] #[], .func (.func 65) #[] #[]], mp 3 mn me f, pl pn pe] w (RCB (fop .mul .f32 (roundC (ptE me pe)) (cosC pn)) (roundC pn) (true) w) := by
  have B0 := Hb.mk (Below.refl w.heap.size w)
  obtain ⟨f1, f2, f3, f4, f5, v1, v2, tf⟩ := hm
  have KD := Hb.mk (ptD_ab v1 v2)
  have eD := Hb.mk (show fop .sub .f32 pe me = ptD me pe from rfl)
  have fC : Fl .f32 (cosC f) (cosC f) := sine_ok tf.cos.fin
  have hs := (turns_of v2).1.sine.fin
  have fO : Fl .f32 1065353216 1065353216 := Fl.not (by decide +kernel) (by decide +kernel)
  have eO := Hb.mk (mul_one32 (x := roundC (ptE me pe)) (mul_ab (a := 1086918619) (c := 1207959552) (ab_self (by decide +kernel)) (ptE_ab v1 v2) (by decide +kernel) (by decide +kernel)).fin (wf_fop _ _ _ _))
  have eR := Hb.mk (show fop .mul .f32 1086918619 (ptE me pe) = roundC (ptE me pe) from rfl)
  have eE := Hb.mk (show wrapC (ptD me pe) = ptE me pe from rfl)
  clear v1 v2 tf
  generalize cosC f = C at *
  go_enter Tryz.func162, Tryz.ntmps162
  have tk_d : True := trivial; have tk_r : True := trivial; have tk_m : True := trivial
  go_wp2_with (first | (go_at_call 64; refine (plateHigh_any f4 _).mono ?_; rintro ee ww ⟨r_h, n_h, rfl, h_h, rfl⟩) | (go_at_call 61; refine (cosineTurns_any f4 _).mono ?_; rintro ee ww ⟨r_w, n_w, rfl, h_w, rfl⟩) | (clear tk_d; refine wpList_fop rfl rfl rfl rfl rfl f5 f2 ?_; intro r_d n_d h_d; rw [eD.out] at h_d; simp only [Act.put, List.setIfInBounds_toArray, List.set_cons_succ, List.set_cons_zero]) | (go_at_call 115; refine (wrapped_any h_d KD.out _).mono ?_; rw [eE.out]; rintro ee ww ⟨r_e, n_e, rfl, h_e, rfl⟩) | (clear tk_r; refine wpList_fop rfl rfl rfl rfl rfl (by first | (with_reducible assumption) | (with_reducible exact Fl.ofInt _ _) | exact Fl.not (by decide +kernel) (by decide +kernel)) h_e ?_; intro r_r n_r h_r; rw [eR.out] at h_r; simp only [Act.put, List.setIfInBounds_toArray, List.set_cons_succ, List.set_cons_zero]) | (clear tk_m; refine wpList_fop rfl rfl rfl rfl rfl h_r h_w ?_; intro r_m n_m h_m; simp only [Act.put, List.setIfInBounds_toArray, List.set_cons_succ, List.set_cons_zero]))
  go_ret2
  exact ⟨_, _, rfl, h_m, h_h, (by repeat (first | with_reducible refine Below.setCell ?_ (by first | omega | (simp <;> omega)) _ | with_reducible refine Below.drews ?_ | with_reducible refine Below.drew ?_ | with_reducible refine Below.alloc ?_ (by first | omega | (simp <;> omega)) _ | with_reducible exact B0.out | with_reducible exact Below.refl _ _))⟩
theorem iPoC_any {G X cr ci : Nat} (fG : Fl .f32 G G) (nX : isN .f64 X = false) (eX : fcv .f32 .f64 (fop .sub .f32 1048576000 G) = X) (HP : Hb (∀ w, Calls Tryz.prog 168 #[.float .f64 X] w (RC cr ci w))) (w : World) : Calls Tryz.prog 166 #[.float .f32 G] w (RC cr ci w) := by
  have nX := Hb.mk nX
  have eX := Hb.mk eX
  go_enter Tryz.func166, Tryz.ntmps166
  have tk_z : True := trivial; have tk_v : True := trivial
  go_wp2_with (first | (clear tk_z; refine wpList_fop rfl rfl rfl rfl rfl (by first | (with_reducible assumption) | (with_reducible exact Fl.ofInt _ _) | exact Fl.not (by decide +kernel) (by decide +kernel)) fG ?_; intro r_z n_z h_z; simp only [Act.put, List.setIfInBounds_toArray, List.set_cons_succ, List.set_cons_zero]) | (clear tk_v; refine wpList_fcv rfl rfl rfl (by kernel_rfl) Tryz.underlying41 (by decide) h_z (fits_wide _) ?_; intro r_v n_v h_v; rw [eX.out] at h_v; obtain rfl := (h_v.word nX.out).symm; simp only [Act.put, List.setIfInBounds_toArray, List.set_cons_succ, List.set_cons_zero]) | (go_at_call 168; refine (HP.out _).mono ?_; rintro ee ww ⟨r_p, i_p, rfl, h_p, k_p, n_p, rfl⟩))
  go_ret
  exact ⟨_, _, rfl, h_p, k_p, (by repeat (first | exact Drew.refl _ | refine Drew.more ?_))⟩
set_option maxHeartbeats 2000000 in
theorem iPt_4 {mn me f pn pe cr ci : Nat} (HP : Hb (∀ w, Calls Tryz.prog 168 #[.float .f64 (ptX (crsC mn me pn pe))] w (RC cr ci w))) (hm : Pm mn me f pn pe) (w : World) : Calls Tryz.prog 164 #[.agg #[.func (.func 69) #[] #[], .func (.func 70) #[] #[]], mp 4 mn me f, pl pn pe] w (RCB (fop .mul .f32 cr (sterC (ptA mn me pn pe))) (fop .mul .f32 ci (sterC (ptA mn me pn pe))) (sterOk (ptA mn me pn pe)) w) := by
  have B0 := Hb.mk (Below.refl w.heap.size w)
  obtain ⟨f1, f2, f3, f4, f5, v1, v2, tf⟩ := hm
  have t1 := turns_of v1
  have t2 := turns_of v2
  have KA : Hb (∀ w, Calls Tryz.prog 44 #[pl mn me, pl pn pe] w (RS (flT2 (ptA mn me pn pe) true) w)) := ⟨iApartOf_yes f1 f2 f4 f5 v1 v2⟩
  have KG := Hb.mk (iCourseTo_yes f1 f2 f4 f5 v1 v2)
  have fA : Fl .f32 (ptA mn me pn pe) (ptA mn me pn pe) := (Apt.of (Wb.way t1.1 t1.2) (Wb.way t2.1 t2.2)).fa
  have hA := ptA_fin v1 v2
  have fG : Fl .f32 (crsC mn me pn pe) (crsC mn me pn pe) := Fl.not (fin_notN (crsC_fin v1 v2)) (wf_above (wf_angle _ _))
  have nX := Hb.mk (fin_notN (ptX_wide v1 v2))
  have eX := Hb.mk (show fcv .f32 .f64 (fop .sub .f32 1048576000 (crsC mn me pn pe)) = ptX (crsC mn me pn pe) from rfl)
  clear t1 t2 v1 v2 tf
  generalize ptX (crsC mn me pn pe) = X at *
  generalize crsC mn me pn pe = G at *
  generalize ptA mn me pn pe = A at *
  have KL : Hb (∀ w, Calls Tryz.prog 69 #[.float .f32 A] w (RP .f32 (sterC A) (sterOk A) w)) := ⟨fun _ => (stereoLong_any fA hA _)⟩
  have HC := Hb.mk (fun w => iPoC_any fG nX.out eX.out HP w)
  go_enter Tryz.func164, Tryz.ntmps164
  have tk_z : True := trivial; have tk_v : True := trivial
  go_wp2_with (first | (go_at_call 44; refine (KA.out _).mono ?_; rintro ex w1 ⟨rfl, b1⟩; have B1 := Hb.mk (Below.on (B := w.heap.size) (a := w) (by repeat (first | exact B0.out | refine Below.drews ?_ | refine Below.drew ?_ | refine Below.alloc ?_ (by have hq_ := B0.out.size; first | omega | (simp <;> omega)) _ | refine Below.setCell ?_ (by have hq_ := B0.out.size; first | omega | (simp <;> omega)) _)) b1 (by have hq_ := B0.out.size; first | omega | (simp <;> omega))); have k0 := Hb.mk (At.keep b1 (p := ⟨w.heap.size, 0, none⟩) (v := .func (.func 69) #[] #[]) (by simp [go_sem]) (by simp [go_sem])); obtain ⟨k0c, k0z, k0l⟩ := k0.out; have k1 := Hb.mk (At.keep b1 (p := ⟨w.heap.size, 1, none⟩) (v := .func (.func 70) #[] #[]) (by simp [go_sem]) (by simp [go_sem])); obtain ⟨k1c, k1z, k1l⟩ := k1.out; have m0 := Hb.mk (At.keep b1 (p := ⟨w.heap.size + 1, 0, none⟩) (v := .int .i64 4) (by simp [go_sem]) (by simp [go_sem])); obtain ⟨m0c, m0z, m0l⟩ := m0.out; have m1 := Hb.mk (At.keep b1 (p := ⟨w.heap.size + 1, 1, none⟩) (v := .float .f32 mn) (by simp [go_sem]) (by simp [go_sem])); obtain ⟨m1c, m1z, m1l⟩ := m1.out; have m2 := Hb.mk (At.keep b1 (p := ⟨w.heap.size + 1, 2, none⟩) (v := .float .f32 me) (by simp [go_sem]) (by simp [go_sem])); obtain ⟨m2c, m2z, m2l⟩ := m2.out; have m3 := Hb.mk (At.keep b1 (p := ⟨w.heap.size + 1, 3, none⟩) (v := .float .f32 f) (by simp [go_sem]) (by simp [go_sem])); obtain ⟨m3c, m3z, m3l⟩ := m3.out; have p0 := Hb.mk (At.keep b1 (p := ⟨w.heap.size + 2, 0, none⟩) (v := .float .f32 pn) (by simp [go_sem]) (by simp [go_sem])); obtain ⟨p0c, p0z, p0l⟩ := p0.out; have p1 := Hb.mk (At.keep b1 (p := ⟨w.heap.size + 2, 1, none⟩) (v := .float .f32 pe) (by simp [go_sem]) (by simp [go_sem])); obtain ⟨p1c, p1z, p1l⟩ := p1.out; clear b1) | (go_at_call 165; refine (KG.out _).mono ?_; rintro ex w2 ⟨rfl, b2⟩; have B2 := Hb.mk (Below.on (B := w.heap.size) (a := w) (by repeat (first | exact B1.out | refine Below.drews ?_ | refine Below.drew ?_ | refine Below.alloc ?_ (by have hq_ := B1.out.size; first | omega | (simp <;> omega)) _ | refine Below.setCell ?_ (by have hq_ := B1.out.size; first | omega | (simp <;> omega)) _)) b2 (by have hq_ := B1.out.size; first | omega | (simp <;> omega))); have k0 := Hb.mk (At.re k0.out b2 (by first | exact k0c | simp [go_sem, k0c, k0l]) (by first | exact k0z | simp [go_sem, k0z, k0l])); obtain ⟨k0c, k0z, k0l⟩ := k0.out; have k1 := Hb.mk (At.re k1.out b2 (by first | exact k1c | simp [go_sem, k1c, k1l]) (by first | exact k1z | simp [go_sem, k1z, k1l])); obtain ⟨k1c, k1z, k1l⟩ := k1.out; clear b2) | (go_at_call 69; refine (KL.out _).mono ?_; rintro ee ww ⟨r_l, n_l, rfl, h_l, rfl⟩) | (go_at_call 166; refine (HC.out _).mono ?_; rintro ee ww ⟨r_p, i_p, rfl, h_p, k_p, n_p, rfl⟩) | (go_at_call 49; refine (iScale_any h_p k_p h_l _).mono ?_; rintro ee ww ⟨r_q, i_q, rfl, h_q, k_q, n_q, rfl⟩))
  go_ret2
  exact ⟨_, _, rfl, h_q, k_q, (by repeat (first | with_reducible refine Below.setCell ?_ (by first | omega | (simp <;> omega)) _ | with_reducible refine Below.drews ?_ | with_reducible refine Below.drew ?_ | with_reducible refine Below.alloc ?_ (by first | omega | (simp <;> omega)) _ | with_reducible exact B2.out | with_reducible exact Below.refl _ _))⟩
set_option maxHeartbeats 2000000 in
theorem iPt_5 {mn me f pn pe cr ci : Nat} (HP : Hb (∀ w, Calls Tryz.prog 168 #[.float .f64 (ptX (crsC mn me pn pe))] w (RC cr ci w))) (hm : Pm mn me f pn pe) (w : World) : Calls Tryz.prog 164 #[.agg #[.func (.func 71) #[] #[], .func (.func 72) #[] #[]], mp 5 mn me f, pl pn pe] w (RCB (fop .mul .f32 cr (equC (ptA mn me pn pe))) (fop .mul .f32 ci (equC (ptA mn me pn pe))) (true) w) := by
  have B0 := Hb.mk (Below.refl w.heap.size w)
  obtain ⟨f1, f2, f3, f4, f5, v1, v2, tf⟩ := hm
  have t1 := turns_of v1
  have t2 := turns_of v2
  have KA : Hb (∀ w, Calls Tryz.prog 44 #[pl mn me, pl pn pe] w (RS (flT2 (ptA mn me pn pe) true) w)) := ⟨iApartOf_yes f1 f2 f4 f5 v1 v2⟩
  have KG := Hb.mk (iCourseTo_yes f1 f2 f4 f5 v1 v2)
  have fA : Fl .f32 (ptA mn me pn pe) (ptA mn me pn pe) := (Apt.of (Wb.way t1.1 t1.2) (Wb.way t2.1 t2.2)).fa
  have hA := ptA_fin v1 v2
  have fG : Fl .f32 (crsC mn me pn pe) (crsC mn me pn pe) := Fl.not (fin_notN (crsC_fin v1 v2)) (wf_above (wf_angle _ _))
  have nX := Hb.mk (fin_notN (ptX_wide v1 v2))
  have eX := Hb.mk (show fcv .f32 .f64 (fop .sub .f32 1048576000 (crsC mn me pn pe)) = ptX (crsC mn me pn pe) from rfl)
  clear t1 t2 v1 v2 tf
  generalize ptX (crsC mn me pn pe) = X at *
  generalize crsC mn me pn pe = G at *
  generalize ptA mn me pn pe = A at *
  have KL : Hb (∀ w, Calls Tryz.prog 71 #[.float .f32 A] w (RP .f32 (equC A) (true) w)) := ⟨fun _ => (equalLong_any fA hA _)⟩
  have HC := Hb.mk (fun w => iPoC_any fG nX.out eX.out HP w)
  go_enter Tryz.func164, Tryz.ntmps164
  have tk_z : True := trivial; have tk_v : True := trivial
  go_wp2_with (first | (go_at_call 44; refine (KA.out _).mono ?_; rintro ex w1 ⟨rfl, b1⟩; have B1 := Hb.mk (Below.on (B := w.heap.size) (a := w) (by repeat (first | exact B0.out | refine Below.drews ?_ | refine Below.drew ?_ | refine Below.alloc ?_ (by have hq_ := B0.out.size; first | omega | (simp <;> omega)) _ | refine Below.setCell ?_ (by have hq_ := B0.out.size; first | omega | (simp <;> omega)) _)) b1 (by have hq_ := B0.out.size; first | omega | (simp <;> omega))); have k0 := Hb.mk (At.keep b1 (p := ⟨w.heap.size, 0, none⟩) (v := .func (.func 71) #[] #[]) (by simp [go_sem]) (by simp [go_sem])); obtain ⟨k0c, k0z, k0l⟩ := k0.out; have k1 := Hb.mk (At.keep b1 (p := ⟨w.heap.size, 1, none⟩) (v := .func (.func 72) #[] #[]) (by simp [go_sem]) (by simp [go_sem])); obtain ⟨k1c, k1z, k1l⟩ := k1.out; have m0 := Hb.mk (At.keep b1 (p := ⟨w.heap.size + 1, 0, none⟩) (v := .int .i64 5) (by simp [go_sem]) (by simp [go_sem])); obtain ⟨m0c, m0z, m0l⟩ := m0.out; have m1 := Hb.mk (At.keep b1 (p := ⟨w.heap.size + 1, 1, none⟩) (v := .float .f32 mn) (by simp [go_sem]) (by simp [go_sem])); obtain ⟨m1c, m1z, m1l⟩ := m1.out; have m2 := Hb.mk (At.keep b1 (p := ⟨w.heap.size + 1, 2, none⟩) (v := .float .f32 me) (by simp [go_sem]) (by simp [go_sem])); obtain ⟨m2c, m2z, m2l⟩ := m2.out; have m3 := Hb.mk (At.keep b1 (p := ⟨w.heap.size + 1, 3, none⟩) (v := .float .f32 f) (by simp [go_sem]) (by simp [go_sem])); obtain ⟨m3c, m3z, m3l⟩ := m3.out; have p0 := Hb.mk (At.keep b1 (p := ⟨w.heap.size + 2, 0, none⟩) (v := .float .f32 pn) (by simp [go_sem]) (by simp [go_sem])); obtain ⟨p0c, p0z, p0l⟩ := p0.out; have p1 := Hb.mk (At.keep b1 (p := ⟨w.heap.size + 2, 1, none⟩) (v := .float .f32 pe) (by simp [go_sem]) (by simp [go_sem])); obtain ⟨p1c, p1z, p1l⟩ := p1.out; clear b1) | (go_at_call 165; refine (KG.out _).mono ?_; rintro ex w2 ⟨rfl, b2⟩; have B2 := Hb.mk (Below.on (B := w.heap.size) (a := w) (by repeat (first | exact B1.out | refine Below.drews ?_ | refine Below.drew ?_ | refine Below.alloc ?_ (by have hq_ := B1.out.size; first | omega | (simp <;> omega)) _ | refine Below.setCell ?_ (by have hq_ := B1.out.size; first | omega | (simp <;> omega)) _)) b2 (by have hq_ := B1.out.size; first | omega | (simp <;> omega))); have k0 := Hb.mk (At.re k0.out b2 (by first | exact k0c | simp [go_sem, k0c, k0l]) (by first | exact k0z | simp [go_sem, k0z, k0l])); obtain ⟨k0c, k0z, k0l⟩ := k0.out; have k1 := Hb.mk (At.re k1.out b2 (by first | exact k1c | simp [go_sem, k1c, k1l]) (by first | exact k1z | simp [go_sem, k1z, k1l])); obtain ⟨k1c, k1z, k1l⟩ := k1.out; clear b2) | (go_at_call 71; refine (KL.out _).mono ?_; rintro ee ww ⟨r_l, n_l, rfl, h_l, rfl⟩) | (go_at_call 166; refine (HC.out _).mono ?_; rintro ee ww ⟨r_p, i_p, rfl, h_p, k_p, n_p, rfl⟩) | (go_at_call 49; refine (iScale_any h_p k_p h_l _).mono ?_; rintro ee ww ⟨r_q, i_q, rfl, h_q, k_q, n_q, rfl⟩))
  go_ret2
  exact ⟨_, _, rfl, h_q, k_q, (by repeat (first | with_reducible refine Below.setCell ?_ (by first | omega | (simp <;> omega)) _ | with_reducible refine Below.drews ?_ | with_reducible refine Below.drew ?_ | with_reducible refine Below.alloc ?_ (by first | omega | (simp <;> omega)) _ | with_reducible exact B2.out | with_reducible exact Below.refl _ _))⟩
set_option maxHeartbeats 2000000 in
theorem iPt_6 {mn me f pn pe cr ci : Nat} (HP : Hb (∀ w, Calls Tryz.prog 168 #[.float .f64 (ptX (crsC mn me pn pe))] w (RC cr ci w))) (hm : Pm mn me f pn pe) (w : World) : Calls Tryz.prog 164 #[.agg #[.func (.func 73) #[] #[], .func (.func 74) #[] #[]], mp 6 mn me f, pl pn pe] w (RCB (fop .mul .f32 cr (roundC (ptA mn me pn pe))) (fop .mul .f32 ci (roundC (ptA mn me pn pe))) (true) w) := by
  have B0 := Hb.mk (Below.refl w.heap.size w)
  obtain ⟨f1, f2, f3, f4, f5, v1, v2, tf⟩ := hm
  have t1 := turns_of v1
  have t2 := turns_of v2
  have KA : Hb (∀ w, Calls Tryz.prog 44 #[pl mn me, pl pn pe] w (RS (flT2 (ptA mn me pn pe) true) w)) := ⟨iApartOf_yes f1 f2 f4 f5 v1 v2⟩
  have KG := Hb.mk (iCourseTo_yes f1 f2 f4 f5 v1 v2)
  have fA : Fl .f32 (ptA mn me pn pe) (ptA mn me pn pe) := (Apt.of (Wb.way t1.1 t1.2) (Wb.way t2.1 t2.2)).fa
  have hA := ptA_fin v1 v2
  have fG : Fl .f32 (crsC mn me pn pe) (crsC mn me pn pe) := Fl.not (fin_notN (crsC_fin v1 v2)) (wf_above (wf_angle _ _))
  have nX := Hb.mk (fin_notN (ptX_wide v1 v2))
  have eX := Hb.mk (show fcv .f32 .f64 (fop .sub .f32 1048576000 (crsC mn me pn pe)) = ptX (crsC mn me pn pe) from rfl)
  clear t1 t2 v1 v2 tf
  generalize ptX (crsC mn me pn pe) = X at *
  generalize crsC mn me pn pe = G at *
  generalize ptA mn me pn pe = A at *
  have KL : Hb (∀ w, Calls Tryz.prog 73 #[.float .f32 A] w (RP .f32 (roundC A) (true) w)) := ⟨fun _ => (farLong_any fA _)⟩
  have HC := Hb.mk (fun w => iPoC_any fG nX.out eX.out HP w)
  go_enter Tryz.func164, Tryz.ntmps164
  have tk_z : True := trivial; have tk_v : True := trivial
  go_wp2_with (first | (go_at_call 44; refine (KA.out _).mono ?_; rintro ex w1 ⟨rfl, b1⟩; have B1 := Hb.mk (Below.on (B := w.heap.size) (a := w) (by repeat (first | exact B0.out | refine Below.drews ?_ | refine Below.drew ?_ | refine Below.alloc ?_ (by have hq_ := B0.out.size; first | omega | (simp <;> omega)) _ | refine Below.setCell ?_ (by have hq_ := B0.out.size; first | omega | (simp <;> omega)) _)) b1 (by have hq_ := B0.out.size; first | omega | (simp <;> omega))); have k0 := Hb.mk (At.keep b1 (p := ⟨w.heap.size, 0, none⟩) (v := .func (.func 73) #[] #[]) (by simp [go_sem]) (by simp [go_sem])); obtain ⟨k0c, k0z, k0l⟩ := k0.out; have k1 := Hb.mk (At.keep b1 (p := ⟨w.heap.size, 1, none⟩) (v := .func (.func 74) #[] #[]) (by simp [go_sem]) (by simp [go_sem])); obtain ⟨k1c, k1z, k1l⟩ := k1.out; have m0 := Hb.mk (At.keep b1 (p := ⟨w.heap.size + 1, 0, none⟩) (v := .int .i64 6) (by simp [go_sem]) (by simp [go_sem])); obtain ⟨m0c, m0z, m0l⟩ := m0.out; have m1 := Hb.mk (At.keep b1 (p := ⟨w.heap.size + 1, 1, none⟩) (v := .float .f32 mn) (by simp [go_sem]) (by simp [go_sem])); obtain ⟨m1c, m1z, m1l⟩ := m1.out; have m2 := Hb.mk (At.keep b1 (p := ⟨w.heap.size + 1, 2, none⟩) (v := .float .f32 me) (by simp [go_sem]) (by simp [go_sem])); obtain ⟨m2c, m2z, m2l⟩ := m2.out; have m3 := Hb.mk (At.keep b1 (p := ⟨w.heap.size + 1, 3, none⟩) (v := .float .f32 f) (by simp [go_sem]) (by simp [go_sem])); obtain ⟨m3c, m3z, m3l⟩ := m3.out; have p0 := Hb.mk (At.keep b1 (p := ⟨w.heap.size + 2, 0, none⟩) (v := .float .f32 pn) (by simp [go_sem]) (by simp [go_sem])); obtain ⟨p0c, p0z, p0l⟩ := p0.out; have p1 := Hb.mk (At.keep b1 (p := ⟨w.heap.size + 2, 1, none⟩) (v := .float .f32 pe) (by simp [go_sem]) (by simp [go_sem])); obtain ⟨p1c, p1z, p1l⟩ := p1.out; clear b1) | (go_at_call 165; refine (KG.out _).mono ?_; rintro ex w2 ⟨rfl, b2⟩; have B2 := Hb.mk (Below.on (B := w.heap.size) (a := w) (by repeat (first | exact B1.out | refine Below.drews ?_ | refine Below.drew ?_ | refine Below.alloc ?_ (by have hq_ := B1.out.size; first | omega | (simp <;> omega)) _ | refine Below.setCell ?_ (by have hq_ := B1.out.size; first | omega | (simp <;> omega)) _)) b2 (by have hq_ := B1.out.size; first | omega | (simp <;> omega))); have k0 := Hb.mk (At.re k0.out b2 (by first | exact k0c | simp [go_sem, k0c, k0l]) (by first | exact k0z | simp [go_sem, k0z, k0l])); obtain ⟨k0c, k0z, k0l⟩ := k0.out; have k1 := Hb.mk (At.re k1.out b2 (by first | exact k1c | simp [go_sem, k1c, k1l]) (by first | exact k1z | simp [go_sem, k1z, k1l])); obtain ⟨k1c, k1z, k1l⟩ := k1.out; clear b2) | (go_at_call 73; refine (KL.out _).mono ?_; rintro ee ww ⟨r_l, n_l, rfl, h_l, rfl⟩) | (go_at_call 166; refine (HC.out _).mono ?_; rintro ee ww ⟨r_p, i_p, rfl, h_p, k_p, n_p, rfl⟩) | (go_at_call 49; refine (iScale_any h_p k_p h_l _).mono ?_; rintro ee ww ⟨r_q, i_q, rfl, h_q, k_q, n_q, rfl⟩))
  go_ret2
  exact ⟨_, _, rfl, h_q, k_q, (by repeat (first | with_reducible refine Below.setCell ?_ (by first | omega | (simp <;> omega)) _ | with_reducible refine Below.drews ?_ | with_reducible refine Below.drew ?_ | with_reducible refine Below.alloc ?_ (by first | omega | (simp <;> omega)) _ | with_reducible exact B2.out | with_reducible exact Below.refl _ _))⟩
end Go.Proofs.YtenekhckmglobaaGreat
