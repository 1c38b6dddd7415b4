/-
  PlaceOfSteps and StepsOf, of the program and of its model, compute the same Lean functions; their exact laws. No condition.
-/
import Derived.Test.YtmioclcipdifpaaWr
import Derived.Test.YtmioclcipdifpaaSt
import Derived.Test.YtmioclcipdifpaaWay
import Derived.Deep.QuietTactic
import Derived.BigQuiet
import Derived.Deep.RegionWith
namespace Go.Proofs.Ytmioclcipdifpaa
open Go Go.RowKit
set_option maxRecDepth 100000

def quoC (n : Int) : Nat := fop .quo .f32 (floatOfInt .f32 n) 1266679808
def stepsIn (n e : Int) : Bool := decide (-4194304 ≤ n ∧ n ≤ 4194304 ∧ -8388608 ≤ e ∧ e ≤ 8388607)
/-- 'returns a place told by two words, and b; nothing that was there has been written' -/
def RPl (cn ce : Nat) (b : Bool) (w : World) (e : Ending) (w' : World) : Prop := ∃ x y, e = .returned (.tuple #[pl x y, .bool b]) ∧ Fl .f32 cn x ∧ Fl .f32 ce y ∧ Below w.heap.size w w'
theorem steps_no {n e : Int} (h : stepsIn n e = false) : (n < -4194304 ∨ (¬ n < -4194304 ∧ (4194304 < n ∨ (¬ 4194304 < n ∧ (e < -8388608 ∨ (¬ e < -8388608 ∧ 8388608 ≤ e)))))) ∧ ((n < -4194304 ∨ 4194304 < n) ∨ ((-4194304 ≤ n ∧ n ≤ 4194304) ∧ (e < -8388608 ∨ 8388607 < e))) := by
  unfold stepsIn at h; rw [decide_eq_false_iff_not] at h; omega
theorem iPlaceOfSteps_yes {n e : Int} (h1 : -4194304 ≤ n) (h2 : n ≤ 4194304) (h3 : -8388608 ≤ e) (h4 : e ≤ 8388607) (w : World) : Calls Try.prog 43 #[.int .i64 n, .int .i64 e] w (RPl (quoC n) (quoC e) true w) := by
  go_enter Try.func43, Try.ntmps43
  have tk_a : True := trivial; have tk_b : True := trivial
  go_wp2_with (first | (clear tk_a; refine wpList_fop rfl rfl rfl rfl rfl (by first | (with_reducible assumption) | (with_reducible exact Fl.ofInt _ _) | exact Fl.not (by decide +kernel) (by decide +kernel)) (by first | (with_reducible assumption) | (with_reducible exact Fl.ofInt _ _) | exact Fl.not (by decide +kernel) (by decide +kernel)) ?_; intro a n_a h_a; simp only [Act.put, List.setIfInBounds_toArray, List.set_cons_succ, List.set_cons_zero]) | (clear tk_b; refine wpList_fop rfl rfl rfl rfl rfl (by first | (with_reducible assumption) | (with_reducible exact Fl.ofInt _ _) | exact Fl.not (by decide +kernel) (by decide +kernel)) (by first | (with_reducible assumption) | (with_reducible exact Fl.ofInt _ _) | exact Fl.not (by decide +kernel) (by decide +kernel)) ?_; intro b n_b h_b; simp only [Act.put, List.setIfInBounds_toArray, List.set_cons_succ, List.set_cons_zero]))
  exact bodyPost_ret (v := .tuple #[pl a b, .bool true]) (by simp [results, Try.results43, go_sem]) rfl ⟨_, _, rfl, h_a, h_b, (by repeat (first | exact Below.refl _ _ | with_reducible assumption | refine Below.drews ?_ | refine Below.drew ?_ | refine Below.alloc ?_ (by simp <;> omega) _ | refine Below.setCell ?_ (by simp <;> omega) _))⟩
theorem iPlaceOfSteps_no {n e : Int} (h : n < -4194304 ∨ (¬ n < -4194304 ∧ (4194304 < n ∨ (¬ 4194304 < n ∧ (e < -8388608 ∨ (¬ e < -8388608 ∧ 8388608 ≤ e)))))) (w : World) : Calls Try.prog 43 #[.int .i64 n, .int .i64 e] w (RPl 0 0 false w) := by
  rcases h with h | ⟨h1, h | ⟨h2, h | ⟨h3, h⟩⟩⟩
  all_goals
    go_enter Try.func43, Try.ntmps43
    go_wp2
    exact bodyPost_ret (v := .tuple #[pl 0 0, .bool false]) (by simp [results, Try.results43, go_sem]) rfl ⟨_, _, rfl, fl0, fl0, (by repeat (first | exact Below.refl _ _ | with_reducible assumption | refine Below.drews ?_ | refine Below.drew ?_ | refine Below.alloc ?_ (by simp <;> omega) _ | refine Below.setCell ?_ (by simp <;> omega) _))⟩
theorem sPlaceOfSteps_yes {n e : Int} (h1 : -4194304 ≤ n) (h2 : n ≤ 4194304) (h3 : -8388608 ≤ e) (h4 : e ≤ 8388607) (w : World) : Calls Try.prog 30 #[.int .i64 n, .int .i64 e] w (RPl (quoC n) (quoC e) true w) := by
  go_enter Try.func30, Try.ntmps30
  have tk_a : True := trivial; have tk_b : True := trivial; have tk_c : True := trivial; have tk_d : True := trivial
  go_wp2_with (first | (go_at_call 41; clear tk_c; refine (l00In_yes h1 h2 _).mono ?_; rintro e w' ⟨rfl, n, rfl⟩) | (go_at_call 41; clear tk_d; refine (l00In_yes h3 h4 _).mono ?_; rintro e w' ⟨rfl, n, rfl⟩) | (clear tk_a; refine wpList_fop rfl rfl rfl rfl rfl (by first | (with_reducible assumption) | (with_reducible exact Fl.ofInt _ _) | exact Fl.not (by decide +kernel) (by decide +kernel)) (by first | (with_reducible assumption) | (with_reducible exact Fl.ofInt _ _) | exact Fl.not (by decide +kernel) (by decide +kernel)) ?_; intro a n_a h_a; simp only [Act.put, List.setIfInBounds_toArray, List.set_cons_succ, List.set_cons_zero]) | (clear tk_b; refine wpList_fop rfl rfl rfl rfl rfl (by first | (with_reducible assumption) | (with_reducible exact Fl.ofInt _ _) | exact Fl.not (by decide +kernel) (by decide +kernel)) (by first | (with_reducible assumption) | (with_reducible exact Fl.ofInt _ _) | exact Fl.not (by decide +kernel) (by decide +kernel)) ?_; intro b n_b h_b; simp only [Act.put, List.setIfInBounds_toArray, List.set_cons_succ, List.set_cons_zero]))
  exact bodyPost_ret (v := .tuple #[pl a b, .bool true]) (by simp [results, Try.results30, go_sem]) rfl ⟨_, _, rfl, h_a, h_b, (by repeat (first | exact Below.refl _ _ | with_reducible assumption | refine Below.drews ?_ | refine Below.drew ?_ | refine Below.alloc ?_ (by simp <;> omega) _ | refine Below.setCell ?_ (by simp <;> omega) _))⟩
theorem sPlaceOfSteps_no {n e : Int} (h : (n < -4194304 ∨ 4194304 < n) ∨ ((-4194304 ≤ n ∧ n ≤ 4194304) ∧ (e < -8388608 ∨ 8388607 < e))) (w : World) : Calls Try.prog 30 #[.int .i64 n, .int .i64 e] w (RPl 0 0 false w) := by
  rcases h with h | ⟨⟨h1, h2⟩, h⟩
  · have K := Keep.mk h
    clear h
    go_enter Try.func30, Try.ntmps30
    go_wp2_with (first | (go_at_call 41; refine (l00In_no K.out _).mono ?_; rintro e w' ⟨rfl, n, rfl⟩))
    exact bodyPost_ret (v := .tuple #[pl 0 0, .bool false]) (by simp [results, Try.results30, go_sem]) rfl ⟨_, _, rfl, fl0, fl0, (by repeat (first | exact Below.refl _ _ | with_reducible assumption | refine Below.drews ?_ | refine Below.drew ?_ | refine Below.alloc ?_ (by simp <;> omega) _ | refine Below.setCell ?_ (by simp <;> omega) _))⟩
  · have K := Keep.mk h
    clear h
    go_enter Try.func30, Try.ntmps30
    have tk_c : True := trivial; have tk_d : True := trivial
    go_wp2_with (first | (go_at_call 41; clear tk_c; refine (l00In_yes h1 h2 _).mono ?_; rintro e w' ⟨rfl, n, rfl⟩) | (go_at_call 41; clear tk_d; refine (l00In_no K.out _).mono ?_; rintro e w' ⟨rfl, n, rfl⟩))
    exact bodyPost_ret (v := .tuple #[pl 0 0, .bool false]) (by simp [results, Try.results30, go_sem]) rfl ⟨_, _, rfl, fl0, fl0, (by repeat (first | exact Below.refl _ _ | with_reducible assumption | refine Below.drews ?_ | refine Below.drew ?_ | refine Below.alloc ?_ (by simp <;> omega) _ | refine Below.setCell ?_ (by simp <;> omega) _))⟩
/-! ## The steps of a place -/
def stepW (c : Nat) : Nat := fop .add .f64 (fop .mul .f64 (fcv .f32 .f64 c) 4715268809856909312) 4602678819172646912
def stepC (c : Nat) : Int := fint (ffloor (stepW c))
theorem step_names {c : Nat} (hc : Ab .f32 c 1056964608) : fin .f64 (stepW c) = true ∧ isN .f64 (ffloor (stepW c)) = false ∧ floatToIntVal .f64 (ffloor (stepW c)) .i64 = some (stepC c) := by
  have h1 := wide_ab hc
  have h2 := mul_ab (c := 4710765210229538816) h1 (ab_self (c := 4715268809856909312) (by decide +kernel)) (by decide +kernel) (by decide +kernel)
  have h3 := add_ab (c := 4715268809856909312) h2 (ab_self (c := 4602678819172646912) (by decide +kernel)) (by decide +kernel) (by decide +kernel)
  have hb : Bd .f64 (stepW c) (24 : Nat) := bd_of_ab h3 (by decide +kernel) (by decide) (by decide)
  have hfl := ffloor_bd hb (by decide)
  refine ⟨h3.fin, (ffloor_notN (fin_notN h3.fin)).1, ?_⟩
  obtain ⟨n, hn⟩ : ∃ n, floatToIntVal .f64 (ffloor (stepW c)) .i64 = some n := by
    refine fint_in hfl.fin ?_
    have hab := ab_of_bd hfl (b := 4728779608739021 * 1000) (by decide +kernel) (by decide +kernel)
    have hk : fin .f64 4841369599423283200 = true := by decide +kernel
    have hs : sgn .f64 4841369599423283200 = false := by decide +kernel
    unfold many
    rw [(fcmp_fin (by rw [fin_fabs]; exact hfl.fin) hk).2.2.2.1, sv_pos (sgn_fabs _), sv_pos hs, rung_fabs, decide_eq_false_iff_not]
    have h5 := hab.val
    have h6 : val FloatKind.f64.format (rung .f64 (4728779608739021 * 1000)) < val FloatKind.f64.format (rung .f64 4841369599423283200) := val_mono _ (by decide +kernel)
    omega
  have hv : stepC c = n := fint_of hn
  rw [hv]; exact hn
theorem nearestStep_any {c x : Nat} (hx : Fl .f32 c x) (hc : Ab .f32 c 1056964608) (w : World) : Calls Try.prog 37 #[.float .f32 x] w (RI .i64 (stepC c) w) := by
  obtain ⟨h1, h2, h3⟩ := step_names hc
  unfold stepW at h1 h2 h3
  have K1 := Keep.mk h1
  have K2 := Keep.mk h2
  have K3 := Keep.mk h3
  clear h1 h2 h3
  go_enter Try.func37, Try.ntmps37
  go_wp2_with (first | (refine wpList_fop rfl rfl rfl rfl rfl (by first | (with_reducible assumption) | (with_reducible exact Fl.ofInt _ _) | exact Fl.not (by decide +kernel) (by decide +kernel)) (by first | (with_reducible assumption) | (with_reducible exact Fl.ofInt _ _) | exact Fl.not (by decide +kernel) (by decide +kernel)) ?_; intro r n hr; simp only [Act.put, List.setIfInBounds_toArray, List.set_cons_succ, List.set_cons_zero]) | (refine wpList_fcv rfl rfl rfl (by kernel_rfl) Try.underlying67 (by decide) (by first | (with_reducible assumption) | (with_reducible exact Fl.ofInt _ _) | exact Fl.not (by decide +kernel) (by decide +kernel)) (fits_wide _) ?_; intro r n hr; simp only [Act.put, List.setIfInBounds_toArray, List.set_cons_succ, List.set_cons_zero]) | (go_at_call 46; refine (floor_any (by assumption) K1.out _).mono ?_; rintro e w' ⟨r4, n, rfl, hr4, rfl⟩; obtain rfl := hr4.word K2.out) | (refine wpList_fint rfl rfl rfl (by kernel_rfl) Try.underlying2 K3.out ?_; simp only [Act.put, List.setIfInBounds_toArray, List.set_cons_succ, List.set_cons_zero]))
  go_ret
  exact RI.any rfl (by repeat (first | exact Drew.refl _ | refine Drew.more ?_))
theorem l02Step_any {c x : Nat} (hx : Fl .f32 c x) (hc : Ab .f32 c 1056964608) (w : World) : Calls Try.prog 40 #[.float .f32 x] w (RI .i64 (stepC c) w) := by
  obtain ⟨h1, h2, h3⟩ := step_names hc
  unfold stepW at h1 h2 h3
  have K1 := Keep.mk h1
  have K2 := Keep.mk h2
  have K3 := Keep.mk h3
  clear h1 h2 h3
  go_enter Try.func40, Try.ntmps40
  go_wp2_with (first | (refine wpList_fop rfl rfl rfl rfl rfl (by first | (with_reducible assumption) | (with_reducible exact Fl.ofInt _ _) | exact Fl.not (by decide +kernel) (by decide +kernel)) (by first | (with_reducible assumption) | (with_reducible exact Fl.ofInt _ _) | exact Fl.not (by decide +kernel) (by decide +kernel)) ?_; intro r n hr; simp only [Act.put, List.setIfInBounds_toArray, List.set_cons_succ, List.set_cons_zero]) | (refine wpList_fcv rfl rfl rfl (by kernel_rfl) Try.underlying67 (by decide) (by first | (with_reducible assumption) | (with_reducible exact Fl.ofInt _ _) | exact Fl.not (by decide +kernel) (by decide +kernel)) (fits_wide _) ?_; intro r n hr; simp only [Act.put, List.setIfInBounds_toArray, List.set_cons_succ, List.set_cons_zero]) | (go_at_call 46; refine (floor_any (by assumption) K1.out _).mono ?_; rintro e w' ⟨r4, n, rfl, hr4, rfl⟩; obtain rfl := hr4.word K2.out) | (refine wpList_fint rfl rfl rfl (by kernel_rfl) Try.underlying2 K3.out ?_; simp only [Act.put, List.setIfInBounds_toArray, List.set_cons_succ, List.set_cons_zero]))
  go_ret
  exact RI.any rfl (by repeat (first | exact Drew.refl _ | refine Drew.more ?_))
def eastStep (c : Nat) : Int := if stepC c = 8388608 then -8388608 else stepC c
abbrev stepsT (a b : Int) (ok : Bool) : Value := .tuple #[.int .i64 a, .int .i64 b, .bool ok]
set_option maxHeartbeats 1000000 in
theorem iStepsOf_yes {n e a b : Nat} (h1 : Fl .f32 n a) (h2 : Fl .f32 e b) (hv : validC n e = true) (w : World) : Calls Try.prog 24 #[pl a b] w (RS (stepsT (stepC n) (eastStep e) true) w) := by
  obtain ⟨an, ae⟩ := valid_ab hv
  have KV := iValidPlace_any h1 h2
  rw [hv] at KV
  have HV := Keep.mk KV
  have KN := Keep.mk (nearestStep_any h1 (an.mono (by decide +kernel) (by decide +kernel)))
  have KE := Keep.mk (nearestStep_any h2 ae)
  clear hv KV an ae
  generalize stepC n = N at *
  have KES := Keep.mk (show eastStep e = if stepC e = 8388608 then -8388608 else stepC e from rfl)
  generalize stepC e = E at *
  have B0 := Hb.mk (Below.refl w.heap.size w)
  have hcase : ((E : Int) == 8388608) = decide (E = 8388608) := by rw [Bool.eq_iff_iff, beq_iff_eq, decide_eq_true_eq]
  by_cases he : E = 8388608
  all_goals
    go_enter Try.func24, Try.ntmps24
    go_wp2_with (first
      | (go_at_call 36; refine (HV.out _).mono ?_; rintro e w1 ⟨rfl, b1⟩; have B1 := Hb.mk (Below.on (B := w.heap.size) (a := w) (by repeat (first | exact B0.out | refine Below.drews ?_ | refine Below.drew ?_ | refine Below.alloc ?_ (by have hq_ := B0.out.size; first | omega | (simp <;> omega)) _ | refine Below.setCell ?_ (by have hq_ := B0.out.size; first | omega | (simp <;> omega)) _)) b1 (by have hq_ := B0.out.size; first | omega | (simp <;> omega))); have c1 := Below.keep b1 (p := ⟨w.heap.size, 0, none⟩) (v := .float .f32 a) (by simp); have c2 := Below.keep b1 (p := ⟨w.heap.size, 1, none⟩) (v := .float .f32 b) (by simp); clear b1))
    go_quiet ((first | (go_at_call_of 37 (Value.float .f32 a); exact Calls.quiet_of (KN.out _)) | (go_at_call_of 37 (Value.float .f32 b); exact Calls.quiet_of (KE.out _))))
    go_wp2
  · exact bodyPost_ret (v := stepsT N (-8388608) true) (by simp [results, Try.results24, go_sem]) rfl ⟨by rw [KES.out, if_pos he], (by repeat (first | exact B1.out | refine Below.drews ?_ | refine Below.drew ?_ | refine Below.alloc ?_ (by have hq_ := B1.out.size; first | omega | (simp <;> omega)) _ | refine Below.setCell ?_ (by have hq_ := B1.out.size; first | omega | (simp <;> omega)) _))⟩
  · exact bodyPost_ret (v := stepsT N E true) (by simp [results, Try.results24, go_sem]) rfl ⟨by rw [KES.out, if_neg he], (by repeat (first | exact B1.out | refine Below.drews ?_ | refine Below.drew ?_ | refine Below.alloc ?_ (by have hq_ := B1.out.size; first | omega | (simp <;> omega)) _ | refine Below.setCell ?_ (by have hq_ := B1.out.size; first | omega | (simp <;> omega)) _))⟩
theorem iStepsOf_no {n e a b : Nat} (h1 : Fl .f32 n a) (h2 : Fl .f32 e b) (hv : validC n e = false) (w : World) : Calls Try.prog 24 #[pl a b] w (RS (stepsT 0 0 false) w) := by
  have KV := iValidPlace_any h1 h2
  rw [hv] at KV
  have HV := Keep.mk KV
  clear hv KV
  have B0 := Hb.mk (Below.refl w.heap.size w)
  go_enter Try.func24, Try.ntmps24
  go_wp2_with (first | (go_at_call 36; refine (HV.out _).mono ?_; rintro e w1 ⟨rfl, b1⟩; have B1 := Hb.mk (Below.on (B := w.heap.size) (a := w) (by repeat (first | exact B0.out | refine Below.drews ?_ | refine Below.drew ?_ | refine Below.alloc ?_ (by have hq_ := B0.out.size; first | omega | (simp <;> omega)) _ | refine Below.setCell ?_ (by have hq_ := B0.out.size; first | omega | (simp <;> omega)) _)) b1 (by have hq_ := B0.out.size; first | omega | (simp <;> omega))); clear b1))
  exact bodyPost_ret (v := stepsT 0 0 false) (by simp [results, Try.results24, go_sem]) rfl ⟨rfl, (by repeat (first | exact B1.out | refine Below.drews ?_ | refine Below.drew ?_ | refine Below.alloc ?_ (by have hq_ := B1.out.size; first | omega | (simp <;> omega)) _ | refine Below.setCell ?_ (by have hq_ := B1.out.size; first | omega | (simp <;> omega)) _))⟩
set_option maxHeartbeats 1000000 in
theorem sStepsOf_yes {n e a b : Nat} (h1 : Fl .f32 n a) (h2 : Fl .f32 e b) (hv : validC n e = true) (w : World) : Calls Try.prog 29 #[pl a b] w (RS (stepsT (stepC n) (eastStep e) true) w) := by
  obtain ⟨an, ae⟩ := valid_ab hv
  have HV := Keep.mk hv
  have KN := Keep.mk (l02Step_any h1 (an.mono (by decide +kernel) (by decide +kernel)))
  have KE := Keep.mk (l02Step_any h2 ae)
  clear hv an ae
  generalize stepC n = N at *
  have KES := Keep.mk (show eastStep e = if stepC e = 8388608 then -8388608 else stepC e from rfl)
  generalize stepC e = E at *
  by_cases he : E = 8388608
  all_goals
    go_enter Try.func29, Try.ntmps29
    have tk_a : True := trivial; have tk_b : True := trivial
    go_wp2_with (first
      | (go_at_call 39; refine (l02Is_any h1 h2 _ (by simp) (by simp)).mono ?_; rw [HV.out]; rintro e w' ⟨rfl, n, rfl⟩)
      | (go_at_call 40; clear tk_a; refine (KE.out _).mono ?_; rintro e w' ⟨rfl, n, rfl⟩)
      | (go_at_call 40; clear tk_b; refine (KN.out _).mono ?_; rintro e w' ⟨rfl, n, rfl⟩))
  · exact bodyPost_ret (v := stepsT N (-8388608) true) (by simp [results, Try.results29, go_sem]) rfl ⟨by rw [KES.out, if_pos he], (by repeat (first | exact Below.refl _ _ | with_reducible assumption | refine Below.drews ?_ | refine Below.drew ?_ | refine Below.alloc ?_ (by simp <;> omega) _ | refine Below.setCell ?_ (by simp <;> omega) _))⟩
  · exact bodyPost_ret (v := stepsT N E true) (by simp [results, Try.results29, go_sem]) rfl ⟨by rw [KES.out, if_neg he], (by repeat (first | exact Below.refl _ _ | with_reducible assumption | refine Below.drews ?_ | refine Below.drew ?_ | refine Below.alloc ?_ (by simp <;> omega) _ | refine Below.setCell ?_ (by simp <;> omega) _))⟩
theorem sStepsOf_no {n e a b : Nat} (h1 : Fl .f32 n a) (h2 : Fl .f32 e b) (hv : validC n e = false) (w : World) : Calls Try.prog 29 #[pl a b] w (RS (stepsT 0 0 false) w) := by
  have HV := Keep.mk hv
  clear hv
  go_enter Try.func29, Try.ntmps29
  go_wp2_with (first
      | (go_at_call 39; refine (l02Is_any h1 h2 _ (by simp) (by simp)).mono ?_; rw [HV.out]; rintro e w' ⟨rfl, n, rfl⟩))
  exact bodyPost_ret (v := stepsT 0 0 false) (by simp [results, Try.results29, go_sem]) rfl ⟨rfl, (by repeat (first | exact Below.refl _ _ | with_reducible assumption | refine Below.drews ?_ | refine Below.drew ?_ | refine Below.alloc ?_ (by simp <;> omega) _ | refine Below.setCell ?_ (by simp <;> omega) _))⟩
end Go.Proofs.Ytmioclcipdifpaa
