/-
  ZoneOf, of the program and of its model, computes the same Lean functions; its exact law. No condition.
-/
import Derived.Test.YtjjhklfpdllijabOpp
namespace Go.Proofs.Ytjjhklfpdllijab
open Go Go.RowKit
set_option maxRecDepth 100000

def midC (n z : Int) : Nat := fop .sub .f32 (fop .quo .f32 (fop .add .f32 (floatOfInt .f32 n) 1056964608) (floatOfInt .f32 z)) 1056964608
def zoneX (c : Nat) (z : Int) : Nat := fop .mul .f32 (fop .add .f32 (wrapC c) 1056964608) (floatOfInt .f32 z)
def zoneF (c : Nat) (z : Int) : Int := fint (ffloor (fcv .f32 .f64 (zoneX c z)))
def zoneN (c : Nat) (z : Int) : Int := if z - 1 < zoneF c z then z - 1 else zoneF c z
theorem zone_over {c : Nat} {z : Int} (h : z - 1 < zoneF c z) : zoneN c z = z - 1 := by unfold zoneN; rw [if_pos h]
theorem zone_in {c : Nat} {z : Int} (h : ¬ z - 1 < zoneF c z) : zoneN c z = zoneF c z := by unfold zoneN; rw [if_neg h]
theorem zones_ab {z : Int} (h1 : 1 ≤ z) (h2 : z ≤ 60) : Ab .f32 (floatOfInt .f32 z) 1115684864 := by
  have key : ∀ k : Fin 61, rung .f32 (floatOfInt .f32 (k.val : Int)) ≤ rung .f32 1115684864 := by decide +kernel
  have := key ⟨z.toNat, by omega⟩
  have e : ((z.toNat : Nat) : Int) = z := by omega
  rw [show (((⟨z.toNat, by omega⟩ : Fin 61).val : Nat) : Int) = z from e] at this
  exact ⟨this, by decide +kernel⟩
theorem zone_names {c : Nat} {z : Int} (hc : Ab .f32 c 1148846080) (h1 : 1 ≤ z) (h2 : z ≤ 60) : fin .f64 (fcv .f32 .f64 (zoneX c z)) = true ∧ isN .f64 (ffloor (fcv .f32 .f64 (zoneX c z))) = false ∧ floatToIntVal .f64 (ffloor (fcv .f32 .f64 (zoneX c z))) .i64 = some (zoneF c z) := by
  have a1 : Ab .f32 (fop .add .f32 (wrapC c) 1056964608) 1182793728 := add_ab (wrap_ab hc) (ab_self (c := 1056964608) (by decide +kernel)) (by decide +kernel) (by decide +kernel)
  have a2 : Ab .f32 (zoneX c z) 1233125376 := mul_ab a1 (zones_ab h1 h2) (by decide +kernel) (by decide +kernel)
  have h3 := wide_ab a2
  have hb : Bd .f64 (fcv .f32 .f64 (zoneX c z)) (24 : Nat) := bd_of_ab h3 (by decide +kernel) (by decide) (by decide)
  have hfl := ffloor_bd hb (by decide)
  refine ⟨h3.fin, (ffloor_notN (fin_notN h3.fin)).1, ?_⟩
  obtain ⟨n, hn⟩ : ∃ n, floatToIntVal .f64 (ffloor (fcv .f32 .f64 (zoneX c z))) .i64 = some n := by
    refine fint_in hfl.fin ?_
    have hab := ab_of_bd hfl (b := 4728779608739021 * 1000) (by decide +kernel) (by decide +kernel)
    have hk : fin .f64 4841369599423283200 = true := by decide +kernel
    have hs : sgn .f64 4841369599423283200 = false := by decide +kernel
    unfold many
    rw [(fcmp_fin (by rw [fin_fabs]; exact hfl.fin) hk).2.2.2.1, sv_pos (sgn_fabs _), sv_pos hs, rung_fabs, decide_eq_false_iff_not]
    have h5 := hab.val
    have h6 : val FloatKind.f64.format (rung .f64 (4728779608739021 * 1000)) < val FloatKind.f64.format (rung .f64 4841369599423283200) := val_mono _ (by decide +kernel)
    omega
  have hv : zoneF c z = n := fint_of hn
  rw [hv]; exact hn
def areZ (z : Int) : Bool := decide (1 ≤ z ∧ z ≤ 60)
theorem areZones_any {z : Int} (w : World) : Calls Try.prog 57 #[.int .i64 z] w (RB (areZ z) w) := by
  by_cases h1 : 1 ≤ z
  · by_cases h2 : z ≤ 60
    · have K := Keep.mk (show areZ z = true by unfold areZ; rw [decide_eq_true ⟨h1, h2⟩])
      go_enter Try.func57, Try.ntmps57
      go_wp2
      go_ret
      rw [K.out]
      exact RB.any rfl (by repeat (first | exact Drew.refl _ | refine Drew.more ?_))
    · have K := Keep.mk (show areZ z = false by unfold areZ; rw [decide_eq_false (by omega)])
      go_enter Try.func57, Try.ntmps57
      go_wp2
      go_ret
      rw [K.out]
      exact RB.any (by simp) (by repeat (first | exact Drew.refl _ | refine Drew.more ?_))
  · have K := Keep.mk (show areZ z = false by unfold areZ; rw [decide_eq_false (by omega)])
    go_enter Try.func57, Try.ntmps57
    go_wp2
    go_ret
    rw [K.out]
    exact RB.any rfl (by repeat (first | exact Drew.refl _ | refine Drew.more ?_))
theorem middleOfZone_any {n z : Int} (w : World) : Calls Try.prog 58 #[.int .i64 n, .int .i64 z] w (RF .f32 (midC n z) w) := by
  go_enter Try.func58, Try.ntmps58
  go_wp2_with (first | (refine wpList_fop rfl rfl rfl rfl rfl (by first | (with_reducible assumption) | (with_reducible exact Fl.ofInt _ _) | exact Fl.not (by decide +kernel) (by decide +kernel)) (by first | (with_reducible assumption) | (with_reducible exact Fl.ofInt _ _) | exact Fl.not (by decide +kernel) (by decide +kernel)) ?_; intro r n hr; simp only [Act.put, List.setIfInBounds_toArray, List.set_cons_succ, List.set_cons_zero]))
  go_ret
  exact RF.any hr (by repeat (first | exact Drew.refl _ | refine Drew.more ?_))
theorem l03Middle_any {n z : Int} (w : World) : Calls Try.prog 55 #[.int .i64 n, .int .i64 z] w (RF .f32 (midC n z) w) := by
  go_enter Try.func55, Try.ntmps55
  go_wp2_with (first | (refine wpList_fop rfl rfl rfl rfl rfl (by first | (with_reducible assumption) | (with_reducible exact Fl.ofInt _ _) | exact Fl.not (by decide +kernel) (by decide +kernel)) (by first | (with_reducible assumption) | (with_reducible exact Fl.ofInt _ _) | exact Fl.not (by decide +kernel) (by decide +kernel)) ?_; intro r n hr; simp only [Act.put, List.setIfInBounds_toArray, List.set_cons_succ, List.set_cons_zero]))
  go_ret
  exact RF.any hr (by repeat (first | exact Drew.refl _ | refine Drew.more ?_))
/-- 'returns n, a float that is told by c, and b' -/
def RZ (n : Int) (c : Nat) (b : Bool) (w : World) (e : Ending) (w' : World) : Prop := ∃ r, e = .returned (.tuple #[.int .i64 n, .float .f32 r, .bool b]) ∧ Fl .f32 c r ∧ Drew w w'
theorem zonesIn_any {z : Int} (w : World) : Calls Try.prog 53 #[.int .i64 z, .int .i64 1, .int .i64 60] w (RB (areZ z) w) := by
  by_cases h : 1 ≤ z ∧ z ≤ 60
  · rw [show areZ z = true by unfold areZ; rw [decide_eq_true h]]
    exact l00In_yes h.1 h.2 w
  · rw [show areZ z = false by unfold areZ; rw [decide_eq_false h]]
    exact l00In_no (by omega) w
set_option maxHeartbeats 1000000 in
theorem iZoneOf_yes {c x : Nat} {z : Int} (hx : Fl .f32 c x) (ht : inThou c = true) (hz : areZ z = true) (w : World) : Calls Try.prog 26 #[.float .f32 x, .int .i64 z] w (RZ (zoneN c z) (midC (zoneN c z) z) true w) := by
  obtain ⟨h1, h2⟩ : 1 ≤ z ∧ z ≤ 60 := by unfold areZ at hz; exact of_decide_eq_true hz
  have hc : Ab .f32 c 1148846080 := by unfold inThou at ht; rw [Bool.and_eq_true] at ht; exact thou_ab ht.1 ht.2
  obtain ⟨k1, k2, k3⟩ := zone_names hc h1 h2
  have hover := Keep.mk (@zone_over c z)
  have hin := Keep.mk (@zone_in c z)
  have KW := iWrapEast_any hx
  rw [ht, (thou_yes ht).2] at KW
  have HW := Keep.mk KW
  have KZ := areZones_any (z := z)
  rw [hz] at KZ
  have HZ := Keep.mk KZ
  clear KZ
  generalize hzf : zoneF c z = F at *
  unfold zoneX at k1 k2 k3
  have K1 := Keep.mk k1
  have K2 := Keep.mk k2
  have K3 := Keep.mk k3
  clear k1 k2 k3 hzf KW ht hz hc
  by_cases ho : z - 1 < F
  · have hN := Keep.mk (hover.out ho)
    go_enter Try.func26, Try.ntmps26
    go_wp2_with (first | (go_at_call 56; refine (HW.out _).mono ?_; rintro e w' ⟨r, n, rfl, hr, rfl⟩) | (go_at_call 57; refine (HZ.out _).mono ?_; rintro e w' ⟨rfl, n, rfl⟩) | (refine wpList_fop rfl rfl rfl rfl rfl (by first | (with_reducible assumption) | (with_reducible exact Fl.ofInt _ _) | exact Fl.not (by decide +kernel) (by decide +kernel)) (by first | (with_reducible assumption) | (with_reducible exact Fl.ofInt _ _) | exact Fl.not (by decide +kernel) (by decide +kernel)) ?_; intro r n hr; simp only [Act.put, List.setIfInBounds_toArray, List.set_cons_succ, List.set_cons_zero]) | (refine wpList_fcv rfl rfl rfl (by kernel_rfl) Try.underlying39 (by decide) (by first | (with_reducible assumption) | (with_reducible exact Fl.ofInt _ _) | exact Fl.not (by decide +kernel) (by decide +kernel)) (fits_wide _) ?_; intro r n hr; simp only [Act.put, List.setIfInBounds_toArray, List.set_cons_succ, List.set_cons_zero]) | (go_at_call 54; refine (floor_any (by assumption) K1.out _).mono ?_; rintro e w' ⟨r4, n, rfl, hr4, rfl⟩; obtain rfl := hr4.word K2.out) | (refine wpList_fint rfl rfl rfl (by kernel_rfl) Try.underlying2 K3.out ?_; simp only [Act.put, List.setIfInBounds_toArray, List.set_cons_succ, List.set_cons_zero]) | (go_at_call 58; refine (middleOfZone_any _).mono ?_; rintro e w' ⟨r, n, rfl, hr, rfl⟩))
    go_ret3
    rw [hN.out]
    exact ⟨_, rfl, hr, (by repeat (first | exact Drew.refl _ | refine Drew.more ?_))⟩
  · have hN := Keep.mk (hin.out ho)
    go_enter Try.func26, Try.ntmps26
    go_wp2_with (first | (go_at_call 56; refine (HW.out _).mono ?_; rintro e w' ⟨r, n, rfl, hr, rfl⟩) | (go_at_call 57; refine (HZ.out _).mono ?_; rintro e w' ⟨rfl, n, rfl⟩) | (refine wpList_fop rfl rfl rfl rfl rfl (by first | (with_reducible assumption) | (with_reducible exact Fl.ofInt _ _) | exact Fl.not (by decide +kernel) (by decide +kernel)) (by first | (with_reducible assumption) | (with_reducible exact Fl.ofInt _ _) | exact Fl.not (by decide +kernel) (by decide +kernel)) ?_; intro r n hr; simp only [Act.put, List.setIfInBounds_toArray, List.set_cons_succ, List.set_cons_zero]) | (refine wpList_fcv rfl rfl rfl (by kernel_rfl) Try.underlying39 (by decide) (by first | (with_reducible assumption) | (with_reducible exact Fl.ofInt _ _) | exact Fl.not (by decide +kernel) (by decide +kernel)) (fits_wide _) ?_; intro r n hr; simp only [Act.put, List.setIfInBounds_toArray, List.set_cons_succ, List.set_cons_zero]) | (go_at_call 54; refine (floor_any (by assumption) K1.out _).mono ?_; rintro e w' ⟨r4, n, rfl, hr4, rfl⟩; obtain rfl := hr4.word K2.out) | (refine wpList_fint rfl rfl rfl (by kernel_rfl) Try.underlying2 K3.out ?_; simp only [Act.put, List.setIfInBounds_toArray, List.set_cons_succ, List.set_cons_zero]) | (go_at_call 58; refine (middleOfZone_any _).mono ?_; rintro e w' ⟨r, n, rfl, hr, rfl⟩))
    go_ret3
    rw [hN.out]
    exact ⟨_, rfl, hr, (by repeat (first | exact Drew.refl _ | refine Drew.more ?_))⟩
theorem iZoneOf_no0 {c x : Nat} {z : Int} (hx : Fl .f32 c x) (ht : inThou c = false) (w : World) : Calls Try.prog 26 #[.float .f32 x, .int .i64 z] w (RZ 0 0 false w) := by
  have KW := iWrapEast_any hx
  rw [ht, (thou_no ht).2] at KW
  have HW := Keep.mk KW
  clear KW ht
  go_enter Try.func26, Try.ntmps26
  go_wp2_with (first | (go_at_call 56; refine (HW.out _).mono ?_; rintro e w' ⟨r, n, rfl, hr, rfl⟩))
  go_ret3
  exact ⟨_, rfl, fl0, (by repeat (first | exact Drew.refl _ | refine Drew.more ?_))⟩
theorem iZoneOf_no1 {c x : Nat} {z : Int} (hx : Fl .f32 c x) (ht : inThou c = true) (hz : areZ z = false) (w : World) : Calls Try.prog 26 #[.float .f32 x, .int .i64 z] w (RZ 0 0 false w) := by
  have KW := iWrapEast_any hx
  rw [ht] at KW
  have HW := Keep.mk KW
  have KZ := areZones_any (z := z)
  rw [hz] at KZ
  have HZ := Keep.mk KZ
  clear KZ
  clear KW ht
  go_enter Try.func26, Try.ntmps26
  go_wp2_with (first | (go_at_call 56; refine (HW.out _).mono ?_; rintro e w' ⟨r, n, rfl, hr, rfl⟩) | (go_at_call 57; refine (HZ.out _).mono ?_; rintro e w' ⟨rfl, n, rfl⟩))
  go_ret3
  exact ⟨_, rfl, fl0, (by repeat (first | exact Drew.refl _ | refine Drew.more ?_))⟩
set_option maxHeartbeats 1000000 in
theorem sZoneOf_yes {c x : Nat} {z : Int} (hx : Fl .f32 c x) (ht : inThou c = true) (hz : areZ z = true) (w : World) : Calls Try.prog 25 #[.float .f32 x, .int .i64 z] w (RZ (zoneN c z) (midC (zoneN c z) z) true w) := by
  obtain ⟨h1, h2⟩ : 1 ≤ z ∧ z ≤ 60 := by unfold areZ at hz; exact of_decide_eq_true hz
  have hc : Ab .f32 c 1148846080 := by unfold inThou at ht; rw [Bool.and_eq_true] at ht; exact thou_ab ht.1 ht.2
  obtain ⟨k1, k2, k3⟩ := zone_names hc h1 h2
  have hover := Keep.mk (@zone_over c z)
  have hin := Keep.mk (@zone_in c z)
  have KW := sWrapEast_any hx
  rw [ht, (thou_yes ht).2] at KW
  have HW := Keep.mk KW
  have KZ := zonesIn_any (z := z)
  rw [hz] at KZ
  have HZ := Keep.mk KZ
  clear KZ
  generalize hzf : zoneF c z = F at *
  unfold zoneX at k1 k2 k3
  have K1 := Keep.mk k1
  have K2 := Keep.mk k2
  have K3 := Keep.mk k3
  clear k1 k2 k3 hzf KW ht hz hc
  by_cases ho : z - 1 < F
  · have hN := Keep.mk (hover.out ho)
    go_enter Try.func25, Try.ntmps25
    go_wp2_with (first | (go_at_call 52; refine (HW.out _).mono ?_; rintro e w' ⟨r, n, rfl, hr, rfl⟩) | (go_at_call 53; refine (HZ.out _).mono ?_; rintro e w' ⟨rfl, n, rfl⟩) | (refine wpList_fop rfl rfl rfl rfl rfl (by first | (with_reducible assumption) | (with_reducible exact Fl.ofInt _ _) | exact Fl.not (by decide +kernel) (by decide +kernel)) (by first | (with_reducible assumption) | (with_reducible exact Fl.ofInt _ _) | exact Fl.not (by decide +kernel) (by decide +kernel)) ?_; intro r n hr; simp only [Act.put, List.setIfInBounds_toArray, List.set_cons_succ, List.set_cons_zero]) | (refine wpList_fcv rfl rfl rfl (by kernel_rfl) Try.underlying39 (by decide) (by first | (with_reducible assumption) | (with_reducible exact Fl.ofInt _ _) | exact Fl.not (by decide +kernel) (by decide +kernel)) (fits_wide _) ?_; intro r n hr; simp only [Act.put, List.setIfInBounds_toArray, List.set_cons_succ, List.set_cons_zero]) | (go_at_call 54; refine (floor_any (by assumption) K1.out _).mono ?_; rintro e w' ⟨r4, n, rfl, hr4, rfl⟩; obtain rfl := hr4.word K2.out) | (refine wpList_fint rfl rfl rfl (by kernel_rfl) Try.underlying2 K3.out ?_; simp only [Act.put, List.setIfInBounds_toArray, List.set_cons_succ, List.set_cons_zero]) | (go_at_call 55; refine (l03Middle_any _).mono ?_; rintro e w' ⟨r, n, rfl, hr, rfl⟩))
    go_ret3
    rw [hN.out]
    exact ⟨_, rfl, hr, (by repeat (first | exact Drew.refl _ | refine Drew.more ?_))⟩
  · have hN := Keep.mk (hin.out ho)
    go_enter Try.func25, Try.ntmps25
    go_wp2_with (first | (go_at_call 52; refine (HW.out _).mono ?_; rintro e w' ⟨r, n, rfl, hr, rfl⟩) | (go_at_call 53; refine (HZ.out _).mono ?_; rintro e w' ⟨rfl, n, rfl⟩) | (refine wpList_fop rfl rfl rfl rfl rfl (by first | (with_reducible assumption) | (with_reducible exact Fl.ofInt _ _) | exact Fl.not (by decide +kernel) (by decide +kernel)) (by first | (with_reducible assumption) | (with_reducible exact Fl.ofInt _ _) | exact Fl.not (by decide +kernel) (by decide +kernel)) ?_; intro r n hr; simp only [Act.put, List.setIfInBounds_toArray, List.set_cons_succ, List.set_cons_zero]) | (refine wpList_fcv rfl rfl rfl (by kernel_rfl) Try.underlying39 (by decide) (by first | (with_reducible assumption) | (with_reducible exact Fl.ofInt _ _) | exact Fl.not (by decide +kernel) (by decide +kernel)) (fits_wide _) ?_; intro r n hr; simp only [Act.put, List.setIfInBounds_toArray, List.set_cons_succ, List.set_cons_zero]) | (go_at_call 54; refine (floor_any (by assumption) K1.out _).mono ?_; rintro e w' ⟨r4, n, rfl, hr4, rfl⟩; obtain rfl := hr4.word K2.out) | (refine wpList_fint rfl rfl rfl (by kernel_rfl) Try.underlying2 K3.out ?_; simp only [Act.put, List.setIfInBounds_toArray, List.set_cons_succ, List.set_cons_zero]) | (go_at_call 55; refine (l03Middle_any _).mono ?_; rintro e w' ⟨r, n, rfl, hr, rfl⟩))
    go_ret3
    rw [hN.out]
    exact ⟨_, rfl, hr, (by repeat (first | exact Drew.refl _ | refine Drew.more ?_))⟩
theorem sZoneOf_no0 {c x : Nat} {z : Int} (hx : Fl .f32 c x) (ht : inThou c = false) (w : World) : Calls Try.prog 25 #[.float .f32 x, .int .i64 z] w (RZ 0 0 false w) := by
  have KW := sWrapEast_any hx
  rw [ht, (thou_no ht).2] at KW
  have HW := Keep.mk KW
  clear KW ht
  go_enter Try.func25, Try.ntmps25
  go_wp2_with (first | (go_at_call 52; refine (HW.out _).mono ?_; rintro e w' ⟨r, n, rfl, hr, rfl⟩))
  go_ret3
  exact ⟨_, rfl, fl0, (by repeat (first | exact Drew.refl _ | refine Drew.more ?_))⟩
theorem sZoneOf_no1 {c x : Nat} {z : Int} (hx : Fl .f32 c x) (ht : inThou c = true) (hz : areZ z = false) (w : World) : Calls Try.prog 25 #[.float .f32 x, .int .i64 z] w (RZ 0 0 false w) := by
  have KW := sWrapEast_any hx
  rw [ht] at KW
  have HW := Keep.mk KW
  have KZ := zonesIn_any (z := z)
  rw [hz] at KZ
  have HZ := Keep.mk KZ
  clear KZ
  clear KW ht
  go_enter Try.func25, Try.ntmps25
  go_wp2_with (first | (go_at_call 52; refine (HW.out _).mono ?_; rintro e w' ⟨r, n, rfl, hr, rfl⟩) | (go_at_call 53; refine (HZ.out _).mono ?_; rintro e w' ⟨rfl, n, rfl⟩))
  go_ret3
  exact ⟨_, rfl, fl0, (by repeat (first | exact Drew.refl _ | refine Drew.more ?_))⟩
theorem law_ZoneOf {a : Nat} {z : Int} (wa : (Lit.float .f32 a).wf = true) (_wz : (Lit.int .i64 z).wf = true) (w : World) : Calls Try.prog 7 #[.float .f32 a, .int .i64 z] w (RB true w) := by
  have hx := Fl.own wa
  obtain ⟨n, C, ok, KS, KG⟩ : ∃ n C ok, Keep (∀ w, Calls Try.prog 25 #[.float .f32 a, .int .i64 z] w (RZ n C ok w)) ∧ Keep (∀ w, Calls Try.prog 26 #[.float .f32 a, .int .i64 z] w (RZ n C ok w)) := by
    cases ht : inThou (nrm .f32 a)
    · exact ⟨_, _, _, ⟨sZoneOf_no0 hx ht⟩, ⟨iZoneOf_no0 hx ht⟩⟩
    · cases hz : areZ z
      · exact ⟨_, _, _, ⟨sZoneOf_no1 hx ht hz⟩, ⟨iZoneOf_no1 hx ht hz⟩⟩
      · exact ⟨_, _, _, ⟨sZoneOf_yes hx ht hz⟩, ⟨iZoneOf_yes hx ht hz⟩⟩
  cases ok
  all_goals
    go_enter Try.func7, Try.ntmps7
    go_wp2_with (first | (go_at_call 25; refine (KS.out _).mono ?_; rintro e w1 ⟨r1, rfl, hr1, n1, rfl⟩) | (go_at_call 26; refine (KG.out _).mono ?_; rintro e w2 ⟨r2, rfl, hr2, n2, rfl⟩) | (refine wpList_fcv_g rfl rfl rfl (by kernel_rfl) Try.underlying39 (by decide) (by first | (with_reducible assumption) | (with_reducible exact Fl.ofInt _ _) | exact Fl.not (by decide +kernel) (by decide +kernel)) (fits_wide _) ?_; intro r n hr; simp only [Act.put, List.setIfInBounds_toArray, List.set_cons_succ, List.set_cons_zero]) | (go_at_call 19; refine (sameFloat_any (by assumption) (by assumption) _).mono ?_; rintro e w' ⟨rfl, n, rfl⟩))
    go_ret
    exact RB.any rfl (by repeat (first | exact Drew.refl _ | refine Drew.more ?_))
end Go.Proofs.Ytjjhklfpdllijab
