/-
  The program's sine and its model's compute the same Lean function. Conditions: as named.
-/
import Derived.Test.YteclmjknmdlopaaSinM
namespace Go.Proofs.Yteclmjknmdlopaa
open Go Go.RowKit
set_option maxRecDepth 100000

theorem nan_any (w : World) : Calls Try.prog 107 #[] w (RF .f64 (qn .f64) w) := by
  go_enter Try.func107, Try.ntmps107
  go_wp2
  go_ret
  exact RF.of0 ⟨nrm_is (by decide +kernel), by decide +kernel⟩
theorem notANumber_any (w : World) : Calls Try.prog 113 #[] w (RF .f32 (qn .f32) w) := by
  have e : fcv .f64 .f32 (qn .f64) = qn .f32 := by decide +kernel
  go_enter Try.func113, Try.ntmps113
  go_wp2_with (first | (go_at_call 107; refine (nan_any _).mono ?_; rintro e w' ⟨r, n, rfl, hr, rfl⟩) | (refine wpList_fcv rfl rfl rfl (by kernel_rfl) Try.underlying44 (by decide) (by first | (with_reducible assumption) | (with_reducible exact Fl.ofInt _ _) | exact Fl.not (by decide +kernel) (by decide +kernel)) (by decide +kernel) ?_; intro r n hr; simp only [Act.put, List.setIfInBounds_toArray, List.set_cons_succ, List.set_cons_zero]))
  go_ret
  exact RF.of2 (e ▸ hr)
theorem turnsLeft_any {c x : Nat} {n : Int} (hx : Fl .f64 c x) (hn : floatToIntVal .f64 x .i64 = some n) (w : World) : Calls Try.prog 126 #[.float .f64 x] w (RF .f64 (left c n) w) := by
  have hi := Fl.ofInt .f64 n
  have HL := Keep.mk (show left c n = _ from rfl)
  go_enter Try.func126, Try.ntmps126
  go_wp2_with (first | (refine wpList_fop rfl rfl rfl rfl rfl (by first | (with_reducible assumption) | (with_reducible exact Fl.ofInt _ _) | exact Fl.not (by decide +kernel) (by decide +kernel)) (by first | (with_reducible assumption) | (with_reducible exact Fl.ofInt _ _) | exact Fl.not (by decide +kernel) (by decide +kernel)) ?_; intro r n hr; simp only [Act.put, List.setIfInBounds_toArray, List.set_cons_succ, List.set_cons_zero]) | (refine wpList_fcmp rfl rfl rfl rfl rfl (by first | (with_reducible assumption) | (with_reducible exact Fl.ofInt _ _) | exact Fl.not (by decide +kernel) (by decide +kernel)) (by first | (with_reducible assumption) | (with_reducible exact Fl.ofInt _ _) | exact Fl.not (by decide +kernel) (by decide +kernel)) ?_; simp only [Act.put, List.setIfInBounds_toArray, List.set_cons_succ, List.set_cons_zero]) | (refine wpList_fint rfl rfl rfl (by kernel_rfl) Try.underlying2 hn ?_; simp only [Act.put, List.setIfInBounds_toArray, List.set_cons_succ, List.set_cons_zero]))
  · rename_i h
    go_ret
    unfold left; rw [if_pos h]
    exact RF.any hr (by repeat (first | exact Drew.refl _ | refine Drew.more ?_))
  · rename_i h
    go_ret
    unfold left; rw [if_neg (by rw [h]; decide)]
    exact RF.any hr (by repeat (first | exact Drew.refl _ | refine Drew.more ?_))
set_option maxHeartbeats 1000000 in
theorem l01SineWide_any {c x : Nat} {iv : Int} (hx : Fl .f64 c x) (hn : floatToIntVal .f64 x .i64 = some iv) (hf : fcmp .neq .f64 (fop .sub .f64 c c) 0 = false) (h1 : fcmp .geq .f64 c 4841369599423283200 = false) (h2 : fcmp .leq .f64 c 14064741636278059008 = false) (w : World) :
    Calls Try.prog 106 #[.float .f64 x] w (RF .f64 (sinW (left c iv)) w) := by
  cases e1 : fcmp .lss .f64 (fop .sub .f64 c (floatOfInt .f64 iv)) 0
  all_goals cases e2 : fcmp .geq .f64 (left c iv) 4602678819172646912
  all_goals cases e3 : fcmp .gtr .f64 (half (left c iv)) 4598175219545276416
  all_goals
    have HW := sinW_of (f := left c iv) e2
    have HZ := sinZ_of (f := left c iv) e3
    have HV := sinV_eq (left c iv)
    simp only [half, e2, Bool.false_eq_true, ↓reduceIte] at e3 HZ
    generalize sinZ (left c iv) = Z at *
    generalize sinV (left c iv) = V at *
    generalize sinW (left c iv) = W at *
    simp only [left, e1, Bool.false_eq_true, ↓reduceIte] at e2 e3 HZ HW
    have KZ := Keep.mk HZ
    have KW := Keep.mk HW
    have KV := Keep.mk HV
    clear HZ HW HV
    go_enter Try.func106, Try.ntmps106
    go_wp2_with (first | (refine wpList_fop rfl rfl rfl rfl rfl (by first | (with_reducible assumption) | (with_reducible exact Fl.ofInt _ _) | exact Fl.not (by decide +kernel) (by decide +kernel)) (by first | (with_reducible assumption) | (with_reducible exact Fl.ofInt _ _) | exact Fl.not (by decide +kernel) (by decide +kernel)) ?_; intro r n hr; simp only [Act.put, List.setIfInBounds_toArray, List.set_cons_succ, List.set_cons_zero]) | (refine wpList_fcmp rfl rfl rfl rfl rfl (by first | (with_reducible assumption) | (with_reducible exact Fl.ofInt _ _) | exact Fl.not (by decide +kernel) (by decide +kernel)) (by first | (with_reducible assumption) | (with_reducible exact Fl.ofInt _ _) | exact Fl.not (by decide +kernel) (by decide +kernel)) ?_; simp only [Act.put, List.setIfInBounds_toArray, List.set_cons_succ, List.set_cons_zero, hf, h1, e1, e2, e3]) | (refine wpList_fcmp_g rfl rfl rfl rfl rfl (by first | (with_reducible assumption) | (with_reducible exact Fl.ofInt _ _) | exact Fl.not (by decide +kernel) (by decide +kernel)) (by first | (with_reducible assumption) | (with_reducible exact Fl.ofInt _ _) | exact Fl.not (by decide +kernel) (by decide +kernel)) ?_; simp only [Act.put, List.setIfInBounds_toArray, List.set_cons_succ, List.set_cons_zero, h2]) | (refine wpList_fint rfl rfl rfl (by kernel_rfl) Try.underlying2 hn ?_; simp only [Act.put, List.setIfInBounds_toArray, List.set_cons_succ, List.set_cons_zero]))
    go_loopw [7, 8] (fun p k wr => ∃ (pw m : Nat), m ≤ 8 ∧ p = .float .f64 pw ∧ Fl .f64 (sinP (fop .mul .f64 Z Z) (8 - m)) pw ∧ k = .int .i64 m ∧ Drew w wr) (fun _ k _ => (intOf k).toNat)
    case atStart => exact ⟨_, 8, by omega, rfl, sinP_zero _, rfl, (by repeat (first | exact Drew.refl _ | refine Drew.more ?_))⟩
    case round =>
      obtain ⟨pw, m, hm, rfl, hp, rfl, q, rfl⟩ := hrel
      by_cases hlt : 1 ≤ m
      · go_wp2_with (refine wpList_fop rfl rfl rfl rfl rfl (by first | (with_reducible assumption) | (with_reducible exact Fl.ofInt _ _) | exact Fl.not (by decide +kernel) (by decide +kernel)) (by first | (with_reducible assumption) | (with_reducible exact Fl.ofInt _ _) | exact Fl.not (by decide +kernel) (by decide +kernel)) ?_; intro r n hr; simp only [Act.put, List.setIfInBounds_toArray, List.set_cons_succ, List.set_cons_zero])
        go_roundw
        case rel =>
          rw [← KZ.out] at hr
          exact ⟨_, m - 1, by omega, rfl, by rw [sinP_step hlt hm]; exact hr, int_ext (by omega), (by repeat (first | exact Drew.refl _ | refine Drew.more ?_))⟩
        case measure => simp [intOf]; omega
      · obtain rfl : m = 0 := by omega
        go_wp2_with (refine wpList_fop rfl rfl rfl rfl rfl (by first | (with_reducible assumption) | (with_reducible exact Fl.ofInt _ _) | exact Fl.not (by decide +kernel) (by decide +kernel)) (by first | (with_reducible assumption) | (with_reducible exact Fl.ofInt _ _) | exact Fl.not (by decide +kernel) (by decide +kernel)) ?_; intro r n hr; simp only [Act.put, List.setIfInBounds_toArray, List.set_cons_succ, List.set_cons_zero])
        go_ret
        rw [← KZ.out] at hr
        first | (rw [KW.out, KV.out]; exact RF.any hr (by repeat (first | exact Drew.refl _ | refine Drew.more ?_))) | (rw [KW.out, KV.out]; exact RF.any hr.neg (by repeat (first | exact Drew.refl _ | refine Drew.more ?_)))
set_option maxHeartbeats 1000000 in
theorem wideSine_any {c x : Nat} {iv : Int} (hx : Fl .f64 c x) (hn : floatToIntVal .f64 x .i64 = some iv) (w : World) :
    Calls Try.prog 123 #[.float .f64 x] w (RF .f64 (sinW (left c iv)) w) := by
  cases e2 : fcmp .geq .f64 (left c iv) 4602678819172646912
  all_goals cases e3 : fcmp .gtr .f64 (half (left c iv)) 4598175219545276416
  all_goals
    have HW := sinW_of (f := left c iv) e2
    have HZ := sinZ_of (f := left c iv) e3
    have HV := sinV_eq (left c iv)
    simp only [half, e2, Bool.false_eq_true, ↓reduceIte] at e3 HZ HW
    generalize sinZ (left c iv) = Z at *
    generalize sinV (left c iv) = V at *
    generalize sinW (left c iv) = W at *
    have KZ := Keep.mk HZ
    have KW := Keep.mk HW
    have KV := Keep.mk HV
    clear HZ HW HV
    go_enter Try.func123, Try.ntmps123
    go_wp2_with (first | (go_at_call 126; refine (turnsLeft_any hx hn _).mono ?_; rintro e w' ⟨r, n, rfl, hr, rfl⟩) | (refine wpList_fop rfl rfl rfl rfl rfl (by first | (with_reducible assumption) | (with_reducible exact Fl.ofInt _ _) | exact Fl.not (by decide +kernel) (by decide +kernel)) (by first | (with_reducible assumption) | (with_reducible exact Fl.ofInt _ _) | exact Fl.not (by decide +kernel) (by decide +kernel)) ?_; intro r n hr; simp only [Act.put, List.setIfInBounds_toArray, List.set_cons_succ, List.set_cons_zero]) | (refine wpList_fcmp rfl rfl rfl rfl rfl (by first | (with_reducible assumption) | (with_reducible exact Fl.ofInt _ _) | exact Fl.not (by decide +kernel) (by decide +kernel)) (by first | (with_reducible assumption) | (with_reducible exact Fl.ofInt _ _) | exact Fl.not (by decide +kernel) (by decide +kernel)) ?_; simp only [Act.put, List.setIfInBounds_toArray, List.set_cons_succ, List.set_cons_zero, e2, e3]))
    go_loopw [7, 8] (fun p k wr => ∃ (pw kw m : Nat), m ≤ 8 ∧ p = .float .f64 pw ∧ Fl .f64 (sinP (fop .mul .f64 Z Z) (8 - m)) pw ∧ k = .float .f64 kw ∧ Fl .f64 (floatOfInt .f64 m) kw ∧ Drew w wr) (fun _ k _ => match k with | .float _ b => b | _ => 0)
    case atStart => exact ⟨_, _, 8, by omega, rfl, sinP_zero _, rfl, eight, (by repeat (first | exact Drew.refl _ | refine Drew.more ?_))⟩
    case round =>
      obtain ⟨pw, kw, m, hm, rfl, hp, rfl, hk, q, rfl⟩ := hrel
      have hg := kf_geq hm
      by_cases hlt : 1 ≤ m
      · rw [decide_eq_true hlt] at hg
        have tk_a1 : True := trivial; have tk_a2 : True := trivial; have tk_a3 : True := trivial; have tk_a4 : True := trivial; have tk_a5 : True := trivial; have tk_a6 : True := trivial; have tk_a7 : True := trivial; have tk_a8 : True := trivial
        go_wp2_with (first | (clear tk_a1; refine wpList_fop rfl rfl rfl rfl rfl (by first | (with_reducible assumption) | (with_reducible exact Fl.ofInt _ _) | exact Fl.not (by decide +kernel) (by decide +kernel)) (by first | (with_reducible assumption) | (with_reducible exact Fl.ofInt _ _) | exact Fl.not (by decide +kernel) (by decide +kernel)) ?_; intro a1 n_a1 h_a1; simp only [Act.put, List.setIfInBounds_toArray, List.set_cons_succ, List.set_cons_zero]) | (clear tk_a2; refine wpList_fop rfl rfl rfl rfl rfl (by first | (with_reducible assumption) | (with_reducible exact Fl.ofInt _ _) | exact Fl.not (by decide +kernel) (by decide +kernel)) (by first | (with_reducible assumption) | (with_reducible exact Fl.ofInt _ _) | exact Fl.not (by decide +kernel) (by decide +kernel)) ?_; intro a2 n_a2 h_a2; simp only [Act.put, List.setIfInBounds_toArray, List.set_cons_succ, List.set_cons_zero]) | (clear tk_a3; refine wpList_fop rfl rfl rfl rfl rfl (by first | (with_reducible assumption) | (with_reducible exact Fl.ofInt _ _) | exact Fl.not (by decide +kernel) (by decide +kernel)) (by first | (with_reducible assumption) | (with_reducible exact Fl.ofInt _ _) | exact Fl.not (by decide +kernel) (by decide +kernel)) ?_; intro a3 n_a3 h_a3; simp only [Act.put, List.setIfInBounds_toArray, List.set_cons_succ, List.set_cons_zero]) | (clear tk_a4; refine wpList_fop rfl rfl rfl rfl rfl (by first | (with_reducible assumption) | (with_reducible exact Fl.ofInt _ _) | exact Fl.not (by decide +kernel) (by decide +kernel)) (by first | (with_reducible assumption) | (with_reducible exact Fl.ofInt _ _) | exact Fl.not (by decide +kernel) (by decide +kernel)) ?_; intro a4 n_a4 h_a4; simp only [Act.put, List.setIfInBounds_toArray, List.set_cons_succ, List.set_cons_zero]) | (clear tk_a5; refine wpList_fop rfl rfl rfl rfl rfl (by first | (with_reducible assumption) | (with_reducible exact Fl.ofInt _ _) | exact Fl.not (by decide +kernel) (by decide +kernel)) (by first | (with_reducible assumption) | (with_reducible exact Fl.ofInt _ _) | exact Fl.not (by decide +kernel) (by decide +kernel)) ?_; intro a5 n_a5 h_a5; simp only [Act.put, List.setIfInBounds_toArray, List.set_cons_succ, List.set_cons_zero]) | (clear tk_a6; refine wpList_fop rfl rfl rfl rfl rfl (by first | (with_reducible assumption) | (with_reducible exact Fl.ofInt _ _) | exact Fl.not (by decide +kernel) (by decide +kernel)) (by first | (with_reducible assumption) | (with_reducible exact Fl.ofInt _ _) | exact Fl.not (by decide +kernel) (by decide +kernel)) ?_; intro a6 n_a6 h_a6; simp only [Act.put, List.setIfInBounds_toArray, List.set_cons_succ, List.set_cons_zero]) | (clear tk_a7; refine wpList_fop rfl rfl rfl rfl rfl (by first | (with_reducible assumption) | (with_reducible exact Fl.ofInt _ _) | exact Fl.not (by decide +kernel) (by decide +kernel)) (by first | (with_reducible assumption) | (with_reducible exact Fl.ofInt _ _) | exact Fl.not (by decide +kernel) (by decide +kernel)) ?_; intro a7 n_a7 h_a7; simp only [Act.put, List.setIfInBounds_toArray, List.set_cons_succ, List.set_cons_zero]) | (clear tk_a8; refine wpList_fop rfl rfl rfl rfl rfl (by first | (with_reducible assumption) | (with_reducible exact Fl.ofInt _ _) | exact Fl.not (by decide +kernel) (by decide +kernel)) (by first | (with_reducible assumption) | (with_reducible exact Fl.ofInt _ _) | exact Fl.not (by decide +kernel) (by decide +kernel)) ?_; intro a8 n_a8 h_a8; simp only [Act.put, List.setIfInBounds_toArray, List.set_cons_succ, List.set_cons_zero]) | (refine wpList_fcmp rfl rfl rfl rfl rfl (by first | (with_reducible assumption) | (with_reducible exact Fl.ofInt _ _) | exact Fl.not (by decide +kernel) (by decide +kernel)) (by first | (with_reducible assumption) | (with_reducible exact Fl.ofInt _ _) | exact Fl.not (by decide +kernel) (by decide +kernel)) ?_; simp only [Act.put, List.setIfInBounds_toArray, List.set_cons_succ, List.set_cons_zero, hg]))
        rw [kf_sub hlt hm] at h_a8
        rw [← KZ.out, kf_den hm, ← sinP_step' hlt hm] at h_a7
        go_roundw
        case rel => exact ⟨_, _, m - 1, by omega, rfl, h_a7, rfl, h_a8, (by repeat (first | exact Drew.refl _ | refine Drew.more ?_))⟩
        case measure => exact kf_lt hlt hm h_a8 hk
      · obtain rfl : m = 0 := by omega
        rw [decide_eq_false hlt] at hg
        go_wp2_with (first | (refine wpList_fop rfl rfl rfl rfl rfl (by first | (with_reducible assumption) | (with_reducible exact Fl.ofInt _ _) | exact Fl.not (by decide +kernel) (by decide +kernel)) (by first | (with_reducible assumption) | (with_reducible exact Fl.ofInt _ _) | exact Fl.not (by decide +kernel) (by decide +kernel)) ?_; intro r n hr; simp only [Act.put, List.setIfInBounds_toArray, List.set_cons_succ, List.set_cons_zero]) | (refine wpList_fcmp rfl rfl rfl rfl rfl (by first | (with_reducible assumption) | (with_reducible exact Fl.ofInt _ _) | exact Fl.not (by decide +kernel) (by decide +kernel)) (by first | (with_reducible assumption) | (with_reducible exact Fl.ofInt _ _) | exact Fl.not (by decide +kernel) (by decide +kernel)) ?_; simp only [Act.put, List.setIfInBounds_toArray, List.set_cons_succ, List.set_cons_zero, hg]))
        go_ret
        rw [← KZ.out] at hr
        first | (rw [KW.out, KV.out]; exact RF.any hr (by repeat (first | exact Drew.refl _ | refine Drew.more ?_))) | (rw [KW.out, KV.out]; exact RF.any hr.neg (by repeat (first | exact Drew.refl _ | refine Drew.more ?_)))

theorem l01SineWide_nan {c x : Nat} (hx : Fl .f64 c x) (hf : fcmp .neq .f64 (fop .sub .f64 c c) 0 = true) (w : World) : Calls Try.prog 106 #[.float .f64 x] w (RF .f64 (qn .f64) w) := by
  go_enter Try.func106, Try.ntmps106
  go_wp2_with (first | (go_at_call 107; refine (nan_any _).mono ?_; rintro e w' ⟨r, n, rfl, hr, rfl⟩) | (refine wpList_fop rfl rfl rfl rfl rfl (by first | (with_reducible assumption) | (with_reducible exact Fl.ofInt _ _) | exact Fl.not (by decide +kernel) (by decide +kernel)) (by first | (with_reducible assumption) | (with_reducible exact Fl.ofInt _ _) | exact Fl.not (by decide +kernel) (by decide +kernel)) ?_; intro r n hr; simp only [Act.put, List.setIfInBounds_toArray, List.set_cons_succ, List.set_cons_zero]) | (refine wpList_fcmp rfl rfl rfl rfl rfl (by first | (with_reducible assumption) | (with_reducible exact Fl.ofInt _ _) | exact Fl.not (by decide +kernel) (by decide +kernel)) (by first | (with_reducible assumption) | (with_reducible exact Fl.ofInt _ _) | exact Fl.not (by decide +kernel) (by decide +kernel)) ?_; simp only [Act.put, List.setIfInBounds_toArray, List.set_cons_succ, List.set_cons_zero, hf]))
  go_ret
  exact RF.any hr (by repeat (first | exact Drew.refl _ | refine Drew.more ?_))
theorem l01SineWide_many {c x : Nat} (hx : Fl .f64 c x) (hf : fcmp .neq .f64 (fop .sub .f64 c c) 0 = false) (h : (fcmp .geq .f64 c 4841369599423283200 || fcmp .leq .f64 c 14064741636278059008) = true) (w : World) : Calls Try.prog 106 #[.float .f64 x] w (RF .f64 0 w) := by
  have h0 : Fl .f64 0 0 := Fl.not (by decide +kernel) (by decide +kernel)
  cases h1 : fcmp .geq .f64 c 4841369599423283200
  · rw [h1, Bool.false_or] at h
    go_enter Try.func106, Try.ntmps106
    go_wp2_with (first | (refine wpList_fop rfl rfl rfl rfl rfl (by first | (with_reducible assumption) | (with_reducible exact Fl.ofInt _ _) | exact Fl.not (by decide +kernel) (by decide +kernel)) (by first | (with_reducible assumption) | (with_reducible exact Fl.ofInt _ _) | exact Fl.not (by decide +kernel) (by decide +kernel)) ?_; intro r n hr; simp only [Act.put, List.setIfInBounds_toArray, List.set_cons_succ, List.set_cons_zero]) | (refine wpList_fcmp rfl rfl rfl rfl rfl (by first | (with_reducible assumption) | (with_reducible exact Fl.ofInt _ _) | exact Fl.not (by decide +kernel) (by decide +kernel)) (by first | (with_reducible assumption) | (with_reducible exact Fl.ofInt _ _) | exact Fl.not (by decide +kernel) (by decide +kernel)) ?_; simp only [Act.put, List.setIfInBounds_toArray, List.set_cons_succ, List.set_cons_zero, hf, h1]) | (refine wpList_fcmp_g rfl rfl rfl rfl rfl (by first | (with_reducible assumption) | (with_reducible exact Fl.ofInt _ _) | exact Fl.not (by decide +kernel) (by decide +kernel)) (by first | (with_reducible assumption) | (with_reducible exact Fl.ofInt _ _) | exact Fl.not (by decide +kernel) (by decide +kernel)) ?_; simp only [Act.put, List.setIfInBounds_toArray, List.set_cons_succ, List.set_cons_zero, h]))
    go_ret
    exact RF.any h0 (by repeat (first | exact Drew.refl _ | refine Drew.more ?_))
  · clear h
    go_enter Try.func106, Try.ntmps106
    go_wp2_with (first | (refine wpList_fop rfl rfl rfl rfl rfl (by first | (with_reducible assumption) | (with_reducible exact Fl.ofInt _ _) | exact Fl.not (by decide +kernel) (by decide +kernel)) (by first | (with_reducible assumption) | (with_reducible exact Fl.ofInt _ _) | exact Fl.not (by decide +kernel) (by decide +kernel)) ?_; intro r n hr; simp only [Act.put, List.setIfInBounds_toArray, List.set_cons_succ, List.set_cons_zero]) | (refine wpList_fcmp rfl rfl rfl rfl rfl (by first | (with_reducible assumption) | (with_reducible exact Fl.ofInt _ _) | exact Fl.not (by decide +kernel) (by decide +kernel)) (by first | (with_reducible assumption) | (with_reducible exact Fl.ofInt _ _) | exact Fl.not (by decide +kernel) (by decide +kernel)) ?_; simp only [Act.put, List.setIfInBounds_toArray, List.set_cons_succ, List.set_cons_zero, hf, h1]))
    go_ret
    exact RF.any h0 (by repeat (first | exact Drew.refl _ | refine Drew.more ?_))
theorem l01Narrow_any {c x : Nat} (hx : Fl .f64 c x) (hf : fits .f64 .f32 c = true) (w : World) : Calls Try.prog 94 #[.float .f64 x] w (RF .f32 (fcv .f64 .f32 c) w) := by
  go_enter Try.func94, Try.ntmps94
  go_wp2_with (refine wpList_fcv rfl rfl rfl (by kernel_rfl) Try.underlying44 (by decide) (by first | (with_reducible assumption) | (with_reducible exact Fl.ofInt _ _) | exact Fl.not (by decide +kernel) (by decide +kernel)) hf ?_; intro r n hr; simp only [Act.put, List.setIfInBounds_toArray, List.set_cons_succ, List.set_cons_zero])
  go_ret
  exact RF.any hr (by repeat (first | exact Drew.refl _ | refine Drew.more ?_))
theorem iNarrow_any {c x : Nat} (hx : Fl .f64 c x) (hf : fits .f64 .f32 c = true) (w : World) : Calls Try.prog 115 #[.float .f64 x] w (RF .f32 (fcv .f64 .f32 c) w) := by
  go_enter Try.func115, Try.ntmps115
  go_wp2_with (refine wpList_fcv rfl rfl rfl (by kernel_rfl) Try.underlying44 (by decide) (by first | (with_reducible assumption) | (with_reducible exact Fl.ofInt _ _) | exact Fl.not (by decide +kernel) (by decide +kernel)) hf ?_; intro r n hr; simp only [Act.put, List.setIfInBounds_toArray, List.set_cons_succ, List.set_cons_zero])
  go_ret
  exact RF.any hr (by repeat (first | exact Drew.refl _ | refine Drew.more ?_))
theorem isManyTurns_any {c x : Nat} (hx : Fl .f64 c x) (w : World) : Calls Try.prog 122 #[.float .f64 x] w (RB (many c) w) := by
  go_enter Try.func122, Try.ntmps122
  go_wp2_with (first | (go_at_call 108; refine (abs_any hx _).mono ?_; rintro e w' ⟨r, n, rfl, hr, rfl⟩) | (refine wpList_fcmp rfl rfl rfl rfl rfl (by first | (with_reducible assumption) | (with_reducible exact Fl.ofInt _ _) | exact Fl.not (by decide +kernel) (by decide +kernel)) (by first | (with_reducible assumption) | (with_reducible exact Fl.ofInt _ _) | exact Fl.not (by decide +kernel) (by decide +kernel)) ?_; simp only [Act.put, List.setIfInBounds_toArray, List.set_cons_succ, List.set_cons_zero]))
  go_ret
  exact RB.any rfl (by repeat (first | exact Drew.refl _ | refine Drew.more ?_))
theorem l01Sine_any {c x : Nat} (hx : Fl .f32 c x) (w : World) : Calls Try.prog 93 #[.float .f32 x] w (RF .f32 (sineC c) w) := by
  have hq : fcv .f64 .f32 (qn .f64) = qn .f32 := by decide +kernel
  have hz : fcv .f64 .f32 0 = 0 := by decide +kernel
  cases hf : fin .f32 c
  · have hn : fcmp .neq .f64 (fop .sub .f64 (fcv .f32 .f64 c) (fcv .f32 .f64 c)) 0 = true := by rw [fcmp_neq_fin, fin_wide, hf]; rfl
    go_enter Try.func93, Try.ntmps93
    go_wp2_with (first | (refine wpList_fcv rfl rfl rfl (by kernel_rfl) Try.underlying139 (by decide) (by first | (with_reducible assumption) | (with_reducible exact Fl.ofInt _ _) | exact Fl.not (by decide +kernel) (by decide +kernel)) (fits_wide _) ?_; intro r n hr; simp only [Act.put, List.setIfInBounds_toArray, List.set_cons_succ, List.set_cons_zero]) | (go_at_call 106; refine (l01SineWide_nan (by assumption) hn _).mono ?_; rintro e w' ⟨r, n, rfl, hr, rfl⟩) | (go_at_call 94; refine (l01Narrow_any (by assumption) (by decide +kernel) _).mono ?_; rintro e w' ⟨r, n, rfl, hr, rfl⟩))
    go_ret
    unfold sineC; rw [if_neg (by rw [hf]; decide), ← hq]
    exact RF.any hr (by repeat (first | exact Drew.refl _ | refine Drew.more ?_))
  · have hw := fin_wide c
    rw [hf] at hw
    have hn : fcmp .neq .f64 (fop .sub .f64 (fcv .f32 .f64 c) (fcv .f32 .f64 c)) 0 = false := by rw [fcmp_neq_fin, hw]; rfl
    cases hm : many (fcv .f32 .f64 c)
    · obtain ⟨iv, hi⟩ := fint_in hw hm
      have hm' := many_fin hw
      rw [hm] at hm'
      have hm2 := Bool.or_eq_false_iff.1 hm'.symm
      have hb := (sinW_bd (left_bd hw hm hi)).fits (by decide) (by decide)
      have HK := Keep.mk (show sineC c = fcv .f64 .f32 (sinW (left (fcv .f32 .f64 c) iv)) by unfold sineC; rw [if_pos hf, if_neg (by rw [hm]; decide), fint_of hi])
      clear hm'
      go_enter Try.func93, Try.ntmps93
      go_wp2_with (first | (refine wpList_fcv rfl rfl rfl (by kernel_rfl) Try.underlying139 (by decide) (by first | (with_reducible assumption) | (with_reducible exact Fl.ofInt _ _) | exact Fl.not (by decide +kernel) (by decide +kernel)) (fits_wide _) ?_; intro r n hr; simp only [Act.put, List.setIfInBounds_toArray, List.set_cons_succ, List.set_cons_zero]) | (go_at_call 106; obtain rfl := hr.word (fin_notN hw); refine (l01SineWide_any hr hi hn hm2.1 hm2.2 _).mono ?_; rintro e w' ⟨r, n, rfl, hr, rfl⟩) | (go_at_call 94; refine (l01Narrow_any (by assumption) hb.1 _).mono ?_; rintro e w' ⟨r, n, rfl, hr, rfl⟩))
      go_ret
      rw [HK.out]
      exact RF.any hr (by repeat (first | exact Drew.refl _ | refine Drew.more ?_))
    · have hm' := many_fin hw
      rw [hm] at hm'
      go_enter Try.func93, Try.ntmps93
      go_wp2_with (first | (refine wpList_fcv rfl rfl rfl (by kernel_rfl) Try.underlying139 (by decide) (by first | (with_reducible assumption) | (with_reducible exact Fl.ofInt _ _) | exact Fl.not (by decide +kernel) (by decide +kernel)) (fits_wide _) ?_; intro r n hr; simp only [Act.put, List.setIfInBounds_toArray, List.set_cons_succ, List.set_cons_zero]) | (go_at_call 106; refine (l01SineWide_many (by assumption) hn hm'.symm _).mono ?_; rintro e w' ⟨r, n, rfl, hr, rfl⟩) | (go_at_call 94; refine (l01Narrow_any (by assumption) (by decide +kernel) _).mono ?_; rintro e w' ⟨r, n, rfl, hr, rfl⟩))
      go_ret
      unfold sineC; rw [if_pos hf, if_pos hm, ← hz]
      exact RF.any hr (by repeat (first | exact Drew.refl _ | refine Drew.more ?_))
theorem iSineTurns_any {c x : Nat} (hx : Fl .f32 c x) (w : World) : Calls Try.prog 111 #[.float .f32 x] w (RF .f32 (sineC c) w) := by
  cases hf : fin .f32 c
  · go_enter Try.func111, Try.ntmps111
    go_wp2_with (first | (go_at_call 112; refine (iIsFinite_any hx _).mono ?_; rw [hf]; rintro e w' ⟨rfl, n, rfl⟩) | (go_at_call 113; refine (notANumber_any _).mono ?_; rintro e w' ⟨r, n, rfl, hr, rfl⟩))
    go_ret
    unfold sineC; rw [if_neg (by rw [hf]; decide)]
    exact RF.any hr (by repeat (first | exact Drew.refl _ | refine Drew.more ?_))
  · have hw := fin_wide c
    rw [hf] at hw
    cases hm : many (fcv .f32 .f64 c)
    · obtain ⟨iv, hi⟩ := fint_in hw hm
      have hb := (sinW_bd (left_bd hw hm hi)).fits (by decide) (by decide)
      have HK := Keep.mk (show sineC c = fcv .f64 .f32 (sinW (left (fcv .f32 .f64 c) iv)) by unfold sineC; rw [if_pos hf, if_neg (by rw [hm]; decide), fint_of hi])
      go_enter Try.func111, Try.ntmps111
      go_wp2_with (first | (refine wpList_fcv rfl rfl rfl (by kernel_rfl) Try.underlying139 (by decide) (by first | (with_reducible assumption) | (with_reducible exact Fl.ofInt _ _) | exact Fl.not (by decide +kernel) (by decide +kernel)) (fits_wide _) ?_; intro r n hr; simp only [Act.put, List.setIfInBounds_toArray, List.set_cons_succ, List.set_cons_zero]) | (go_at_call 112; refine (iIsFinite_any hx _).mono ?_; rw [hf]; rintro e w' ⟨rfl, n, rfl⟩) | (go_at_call 122; refine (isManyTurns_any (by assumption) _).mono ?_; rw [hm]; rintro e w' ⟨rfl, n, rfl⟩) | (go_at_call 123; obtain rfl := hr.word (fin_notN hw); refine (wideSine_any hr hi _).mono ?_; rintro e w' ⟨r, n, rfl, hr, rfl⟩) | (go_at_call 115; refine (iNarrow_any (by assumption) hb.1 _).mono ?_; rintro e w' ⟨r, n, rfl, hr, rfl⟩))
      go_ret
      rw [HK.out]
      exact RF.any hr (by repeat (first | exact Drew.refl _ | refine Drew.more ?_))
    · have h0 : Fl .f32 0 0 := Fl.not (by decide +kernel) (by decide +kernel)
      go_enter Try.func111, Try.ntmps111
      go_wp2_with (first | (refine wpList_fcv rfl rfl rfl (by kernel_rfl) Try.underlying139 (by decide) (by first | (with_reducible assumption) | (with_reducible exact Fl.ofInt _ _) | exact Fl.not (by decide +kernel) (by decide +kernel)) (fits_wide _) ?_; intro r n hr; simp only [Act.put, List.setIfInBounds_toArray, List.set_cons_succ, List.set_cons_zero]) | (go_at_call 112; refine (iIsFinite_any hx _).mono ?_; rw [hf]; rintro e w' ⟨rfl, n, rfl⟩) | (go_at_call 122; refine (isManyTurns_any (by assumption) _).mono ?_; rw [hm]; rintro e w' ⟨rfl, n, rfl⟩))
      go_ret
      unfold sineC; rw [if_pos hf, if_pos hm]
      exact RF.any h0 (by repeat (first | exact Drew.refl _ | refine Drew.more ?_))
end Go.Proofs.Yteclmjknmdlopaa
