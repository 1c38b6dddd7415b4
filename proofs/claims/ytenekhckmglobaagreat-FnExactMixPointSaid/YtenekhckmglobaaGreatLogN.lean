/-
  LogNumber, TenthsOf and RootNumber, of the program and of its model, compute the same Lean functions; their exact laws. No condition.
-/
import Derived.Test.YtenekhckmglobaaGreatLog
namespace Go.Proofs.YtenekhckmglobaaGreat
open Go Go.RowKit
set_option maxRecDepth 100000

/-- The words that tell float32s, class by class. -/
theorem classes {c : Nat} (hc : c < 4294967296) : isN .f32 c = true ∨ (c = 0 ∨ c = 2147483648) ∨ c = 2139095040 ∨ (0 < c ∧ c < 2139095040) ∨ (2147483648 < c ∧ c ≤ 4286578688) := by
  by_cases h : isN .f32 c = true
  · exact .inl h
  · right
    rw [isN_iff, in32, decide_eq_true_eq] at h
    unfold rung at h; rw [sw32] at h
    omega
theorem neg_class {c : Nat} (h1 : 2147483648 < c) (h2 : c ≤ 4286578688) : fcmp .neq .f32 c c = false ∧ fcmp .lss .f32 c 0 = true ∧ fcmp .eql .f32 c 0 = false ∧ fcmp .gtr .f32 c 0 = false ∧ fcmp .gtr .f32 c 2139095039 = false ∧ fcmp .leq .f32 c 0 = true := by
  by_cases he : c = 4286578688
  · subst he; decide +kernel
  · have hr : rung .f32 c = c - 2147483648 := by unfold rung; rw [sw32]; omega
    have hs : sgn .f32 c = true := by unfold sgn; rw [sw32, show c / 2147483648 = 1 by omega]; rfl
    have hf : fin .f32 c = true := by unfold fin; rw [hr, in32, decide_eq_true (by omega)]
    have h0 : fin .f32 0 = true := by decide +kernel
    have hm : fin .f32 2139095039 = true := by decide +kernel
    have s0 : sv .f32 0 = 0 := by decide +kernel
    have sm : 0 < sv .f32 2139095039 := by decide +kernel
    have hv : sv .f32 c < 0 := by
      have := val_mono FloatKind.f32.format (show 0 < rung .f32 c by omega)
      rw [val_zero] at this
      unfold sv; rw [if_pos hs]; omega
    obtain ⟨a1, a2, a3, a4, a5, a6⟩ := fcmp_fin hf h0
    obtain ⟨b1, b2, b3, b4, b5, b6⟩ := fcmp_fin hf hm
    rw [a1, a2, a3, a5, b3, s0]
    refine ⟨fcmp_self (fin_notN hf), decide_eq_true hv, decide_eq_false (by omega), decide_eq_false (by omega), decide_eq_false (by omega), decide_eq_true (by omega)⟩
theorem pos_class {c : Nat} (h1 : 0 < c) (h2 : c < 2139095040) : fin .f32 c = true ∧ fcmp .eql .f32 c 0 = false ∧ fcmp .gtr .f32 c 0 = true ∧ fcmp .gtr .f32 c 2139095039 = false ∧ fcmp .leq .f32 c 0 = false := by
  have hr : rung .f32 c = c := by unfold rung; rw [sw32]; omega
  have hs : sgn .f32 c = false := by unfold sgn; rw [sw32, show c / 2147483648 = 0 by omega]; rfl
  have hf : fin .f32 c = true := by unfold fin; rw [hr, in32, decide_eq_true (by omega)]
  have h0 : fin .f32 0 = true := by decide +kernel
  have hm : fin .f32 2139095039 = true := by decide +kernel
  have s0 : sv .f32 0 = 0 := by decide +kernel
  have hrm : rung .f32 2139095039 = 2139095039 := by decide +kernel
  have hsm : sgn .f32 2139095039 = false := by decide +kernel
  have hv : 0 < sv .f32 c := by
    have := val_mono FloatKind.f32.format (show 0 < rung .f32 c by omega)
    rw [val_zero] at this
    rw [sv_pos hs]; omega
  have hle : sv .f32 c ≤ sv .f32 2139095039 := by
    rw [sv_pos hs, sv_pos hsm, hr, hrm]
    rcases Nat.lt_or_eq_of_le (show c ≤ 2139095039 by omega) with hl | hl
    · have := val_mono FloatKind.f32.format hl; omega
    · rw [hl]; exact Int.le_refl _
  obtain ⟨a1, a2, a3, a4, a5, a6⟩ := fcmp_fin hf h0
  obtain ⟨b1, b2, b3, b4, b5, b6⟩ := fcmp_fin hf hm
  rw [a2, a3, a5, b3, s0]
  exact ⟨hf, decide_eq_false (by omega), decide_eq_true (by omega), decide_eq_false (by omega), decide_eq_false (by omega)⟩
theorem nan_class {c : Nat} (h : isN .f32 c = true) : fcmp .neq .f32 c c = true ∧ (∀ y, fcmp .eql .f32 c y = false ∧ fcmp .gtr .f32 c y = false ∧ fcmp .leq .f32 c y = false) := by
  unfold fcmp
  dsimp only
  rw [order_isN_l h]
  refine ⟨rfl, fun y => ?_⟩
  rw [order_isN_l h]
  exact ⟨rfl, rfl, rfl⟩
/-- The logarithm of a float32. -/
def logC (c : Nat) : Nat :=
  if isN .f32 c = true then qn .f32 else if c = 0 ∨ c = 2147483648 then 4286578688 else if c = 2139095040 then c else if c < 2147483648 then fcv .f64 .f32 (logW (fcv .f32 .f64 c)) else qn .f32

theorem infNeg_any (w : World) : Calls Tryz.prog 133 #[.int .i64 (-1)] w (RF .f64 18442240474082181120 w) := by
  have h : Fl .f64 18442240474082181120 18442240474082181120 := Fl.not (by decide +kernel) (by decide +kernel)
  go_enter Tryz.func133, Tryz.ntmps133
  go_wp2
  go_ret
  exact RF.any h (by repeat (first | exact Drew.refl _ | refine Drew.more ?_))
theorem l01LogWide_nan {c x : Nat} (hx : Fl .f64 c x) (h : fcmp .neq .f64 c c = true ∨ fcmp .lss .f64 c 0 = true) (w : World) : Calls Tryz.prog 128 #[.float .f64 x] w (RF .f64 (qn .f64) w) := by
  cases h1 : fcmp .neq .f64 c c
  · have h2 := h.resolve_left (by rw [h1]; decide)
    clear h
    go_enter Tryz.func128, Tryz.ntmps128
    go_wp2_with (first | (go_at_call 112; refine (nan_any _).mono ?_; rintro e w' ⟨r, n, rfl, hr, rfl⟩) | (refine wpList_fcmp rfl rfl rfl rfl rfl (by first | (with_reducible assumption) | (with_reducible exact Fl.ofInt _ _) | exact Fl.not (by decide +kernel) (by decide +kernel)) (by first | (with_reducible assumption) | (with_reducible exact Fl.ofInt _ _) | exact Fl.not (by decide +kernel) (by decide +kernel)) ?_; simp only [Act.put, List.setIfInBounds_toArray, List.set_cons_succ, List.set_cons_zero, h1]) | (refine wpList_fcmp_g rfl rfl rfl rfl rfl (by first | (with_reducible assumption) | (with_reducible exact Fl.ofInt _ _) | exact Fl.not (by decide +kernel) (by decide +kernel)) (by first | (with_reducible assumption) | (with_reducible exact Fl.ofInt _ _) | exact Fl.not (by decide +kernel) (by decide +kernel)) ?_; simp only [Act.put, List.setIfInBounds_toArray, List.set_cons_succ, List.set_cons_zero, h2]))
    go_ret
    exact RF.any hr (by repeat (first | exact Drew.refl _ | refine Drew.more ?_))
  · clear h
    go_enter Tryz.func128, Tryz.ntmps128
    go_wp2_with (first | (go_at_call 112; refine (nan_any _).mono ?_; rintro e w' ⟨r, n, rfl, hr, rfl⟩) | (refine wpList_fcmp rfl rfl rfl rfl rfl (by first | (with_reducible assumption) | (with_reducible exact Fl.ofInt _ _) | exact Fl.not (by decide +kernel) (by decide +kernel)) (by first | (with_reducible assumption) | (with_reducible exact Fl.ofInt _ _) | exact Fl.not (by decide +kernel) (by decide +kernel)) ?_; simp only [Act.put, List.setIfInBounds_toArray, List.set_cons_succ, List.set_cons_zero, h1]))
    go_ret
    exact RF.any hr (by repeat (first | exact Drew.refl _ | refine Drew.more ?_))
theorem l01LogWide_zero {c x : Nat} (hx : Fl .f64 c x) (h1 : fcmp .neq .f64 c c = false) (h2 : fcmp .lss .f64 c 0 = false) (h3 : fcmp .eql .f64 c 0 = true) (w : World) : Calls Tryz.prog 128 #[.float .f64 x] w (RF .f64 18442240474082181120 w) := by
  go_enter Tryz.func128, Tryz.ntmps128
  go_wp2_with (first | (go_at_call 133; refine (infNeg_any _).mono ?_; rintro e w' ⟨r, n, rfl, hr, rfl⟩) | (refine wpList_fcmp rfl rfl rfl rfl rfl (by first | (with_reducible assumption) | (with_reducible exact Fl.ofInt _ _) | exact Fl.not (by decide +kernel) (by decide +kernel)) (by first | (with_reducible assumption) | (with_reducible exact Fl.ofInt _ _) | exact Fl.not (by decide +kernel) (by decide +kernel)) ?_; simp only [Act.put, List.setIfInBounds_toArray, List.set_cons_succ, List.set_cons_zero, h1, h3]) | (refine wpList_fcmp_g rfl rfl rfl rfl rfl (by first | (with_reducible assumption) | (with_reducible exact Fl.ofInt _ _) | exact Fl.not (by decide +kernel) (by decide +kernel)) (by first | (with_reducible assumption) | (with_reducible exact Fl.ofInt _ _) | exact Fl.not (by decide +kernel) (by decide +kernel)) ?_; simp only [Act.put, List.setIfInBounds_toArray, List.set_cons_succ, List.set_cons_zero, h2]))
  go_ret
  exact RF.any hr (by repeat (first | exact Drew.refl _ | refine Drew.more ?_))
theorem l01LogWide_inf {x : Nat} (hx : Fl .f64 9218868437227405312 x) (w : World) : Calls Tryz.prog 128 #[.float .f64 x] w (RF .f64 9218868437227405312 w) := by
  have h1 : fcmp .neq .f64 9218868437227405312 9218868437227405312 = false := by decide +kernel
  have h2 : fcmp .lss .f64 9218868437227405312 0 = false := by decide +kernel
  have h3 : fcmp .eql .f64 9218868437227405312 0 = false := by decide +kernel
  have h4 : fcmp .gtr .f64 9218868437227405312 9218868437227405311 = true := by decide +kernel
  go_enter Tryz.func128, Tryz.ntmps128
  go_wp2_with (first | (refine wpList_fcmp rfl rfl rfl rfl rfl (by first | (with_reducible assumption) | (with_reducible exact Fl.ofInt _ _) | exact Fl.not (by decide +kernel) (by decide +kernel)) (by first | (with_reducible assumption) | (with_reducible exact Fl.ofInt _ _) | exact Fl.not (by decide +kernel) (by decide +kernel)) ?_; simp only [Act.put, List.setIfInBounds_toArray, List.set_cons_succ, List.set_cons_zero, h1, h3]) | (refine wpList_fcmp_g rfl rfl rfl rfl rfl (by first | (with_reducible assumption) | (with_reducible exact Fl.ofInt _ _) | exact Fl.not (by decide +kernel) (by decide +kernel)) (by first | (with_reducible assumption) | (with_reducible exact Fl.ofInt _ _) | exact Fl.not (by decide +kernel) (by decide +kernel)) ?_; simp only [Act.put, List.setIfInBounds_toArray, List.set_cons_succ, List.set_cons_zero, h2]) | (go_at_call 138; refine (isInf1_any hx _).mono ?_; rw [h4]; rintro e w' ⟨rfl, n, rfl⟩))
  go_ret
  exact RF.any hx (by repeat (first | exact Drew.refl _ | refine Drew.more ?_))
theorem l01Log_any {c x : Nat} (hx : Fl .f32 c x) (w : World) : Calls Tryz.prog 100 #[.float .f32 x] w (RF .f32 (logC c) w) := by
  have hl := hx.self.lt32
  have hq : fcv .f64 .f32 (qn .f64) = qn .f32 := by decide +kernel
  rcases classes hl with h | h | h | ⟨ha, hb⟩ | ⟨ha, hb⟩
  · have HK := Keep.mk (show logC c = fcv .f64 .f32 (qn .f64) by unfold logC; rw [if_pos h, hq])
    have hn : fcmp .neq .f64 (fcv .f32 .f64 c) (fcv .f32 .f64 c) = true := by rw [fcmp_wide]; exact (nan_class h).1
    clear hq
    go_enter Tryz.func100, Tryz.ntmps100
    go_wp2_with (first | (refine wpList_fcv rfl rfl rfl (by kernel_rfl) Tryz.underlying41 (by decide) (by first | (with_reducible assumption) | (with_reducible exact Fl.ofInt _ _) | exact Fl.not (by decide +kernel) (by decide +kernel)) (fits_wide _) ?_; intro r n hr; simp only [Act.put, List.setIfInBounds_toArray, List.set_cons_succ, List.set_cons_zero]) | (go_at_call 128; refine (l01LogWide_nan (by assumption) (.inl hn) _).mono ?_; rintro e w' ⟨r, n, rfl, hr, rfl⟩) | (go_at_call 80; refine (l01Narrow_any (by assumption) (by decide +kernel) _).mono ?_; rintro e w' ⟨r, n, rfl, hr, rfl⟩))
    go_ret
    rw [HK.out]
    exact RF.any hr (by repeat (first | exact Drew.refl _ | refine Drew.more ?_))
  · have hi : fcv .f64 .f32 18442240474082181120 = 4286578688 := by decide +kernel
    have hn : isN .f32 c = false := by rcases h with rfl | rfl <;> decide +kernel
    have HK := Keep.mk (show logC c = fcv .f64 .f32 18442240474082181120 by unfold logC; rw [if_neg (by rw [hn]; decide), if_pos h, hi])
    have c1 : fcmp .neq .f64 (fcv .f32 .f64 c) (fcv .f32 .f64 c) = false := by rw [fcmp_wide]; exact fcmp_self hn
    have c2 : fcmp .lss .f64 (fcv .f32 .f64 c) 0 = false := by rw [fcmp_wide0]; rcases h with rfl | rfl <;> decide +kernel
    have c3 : fcmp .eql .f64 (fcv .f32 .f64 c) 0 = true := by rw [fcmp_wide0]; rcases h with rfl | rfl <;> decide +kernel
    clear hq hi
    go_enter Tryz.func100, Tryz.ntmps100
    go_wp2_with (first | (refine wpList_fcv rfl rfl rfl (by kernel_rfl) Tryz.underlying41 (by decide) (by first | (with_reducible assumption) | (with_reducible exact Fl.ofInt _ _) | exact Fl.not (by decide +kernel) (by decide +kernel)) (fits_wide _) ?_; intro r n hr; simp only [Act.put, List.setIfInBounds_toArray, List.set_cons_succ, List.set_cons_zero]) | (go_at_call 128; refine (l01LogWide_zero (by assumption) c1 c2 c3 _).mono ?_; rintro e w' ⟨r, n, rfl, hr, rfl⟩) | (go_at_call 80; refine (l01Narrow_any (by assumption) (by decide +kernel) _).mono ?_; rintro e w' ⟨r, n, rfl, hr, rfl⟩))
    go_ret
    rw [HK.out]
    exact RF.any hr (by repeat (first | exact Drew.refl _ | refine Drew.more ?_))
  · subst h
    have e1 := Keep.mk (show fcv .f32 .f64 2139095040 = 9218868437227405312 by decide +kernel)
    have HK := Keep.mk (show logC 2139095040 = fcv .f64 .f32 9218868437227405312 by decide +kernel)
    go_enter Tryz.func100, Tryz.ntmps100
    go_wp2_with (first | (refine wpList_fcv rfl rfl rfl (by kernel_rfl) Tryz.underlying41 (by decide) (by first | (with_reducible assumption) | (with_reducible exact Fl.ofInt _ _) | exact Fl.not (by decide +kernel) (by decide +kernel)) (fits_wide _) ?_; intro r n hr; simp only [Act.put, List.setIfInBounds_toArray, List.set_cons_succ, List.set_cons_zero]) | (go_at_call 128; rw [e1.out] at hr; (go_at_call 128; refine (l01LogWide_inf (by assumption) _).mono ?_; rintro e w' ⟨r, n, rfl, hr, rfl⟩)) | (go_at_call 80; refine (l01Narrow_any (by assumption) (by decide +kernel) _).mono ?_; rintro e w' ⟨r, n, rfl, hr, rfl⟩))
    go_ret
    rw [HK.out]
    exact RF.any hr (by repeat (first | exact Drew.refl _ | refine Drew.more ?_))
  · obtain ⟨r1, r2⟩ := wide_range ha hb
    have hn : isN .f32 c = false := fin_notN (pos_class ha hb).1
    have HK := Keep.mk (show logC c = fcv .f64 .f32 (logW (fcv .f32 .f64 c)) by unfold logC; rw [if_neg (by rw [hn]; decide), if_neg (by omega), if_neg (by omega), if_pos (by omega)])
    have hb := ((logW_bd r1 r2).fits (by decide) (by decide)).1
    have hw := isN_wide c
    rw [hn] at hw
    go_enter Tryz.func100, Tryz.ntmps100
    go_wp2_with (first | (refine wpList_fcv rfl rfl rfl (by kernel_rfl) Tryz.underlying41 (by decide) (by first | (with_reducible assumption) | (with_reducible exact Fl.ofInt _ _) | exact Fl.not (by decide +kernel) (by decide +kernel)) (fits_wide _) ?_; intro r n hr; simp only [Act.put, List.setIfInBounds_toArray, List.set_cons_succ, List.set_cons_zero]) | (go_at_call 128; obtain rfl := hr.word hw; (go_at_call 128; refine (l01LogWide_any r1 r2 _).mono ?_; rintro e w' ⟨r, n, rfl, hr, rfl⟩)) | (go_at_call 80; refine (l01Narrow_any (by assumption) hb _).mono ?_; rintro e w' ⟨r, n, rfl, hr, rfl⟩))
    go_ret
    rw [HK.out]
    exact RF.any hr (by repeat (first | exact Drew.refl _ | refine Drew.more ?_))
  · have hn : isN .f32 c = false := by rw [isN_iff, in32]; unfold rung; rw [sw32, decide_eq_false (by omega)]
    have HK := Keep.mk (show logC c = fcv .f64 .f32 (qn .f64) by unfold logC; rw [if_neg (by rw [hn]; decide), if_neg (by omega), if_neg (by omega), if_neg (by omega), hq])
    have c2 : fcmp .lss .f64 (fcv .f32 .f64 c) 0 = true := by rw [fcmp_wide0]; exact (neg_class ha hb).2.1
    clear hq
    go_enter Tryz.func100, Tryz.ntmps100
    go_wp2_with (first | (refine wpList_fcv rfl rfl rfl (by kernel_rfl) Tryz.underlying41 (by decide) (by first | (with_reducible assumption) | (with_reducible exact Fl.ofInt _ _) | exact Fl.not (by decide +kernel) (by decide +kernel)) (fits_wide _) ?_; intro r n hr; simp only [Act.put, List.setIfInBounds_toArray, List.set_cons_succ, List.set_cons_zero]) | (go_at_call 128; refine (l01LogWide_nan (by assumption) (.inr c2) _).mono ?_; rintro e w' ⟨r, n, rfl, hr, rfl⟩) | (go_at_call 80; refine (l01Narrow_any (by assumption) (by decide +kernel) _).mono ?_; rintro e w' ⟨r, n, rfl, hr, rfl⟩))
    go_ret
    rw [HK.out]
    exact RF.any hr (by repeat (first | exact Drew.refl _ | refine Drew.more ?_))
theorem iLogNumber_any {c x : Nat} (hx : Fl .f32 c x) (w : World) : Calls Tryz.prog 132 #[.float .f32 x] w (RF .f32 (logC c) w) := by
  have hl := hx.self.lt32
  rcases classes hl with h | h | h | ⟨ha, hb⟩ | ⟨ha, hb⟩
  · have HK := Keep.mk (show logC c = qn .f32 by unfold logC; rw [if_pos h])
    obtain ⟨_, hn⟩ := nan_class h
    have c1 := (hn 0).1
    have c2 := (hn 2139095039).2.1
    have c3 := (hn 0).2.1
    clear hn
    go_enter Tryz.func132, Tryz.ntmps132
    go_wp2_with (first | (refine wpList_fcmp rfl rfl rfl rfl rfl (by first | (with_reducible assumption) | (with_reducible exact Fl.ofInt _ _) | exact Fl.not (by decide +kernel) (by decide +kernel)) (by first | (with_reducible assumption) | (with_reducible exact Fl.ofInt _ _) | exact Fl.not (by decide +kernel) (by decide +kernel)) ?_; simp only [Act.put, List.setIfInBounds_toArray, List.set_cons_succ, List.set_cons_zero, c1, c2, c3]) | (go_at_call 118; refine (notANumber_any _).mono ?_; rintro e w' ⟨r, n, rfl, hr, rfl⟩))
    go_ret
    rw [HK.out]
    exact RF.any hr (by repeat (first | exact Drew.refl _ | refine Drew.more ?_))
  · have hi : fcv .f64 .f32 18442240474082181120 = 4286578688 := by decide +kernel
    have hn : isN .f32 c = false := by rcases h with rfl | rfl <;> decide +kernel
    have HK := Keep.mk (show logC c = fcv .f64 .f32 18442240474082181120 by unfold logC; rw [if_neg (by rw [hn]; decide), if_pos h, hi])
    have c1 : fcmp .eql .f32 c 0 = true := by rcases h with rfl | rfl <;> decide +kernel
    clear hi
    go_enter Tryz.func132, Tryz.ntmps132
    go_wp2_with (first | (refine wpList_fcmp rfl rfl rfl rfl rfl (by first | (with_reducible assumption) | (with_reducible exact Fl.ofInt _ _) | exact Fl.not (by decide +kernel) (by decide +kernel)) (by first | (with_reducible assumption) | (with_reducible exact Fl.ofInt _ _) | exact Fl.not (by decide +kernel) (by decide +kernel)) ?_; simp only [Act.put, List.setIfInBounds_toArray, List.set_cons_succ, List.set_cons_zero, c1]) | (go_at_call 133; refine (infNeg_any _).mono ?_; rintro e w' ⟨r, n, rfl, hr, rfl⟩) | (refine wpList_fcv rfl rfl rfl (by kernel_rfl) Tryz.underlying22 (by decide) (by first | (with_reducible assumption) | (with_reducible exact Fl.ofInt _ _) | exact Fl.not (by decide +kernel) (by decide +kernel)) (by decide +kernel) ?_; intro r n hr; simp only [Act.put, List.setIfInBounds_toArray, List.set_cons_succ, List.set_cons_zero]))
    go_ret
    rw [HK.out]
    exact RF.any hr (by repeat (first | exact Drew.refl _ | refine Drew.more ?_))
  · subst h
    have HK := Keep.mk (show logC 2139095040 = 2139095040 by decide +kernel)
    have c1 : fcmp .eql .f32 2139095040 0 = false := by decide +kernel
    have c2 : fcmp .gtr .f32 2139095040 2139095039 = true := by decide +kernel
    go_enter Tryz.func132, Tryz.ntmps132
    go_wp2_with (refine wpList_fcmp rfl rfl rfl rfl rfl (by first | (with_reducible assumption) | (with_reducible exact Fl.ofInt _ _) | exact Fl.not (by decide +kernel) (by decide +kernel)) (by first | (with_reducible assumption) | (with_reducible exact Fl.ofInt _ _) | exact Fl.not (by decide +kernel) (by decide +kernel)) ?_; simp only [Act.put, List.setIfInBounds_toArray, List.set_cons_succ, List.set_cons_zero, c1, c2])
    go_ret
    rw [HK.out]
    exact RF.any hx (by repeat (first | exact Drew.refl _ | refine Drew.more ?_))
  · obtain ⟨r1, r2⟩ := wide_range ha hb
    obtain ⟨hf, c1, c3, c2, _⟩ := pos_class ha hb
    have hn : isN .f32 c = false := fin_notN hf
    have HK := Keep.mk (show logC c = fcv .f64 .f32 (logW (fcv .f32 .f64 c)) by unfold logC; rw [if_neg (by rw [hn]; decide), if_neg (by omega), if_neg (by omega), if_pos (by omega)])
    have hb := ((logW_bd r1 r2).fits (by decide) (by decide)).1
    have hw := isN_wide c
    rw [hn] at hw
    go_enter Tryz.func132, Tryz.ntmps132
    go_wp2_with (first | (refine wpList_fcmp rfl rfl rfl rfl rfl (by first | (with_reducible assumption) | (with_reducible exact Fl.ofInt _ _) | exact Fl.not (by decide +kernel) (by decide +kernel)) (by first | (with_reducible assumption) | (with_reducible exact Fl.ofInt _ _) | exact Fl.not (by decide +kernel) (by decide +kernel)) ?_; simp only [Act.put, List.setIfInBounds_toArray, List.set_cons_succ, List.set_cons_zero, c1, c2, c3]) | (refine wpList_fcv rfl rfl rfl (by kernel_rfl) Tryz.underlying41 (by decide) (by first | (with_reducible assumption) | (with_reducible exact Fl.ofInt _ _) | exact Fl.not (by decide +kernel) (by decide +kernel)) (fits_wide _) ?_; intro r n hr; simp only [Act.put, List.setIfInBounds_toArray, List.set_cons_succ, List.set_cons_zero]) | (go_at_call 141; obtain rfl := hr.word hw; (go_at_call 141; refine (wideLog_any r1 r2 _).mono ?_; rintro e w' ⟨r, n, rfl, hr, rfl⟩)) | (go_at_call 97; refine (iNarrow_any (by assumption) hb _).mono ?_; rintro e w' ⟨r, n, rfl, hr, rfl⟩))
    go_ret
    rw [HK.out]
    exact RF.any hr (by repeat (first | exact Drew.refl _ | refine Drew.more ?_))
  · have hn : isN .f32 c = false := by rw [isN_iff, in32]; unfold rung; rw [sw32, decide_eq_false (by omega)]
    have HK := Keep.mk (show logC c = qn .f32 by unfold logC; rw [if_neg (by rw [hn]; decide), if_neg (by omega), if_neg (by omega), if_neg (by omega)])
    obtain ⟨_, _, c1, c3, c2, _⟩ := neg_class ha hb
    go_enter Tryz.func132, Tryz.ntmps132
    go_wp2_with (first | (refine wpList_fcmp rfl rfl rfl rfl rfl (by first | (with_reducible assumption) | (with_reducible exact Fl.ofInt _ _) | exact Fl.not (by decide +kernel) (by decide +kernel)) (by first | (with_reducible assumption) | (with_reducible exact Fl.ofInt _ _) | exact Fl.not (by decide +kernel) (by decide +kernel)) ?_; simp only [Act.put, List.setIfInBounds_toArray, List.set_cons_succ, List.set_cons_zero, c1, c2, c3]) | (go_at_call 118; refine (notANumber_any _).mono ?_; rintro e w' ⟨r, n, rfl, hr, rfl⟩))
    go_ret
    rw [HK.out]
    exact RF.any hr (by repeat (first | exact Drew.refl _ | refine Drew.more ?_))
end Go.Proofs.YtenekhckmglobaaGreat
