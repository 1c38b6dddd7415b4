/-
  The program's angle and its model's compute the same Lean function. Conditions: as named.
-/
import Derived.Test.YtconlpgifkknmaaAngM
import Derived.Test.YtconlpgifkknmaaSin
namespace Go.Proofs.Ytconlpgifkknmaa
open Go Go.RowKit
set_option maxRecDepth 100000

theorem sqrt_run {c x : Nat} (w : World) (hx : Fl .f64 c x) : ∃ r n, (callFunc 175 #[.float .f64 x]).run Try.prog w = .ok (.value (.float .f64 r)) (w.drewN n) ∧ Fl .f64 (fsqrt c) r := by
  obtain ⟨r, n, h, hr⟩ := sqrt_entry (P := Try.prog) w hx
  refine ⟨r, n, ?_, hr⟩
  rw [run_callFunc_extern (e := Extern.MathSqrt.sqrt) Try.func175 (by kernel_rfl) (by kernel_rfl) (by kernel_rfl) (by kernel_rfl), h]; rfl
theorem sqrt_any {c x : Nat} (hx : Fl .f64 c x) (w : World) : Calls Try.prog 135 #[.float .f64 x] w (RF .f64 (fsqrt c) w) := by
  obtain ⟨r, n, hrun, hr⟩ := sqrt_run w hx
  go_enter Try.func135, Try.ntmps135
  go_wp2
  go_ret
  exact RF.any hr (by repeat (first | exact Drew.refl _ | refine Drew.more ?_))
set_option maxHeartbeats 1000000 in
theorem wideAngle_any {c x : Nat} (hx : Fl .f64 c x) (w : World) : Calls Try.prog 189 #[.float .f64 x] w (RF .f64 (angV (tIt c 3)) w) := by
  go_enter Try.func189, Try.ntmps189
  go_wp2_with (first | (refine wpList_fop rfl rfl rfl rfl rfl (by first | (with_reducible assumption) | (with_reducible exact Fl.ofInt _ _) | exact Fl.not (by decide +kernel) (by decide +kernel)) (by first | (with_reducible assumption) | (with_reducible exact Fl.ofInt _ _) | exact Fl.not (by decide +kernel) (by decide +kernel)) ?_; intro r n hr; simp only [Act.put, List.setIfInBounds_toArray, List.set_cons_succ, List.set_cons_zero]) | (refine wpList_fcmp rfl rfl rfl rfl rfl (by first | (with_reducible assumption) | (with_reducible exact Fl.ofInt _ _) | exact Fl.not (by decide +kernel) (by decide +kernel)) (by first | (with_reducible assumption) | (with_reducible exact Fl.ofInt _ _) | exact Fl.not (by decide +kernel) (by decide +kernel)) ?_; simp only [Act.put, List.setIfInBounds_toArray, List.set_cons_succ, List.set_cons_zero]))
  go_loopw [0, 6] (fun t i wr => ∃ tw m : Nat, m ≤ 3 ∧ t = .float .f64 tw ∧ Fl .f64 (tIt c m) tw ∧ i = .int .i64 m ∧ Drew w wr) (fun _ i _ => (3 - intOf i).toNat)
  case atStart => exact ⟨x, 0, by omega, rfl, hx, rfl, (by repeat (first | exact Drew.refl _ | refine Drew.more ?_))⟩
  case round =>
    obtain ⟨tw, m, hm, rfl, ht, rfl, q, rfl⟩ := hrel
    by_cases hlt : m < 3
    · go_wp2_with (first | (refine wpList_fop rfl rfl rfl rfl rfl (by first | (with_reducible assumption) | (with_reducible exact Fl.ofInt _ _) | exact Fl.not (by decide +kernel) (by decide +kernel)) (by first | (with_reducible assumption) | (with_reducible exact Fl.ofInt _ _) | exact Fl.not (by decide +kernel) (by decide +kernel)) ?_; intro r n hr; simp only [Act.put, List.setIfInBounds_toArray, List.set_cons_succ, List.set_cons_zero]) | (go_at_call 135; refine (sqrt_any (by assumption) _).mono ?_; rintro e w' ⟨r, n, rfl, hr, rfl⟩))
      go_roundw
      case rel => exact ⟨_, m + 1, by omega, rfl, by rw [tIt_succ]; exact hr, int_ext (by omega), (by repeat (first | exact Drew.refl _ | refine Drew.more ?_))⟩
      case measure => simp [intOf]; omega
    · obtain rfl : m = 3 := by omega
      have KV := Keep.mk (angV_eq (tIt c 3))
      generalize tIt c 3 = T at *
      go_wp2_with (refine wpList_fop rfl rfl rfl rfl rfl (by first | (with_reducible assumption) | (with_reducible exact Fl.ofInt _ _) | exact Fl.not (by decide +kernel) (by decide +kernel)) (by first | (with_reducible assumption) | (with_reducible exact Fl.ofInt _ _) | exact Fl.not (by decide +kernel) (by decide +kernel)) ?_; intro r n hr; simp only [Act.put, List.setIfInBounds_toArray, List.set_cons_succ, List.set_cons_zero])
      go_loopw [4, 5] (fun p k wr => ∃ pw kw m : Nat, m ≤ 8 ∧ p = .float .f64 pw ∧ Fl .f64 (angP (fop .mul .f64 T T) m) pw ∧ k = .float .f64 kw ∧ Fl .f64 (floatOfInt .f64 (15 - 2 * (m : Int))) kw ∧ Drew w wr) (fun _ k _ => oddMu k)
      case atStart => exact ⟨_, _, 0, by omega, rfl, Fl.not (k := .f64) (x := 0) (by decide +kernel) (by decide +kernel), rfl, fifteen, (by repeat (first | exact Drew.refl _ | refine Drew.more ?_))⟩
      case round =>
        obtain ⟨pw, kw, m, hm, rfl, hp, rfl, hk, q2, rfl⟩ := hrel
        by_cases hlt : m < 8
        · obtain ⟨hg, hs, _⟩ := odd_of hlt
          have KS := Keep.mk hs
          clear hs
          have tk_a1 : True := trivial; have tk_a2 : True := trivial; have tk_a3 : True := trivial; have tk_a4 : True := trivial
          go_wp2_with (first | (clear tk_a1; refine wpList_fop rfl rfl rfl rfl rfl (by first | (with_reducible assumption) | (with_reducible exact Fl.ofInt _ _) | exact Fl.not (by decide +kernel) (by decide +kernel)) (by first | (with_reducible assumption) | (with_reducible exact Fl.ofInt _ _) | exact Fl.not (by decide +kernel) (by decide +kernel)) ?_; intro a1 n_a1 h_a1; simp only [Act.put, List.setIfInBounds_toArray, List.set_cons_succ, List.set_cons_zero]) | (clear tk_a2; refine wpList_fop rfl rfl rfl rfl rfl (by first | (with_reducible assumption) | (with_reducible exact Fl.ofInt _ _) | exact Fl.not (by decide +kernel) (by decide +kernel)) (by first | (with_reducible assumption) | (with_reducible exact Fl.ofInt _ _) | exact Fl.not (by decide +kernel) (by decide +kernel)) ?_; intro a2 n_a2 h_a2; simp only [Act.put, List.setIfInBounds_toArray, List.set_cons_succ, List.set_cons_zero]) | (clear tk_a3; refine wpList_fop rfl rfl rfl rfl rfl (by first | (with_reducible assumption) | (with_reducible exact Fl.ofInt _ _) | exact Fl.not (by decide +kernel) (by decide +kernel)) (by first | (with_reducible assumption) | (with_reducible exact Fl.ofInt _ _) | exact Fl.not (by decide +kernel) (by decide +kernel)) ?_; intro a3 n_a3 h_a3; simp only [Act.put, List.setIfInBounds_toArray, List.set_cons_succ, List.set_cons_zero]) | (clear tk_a4; refine wpList_fop rfl rfl rfl rfl rfl (by first | (with_reducible assumption) | (with_reducible exact Fl.ofInt _ _) | exact Fl.not (by decide +kernel) (by decide +kernel)) (by first | (with_reducible assumption) | (with_reducible exact Fl.ofInt _ _) | exact Fl.not (by decide +kernel) (by decide +kernel)) ?_; intro a4 n_a4 h_a4; simp only [Act.put, List.setIfInBounds_toArray, List.set_cons_succ, List.set_cons_zero]) | (refine wpList_fcmp rfl rfl rfl rfl rfl (by first | (with_reducible assumption) | (with_reducible exact Fl.ofInt _ _) | exact Fl.not (by decide +kernel) (by decide +kernel)) (by first | (with_reducible assumption) | (with_reducible exact Fl.ofInt _ _) | exact Fl.not (by decide +kernel) (by decide +kernel)) ?_; simp only [Act.put, List.setIfInBounds_toArray, List.set_cons_succ, List.set_cons_zero, hg]))
          rw [KS.out] at h_a4
          rw [← angP_succ] at h_a3
          go_roundw
          case rel => exact ⟨_, _, m + 1, by omega, rfl, h_a3, rfl, h_a4, (by repeat (first | exact Drew.refl _ | refine Drew.more ?_))⟩
          case measure => exact odd_mu hlt h_a4 hk
        · obtain rfl : m = 8 := by omega
          have hg := odd_end
          go_wp2_with (first | (refine wpList_fop rfl rfl rfl rfl rfl (by first | (with_reducible assumption) | (with_reducible exact Fl.ofInt _ _) | exact Fl.not (by decide +kernel) (by decide +kernel)) (by first | (with_reducible assumption) | (with_reducible exact Fl.ofInt _ _) | exact Fl.not (by decide +kernel) (by decide +kernel)) ?_; intro r n hr; simp only [Act.put, List.setIfInBounds_toArray, List.set_cons_succ, List.set_cons_zero]) | (refine wpList_fcmp rfl rfl rfl rfl rfl (by first | (with_reducible assumption) | (with_reducible exact Fl.ofInt _ _) | exact Fl.not (by decide +kernel) (by decide +kernel)) (by first | (with_reducible assumption) | (with_reducible exact Fl.ofInt _ _) | exact Fl.not (by decide +kernel) (by decide +kernel)) ?_; simp only [Act.put, List.setIfInBounds_toArray, List.set_cons_succ, List.set_cons_zero, hg]))
          go_ret
          rw [KV.out]
          exact RF.any hr (by repeat (first | exact Drew.refl _ | refine Drew.more ?_))
set_option maxHeartbeats 1000000 in
theorem iAngleTurns_any {cy cx y x : Nat} (hy : Fl .f32 cy y) (hx : Fl .f32 cx x) (w : World) : Calls Try.prog 173 #[.float .f32 y, .float .f32 x] w (RF .f32 (angleC cy cx) w) := by
  cases f1 : fin .f32 cy
  · have HK := Keep.mk (show angleC cy cx = qn .f32 by unfold angleC; rw [if_neg (by rw [f1]; simp)])
    go_enter Try.func173, Try.ntmps173
    go_wp2_with (first | (go_at_call 72; refine (iIsFinite_any hy _).mono ?_; rw [f1]; rintro e w' ⟨rfl, n, rfl⟩) | (go_at_call 176; refine (notANumber_any _).mono ?_; rintro e w' ⟨r, n, rfl, hr, rfl⟩))
    go_ret
    rw [HK.out]
    exact RF.any hr (by repeat (first | exact Drew.refl _ | refine Drew.more ?_))
  · cases f2 : fin .f32 cx
    · have HK := Keep.mk (show angleC cy cx = qn .f32 by unfold angleC; rw [if_neg (by rw [f2]; simp)])
      go_enter Try.func173, Try.ntmps173
      go_wp2_with (first | (go_at_call 72; refine (iIsFinite_any hy _).mono ?_; rw [f1]; rintro e w' ⟨rfl, n, rfl⟩) | (go_at_call 72; refine (iIsFinite_any hx _).mono ?_; rw [f2]; rintro e w' ⟨rfl, n, rfl⟩) | (go_at_call 176; refine (notANumber_any _).mono ?_; rintro e w' ⟨r, n, rfl, hr, rfl⟩))
      go_ret
      rw [HK.out]
      exact RF.any hr (by repeat (first | exact Drew.refl _ | refine Drew.more ?_))
    · by_cases h0 : fcmp .eql .f32 cy 0 = true ∧ fcmp .eql .f32 cx 0 = true
      · have HK := Keep.mk (show angleC cy cx = 0 by unfold angleC; rw [if_pos ⟨f1, f2⟩, if_pos h0])
        obtain ⟨e1, e2⟩ := h0
        have hz : Fl .f32 0 0 := Fl.not (by decide +kernel) (by decide +kernel)
        go_enter Try.func173, Try.ntmps173
        go_wp2_with (first | (go_at_call 72; refine (iIsFinite_any hy _).mono ?_; rw [f1]; rintro e w' ⟨rfl, n, rfl⟩) | (go_at_call 72; refine (iIsFinite_any hx _).mono ?_; rw [f2]; rintro e w' ⟨rfl, n, rfl⟩) | (refine wpList_fcmp rfl rfl rfl rfl rfl (by first | (with_reducible assumption) | (with_reducible exact Fl.ofInt _ _) | exact Fl.not (by decide +kernel) (by decide +kernel)) (by first | (with_reducible assumption) | (with_reducible exact Fl.ofInt _ _) | exact Fl.not (by decide +kernel) (by decide +kernel)) ?_; simp only [Act.put, List.setIfInBounds_toArray, List.set_cons_succ, List.set_cons_zero, e1]) | (refine wpList_fcmp_g rfl rfl rfl rfl rfl (by first | (with_reducible assumption) | (with_reducible exact Fl.ofInt _ _) | exact Fl.not (by decide +kernel) (by decide +kernel)) (by first | (with_reducible assumption) | (with_reducible exact Fl.ofInt _ _) | exact Fl.not (by decide +kernel) (by decide +kernel)) ?_; simp only [Act.put, List.setIfInBounds_toArray, List.set_cons_succ, List.set_cons_zero, e2]))
        go_ret
        rw [HK.out]
        exact RF.any hz (by repeat (first | exact Drew.refl _ | refine Drew.more ?_))
      · have HK := Keep.mk (show angleC cy cx = fcv .f64 .f32 (ang3 (fcv .f32 .f64 cy) (fcv .f32 .f64 cx)) by unfold angleC; rw [if_pos ⟨f1, f2⟩, if_neg h0])
        have hfit := angle_fits f1 f2 h0
        obtain ⟨b4, hb4, hh⟩ : ∃ b4, fcmp .eql .f32 cx 0 = b4 ∧ (fcmp .eql .f32 cy 0 = false ∨ fcmp .eql .f32 cy 0 = true ∧ b4 = false) := ⟨_, rfl, zero_cases (fun h => h0 ⟨h.2, h.1⟩)⟩
        have HG := ang3_of (a := over (fcv .f32 .f64 cy) (fcv .f32 .f64 cx)) (y := fcv .f32 .f64 cy) (x := fcv .f32 .f64 cx) rfl rfl rfl
        rw [fcmp_wide0, fcmp_wide0] at HG
        clear h0
        rcases hh with h3 | ⟨h3, h4⟩
        all_goals
          first | subst h4 | skip
          have h4 := hb4
          clear hb4
        all_goals cases ho : over (fcv .f32 .f64 cy) (fcv .f32 .f64 cx)
        all_goals
          have HT := angT_of ho
          rw [ho] at HG
          simp only [Bool.false_eq_true, ↓reduceIte] at HT HG
          generalize ang3 (fcv .f32 .f64 cy) (fcv .f32 .f64 cx) = G at *
          generalize angT (fcv .f32 .f64 cy) (fcv .f32 .f64 cx) = T0 at *
          unfold over at ho
          cases h5 : fcmp .lss .f32 cx 0
          all_goals cases h6 : fcmp .lss .f32 cy 0
          all_goals
            rw [h5, h6] at HG
            simp only [Bool.false_eq_true, ↓reduceIte] at HG
            have KG := Keep.mk HG
            have KT := Keep.mk HT
            clear HG HT
            go_enter Try.func173, Try.ntmps173
            go_wp2_with (first | (go_at_call 72; refine (iIsFinite_any hy _).mono ?_; rw [f1]; rintro e w' ⟨rfl, n, rfl⟩) | (go_at_call 72; refine (iIsFinite_any hx _).mono ?_; rw [f2]; rintro e w' ⟨rfl, n, rfl⟩) | (refine wpList_fcv rfl rfl rfl (by kernel_rfl) Try.underlying35 (by decide) (by first | (with_reducible assumption) | (with_reducible exact Fl.ofInt _ _) | exact Fl.not (by decide +kernel) (by decide +kernel)) (fits_wide _) ?_; intro r n hr; simp only [Act.put, List.setIfInBounds_toArray, List.set_cons_succ, List.set_cons_zero]) | (refine wpList_fop rfl rfl rfl rfl rfl (by first | (with_reducible assumption) | (with_reducible exact Fl.ofInt _ _) | exact Fl.not (by decide +kernel) (by decide +kernel)) (by first | (with_reducible assumption) | (with_reducible exact Fl.ofInt _ _) | exact Fl.not (by decide +kernel) (by decide +kernel)) ?_; intro r n hr; simp only [Act.put, List.setIfInBounds_toArray, List.set_cons_succ, List.set_cons_zero]) | (refine wpList_fcmp rfl rfl rfl rfl rfl (by first | (with_reducible assumption) | (with_reducible exact Fl.ofInt _ _) | exact Fl.not (by decide +kernel) (by decide +kernel)) (by first | (with_reducible assumption) | (with_reducible exact Fl.ofInt _ _) | exact Fl.not (by decide +kernel) (by decide +kernel)) ?_; simp only [Act.put, List.setIfInBounds_toArray, List.set_cons_succ, List.set_cons_zero, h3, ho, h5, h6]) | (refine wpList_fcmp_g rfl rfl rfl rfl rfl (by first | (with_reducible assumption) | (with_reducible exact Fl.ofInt _ _) | exact Fl.not (by decide +kernel) (by decide +kernel)) (by first | (with_reducible assumption) | (with_reducible exact Fl.ofInt _ _) | exact Fl.not (by decide +kernel) (by decide +kernel)) ?_; simp only [Act.put, List.setIfInBounds_toArray, List.set_cons_succ, List.set_cons_zero, h4]) | (go_at_call 147; refine (abs_any (by assumption) _).mono ?_; rintro e w' ⟨r, n, rfl, hr, rfl⟩) | (go_at_call 189; rw [← KT.out] at hr; (go_at_call 189; refine (wideAngle_any (by assumption) _).mono ?_; rintro e w' ⟨r, n, rfl, hr, rfl⟩)))
            first
              | (rw [← KG.out] at hr; refine (iNarrow_any hr hfit _).mono ?_)
              | (have hr2 := hr.neg; rw [← KG.out] at hr2; refine (iNarrow_any hr2 hfit _).mono ?_)
            rintro e w' ⟨r, n, rfl, hr, rfl⟩
            go_wp2_with fail
            go_ret
            rw [HK.out]
            exact RF.any hr (by repeat (first | exact Drew.refl _ | refine Drew.more ?_))
end Go.Proofs.Ytconlpgifkknmaa
