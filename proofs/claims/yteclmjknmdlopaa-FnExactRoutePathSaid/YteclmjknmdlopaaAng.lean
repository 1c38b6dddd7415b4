/-
  The program's angle and its model's compute the same Lean function. Conditions: as named.
-/
import Derived.Test.YteclmjknmdlopaaAngM
import Derived.Test.YteclmjknmdlopaaSin
namespace Go.Proofs.Yteclmjknmdlopaa
open Go Go.RowKit
set_option maxRecDepth 100000

theorem sqrt_run {c x : Nat} (w : World) (hx : Fl .f64 c x) : ∃ r n, (callFunc 121 #[.float .f64 x]).run Try.prog w = .ok (.value (.float .f64 r)) (w.drewN n) ∧ Fl .f64 (fsqrt c) r := by
  obtain ⟨r, n, h, hr⟩ := sqrt_entry (P := Try.prog) w hx
  refine ⟨r, n, ?_, hr⟩
  rw [run_callFunc_extern (e := Extern.MathSqrt.sqrt) Try.func121 (by kernel_rfl) (by kernel_rfl) (by kernel_rfl) (by kernel_rfl), h]; rfl
theorem sqrt_any {c x : Nat} (hx : Fl .f64 c x) (w : World) : Calls Try.prog 109 #[.float .f64 x] w (RF .f64 (fsqrt c) w) := by
  obtain ⟨r, n, hrun, hr⟩ := sqrt_run w hx
  go_enter Try.func109, Try.ntmps109
  go_wp2
  go_ret
  exact RF.any hr (by repeat (first | exact Drew.refl _ | refine Drew.more ?_))
set_option maxHeartbeats 1000000 in
theorem wideAngle_any {c x : Nat} (hx : Fl .f64 c x) (w : World) : Calls Try.prog 114 #[.float .f64 x] w (RF .f64 (angV (tIt c 3)) w) := by
  go_enter Try.func114, Try.ntmps114
  go_wp2_with (first | (refine wpList_fop rfl rfl rfl rfl rfl (by first | (with_reducible assumption) | (with_reducible exact Fl.ofInt _ _) | exact Fl.not (by decide +kernel) (by decide +kernel)) (by first | (with_reducible assumption) | (with_reducible exact Fl.ofInt _ _) | exact Fl.not (by decide +kernel) (by decide +kernel)) ?_; intro r n hr; simp only [Act.put, List.setIfInBounds_toArray, List.set_cons_succ, List.set_cons_zero]) | (refine wpList_fcmp rfl rfl rfl rfl rfl (by first | (with_reducible assumption) | (with_reducible exact Fl.ofInt _ _) | exact Fl.not (by decide +kernel) (by decide +kernel)) (by first | (with_reducible assumption) | (with_reducible exact Fl.ofInt _ _) | exact Fl.not (by decide +kernel) (by decide +kernel)) ?_; simp only [Act.put, List.setIfInBounds_toArray, List.set_cons_succ, List.set_cons_zero]))
  go_loopw [0, 6] (fun t i wr => ∃ tw m : Nat, m ≤ 3 ∧ t = .float .f64 tw ∧ Fl .f64 (tIt c m) tw ∧ i = .int .i64 m ∧ Drew w wr) (fun _ i _ => (3 - intOf i).toNat)
  case atStart => exact ⟨x, 0, by omega, rfl, hx, rfl, (by repeat (first | exact Drew.refl _ | refine Drew.more ?_))⟩
  case round =>
    obtain ⟨tw, m, hm, rfl, ht, rfl, q, rfl⟩ := hrel
    by_cases hlt : m < 3
    · go_wp2_with (first | (refine wpList_fop rfl rfl rfl rfl rfl (by first | (with_reducible assumption) | (with_reducible exact Fl.ofInt _ _) | exact Fl.not (by decide +kernel) (by decide +kernel)) (by first | (with_reducible assumption) | (with_reducible exact Fl.ofInt _ _) | exact Fl.not (by decide +kernel) (by decide +kernel)) ?_; intro r n hr; simp only [Act.put, List.setIfInBounds_toArray, List.set_cons_succ, List.set_cons_zero]) | (go_at_call 109; refine (sqrt_any (by assumption) _).mono ?_; rintro e w' ⟨r, n, rfl, hr, rfl⟩))
      go_roundw
      case rel => exact ⟨_, m + 1, by omega, rfl, by rw [tIt_succ]; exact hr, int_ext (by omega), (by repeat (first | exact Drew.refl _ | refine Drew.more ?_))⟩
      case measure => simp [intOf]; omega
    · obtain rfl : m = 3 := by omega
      have KV := Keep.mk (angV_eq (tIt c 3))
      generalize tIt c 3 = T at *
      go_wp2_with (refine wpList_fop rfl rfl rfl rfl rfl (by first | (with_reducible assumption) | (with_reducible exact Fl.ofInt _ _) | exact Fl.not (by decide +kernel) (by decide +kernel)) (by first | (with_reducible assumption) | (with_reducible exact Fl.ofInt _ _) | exact Fl.not (by decide +kernel) (by decide +kernel)) ?_; intro r n hr; simp only [Act.put, List.setIfInBounds_toArray, List.set_cons_succ, List.set_cons_zero])
      go_loopw [4, 5] (fun p k wr => ∃ pw kw m : Nat, m ≤ 8 ∧ p = .float .f64 pw ∧ Fl .f64 (angP (fop .mul .f64 T T) m) pw ∧ k = .float .f64 kw ∧ Fl .f64 (floatOfInt .f64 (15 - 2 * (m : Int))) kw ∧ Drew w wr) (fun _ k _ => oddMu k)
      case atStart => exact ⟨_, _, 0, by omega, rfl, Fl.not (k := .f64) (x := 0) (by decide +kernel) (by decide +kernel), rfl, fifteen, (by repeat (first | exact Drew.refl _ | refine Drew.more ?_))⟩
      case round =>
        obtain ⟨pw, kw, m, hm, rfl, hp, rfl, hk, q2, rfl⟩ := hrel
        by_cases hlt : m < 8
        · obtain ⟨hg, hs, _⟩ := odd_of hlt
          have KS := Keep.mk hs
          clear hs
          have tk_a1 : True := trivial; have tk_a2 : True := trivial; have tk_a3 : True := trivial; have tk_a4 : True := trivial
          go_wp2_with (first | (clear tk_a1; refine wpList_fop rfl rfl rfl rfl rfl (by first | (with_reducible assumption) | (with_reducible exact Fl.ofInt _ _) | exact Fl.not (by decide +kernel) (by decide +kernel)) (by first | (with_reducible assumption) | (with_reducible exact Fl.ofInt _ _) | exact Fl.not (by decide +kernel) (by decide +kernel)) ?_; intro a1 n_a1 h_a1; simp only [Act.put, List.setIfInBounds_toArray, List.set_cons_succ, List.set_cons_zero]) | (clear tk_a2; refine wpList_fop rfl rfl rfl rfl rfl (by first | (with_reducible assumption) | (with_reducible exact Fl.ofInt _ _) | exact Fl.not (by decide +kernel) (by decide +kernel)) (by first | (with_reducible assumption) | (with_reducible exact Fl.ofInt _ _) | exact Fl.not (by decide +kernel) (by decide +kernel)) ?_; intro a2 n_a2 h_a2; simp only [Act.put, List.setIfInBounds_toArray, List.set_cons_succ, List.set_cons_zero]) | (clear tk_a3; refine wpList_fop rfl rfl rfl rfl rfl (by first | (with_reducible assumption) | (with_reducible exact Fl.ofInt _ _) | exact Fl.not (by decide +kernel) (by decide +kernel)) (by first | (with_reducible assumption) | (with_reducible exact Fl.ofInt _ _) | exact Fl.not (by decide +kernel) (by decide +kernel)) ?_; intro a3 n_a3 h_a3; simp only [Act.put, List.setIfInBounds_toArray, List.set_cons_succ, List.set_cons_zero]) | (clear tk_a4; refine wpList_fop rfl rfl rfl rfl rfl (by first | (with_reducible assumption) | (with_reducible exact Fl.ofInt _ _) | exact Fl.not (by decide +kernel) (by decide +kernel)) (by first | (with_reducible assumption) | (with_reducible exact Fl.ofInt _ _) | exact Fl.not (by decide +kernel) (by decide +kernel)) ?_; intro a4 n_a4 h_a4; simp only [Act.put, List.setIfInBounds_toArray, List.set_cons_succ, List.set_cons_zero]) | (refine wpList_fcmp rfl rfl rfl rfl rfl (by first | (with_reducible assumption) | (with_reducible exact Fl.ofInt _ _) | exact Fl.not (by decide +kernel) (by decide +kernel)) (by first | (with_reducible assumption) | (with_reducible exact Fl.ofInt _ _) | exact Fl.not (by decide +kernel) (by decide +kernel)) ?_; simp only [Act.put, List.setIfInBounds_toArray, List.set_cons_succ, List.set_cons_zero, hg]))
          rw [KS.out] at h_a4
          rw [← angP_succ] at h_a3
          go_roundw
          case rel => exact ⟨_, _, m + 1, by omega, rfl, h_a3, rfl, h_a4, (by repeat (first | exact Drew.refl _ | refine Drew.more ?_))⟩
          case measure => exact odd_mu hlt h_a4 hk
        · obtain rfl : m = 8 := by omega
          have hg := odd_end
          go_wp2_with (first | (refine wpList_fop rfl rfl rfl rfl rfl (by first | (with_reducible assumption) | (with_reducible exact Fl.ofInt _ _) | exact Fl.not (by decide +kernel) (by decide +kernel)) (by first | (with_reducible assumption) | (with_reducible exact Fl.ofInt _ _) | exact Fl.not (by decide +kernel) (by decide +kernel)) ?_; intro r n hr; simp only [Act.put, List.setIfInBounds_toArray, List.set_cons_succ, List.set_cons_zero]) | (refine wpList_fcmp rfl rfl rfl rfl rfl (by first | (with_reducible assumption) | (with_reducible exact Fl.ofInt _ _) | exact Fl.not (by decide +kernel) (by decide +kernel)) (by first | (with_reducible assumption) | (with_reducible exact Fl.ofInt _ _) | exact Fl.not (by decide +kernel) (by decide +kernel)) ?_; simp only [Act.put, List.setIfInBounds_toArray, List.set_cons_succ, List.set_cons_zero, hg]))
          go_ret
          rw [KV.out]
          exact RF.any hr (by repeat (first | exact Drew.refl _ | refine Drew.more ?_))
set_option maxHeartbeats 2000000 in
theorem l01AngleWide_any {cy cx y x : Nat} (hy : Fl .f64 cy y) (hx : Fl .f64 cx x) (h1 : fcmp .neq .f64 (fop .sub .f64 cy cy) 0 = false) (h2 : fcmp .neq .f64 (fop .sub .f64 cx cx) 0 = false) (hz : ¬ (fcmp .eql .f64 cy 0 = true ∧ fcmp .eql .f64 cx 0 = true)) (w : World) : Calls Try.prog 95 #[.float .f64 y, .float .f64 x] w (RF .f64 (ang3 cy cx) w) := by
  cases ho : over cy cx
  all_goals
    have HT := angT_of ho
    have HG := ang3_of (a := over cy cx) (y := cy) (x := cx) rfl rfl rfl
    rw [ho] at HG
    simp only [Bool.false_eq_true, ↓reduceIte] at HT HG
    generalize ang3 cy cx = G at *
    generalize angT cy cx = T0 at *
    have KT := Keep.mk HT
    have KG := Keep.mk HG
    have KZ := Keep.mk hz
    clear HT HG hz
    unfold over at ho
    obtain ⟨b4, hb4, hh⟩ : ∃ b4, fcmp .eql .f64 cy 0 = b4 ∧ (fcmp .eql .f64 cx 0 = false ∨ fcmp .eql .f64 cx 0 = true ∧ b4 = false) := ⟨_, rfl, zero_cases KZ.out⟩
    rcases hh with h3 | ⟨h3, h4⟩
    all_goals
      first | subst h4 | skip
      have h4 := hb4
      clear hb4
      go_enter Try.func95, Try.ntmps95
      go_wp2_with (first | (refine wpList_fop rfl rfl rfl rfl rfl (by first | (with_reducible assumption) | (with_reducible exact Fl.ofInt _ _) | exact Fl.not (by decide +kernel) (by decide +kernel)) (by first | (with_reducible assumption) | (with_reducible exact Fl.ofInt _ _) | exact Fl.not (by decide +kernel) (by decide +kernel)) ?_; intro r n hr; simp only [Act.put, List.setIfInBounds_toArray, List.set_cons_succ, List.set_cons_zero]) | (refine wpList_fop_g rfl rfl rfl rfl rfl (by first | (with_reducible assumption) | (with_reducible exact Fl.ofInt _ _) | exact Fl.not (by decide +kernel) (by decide +kernel)) (by first | (with_reducible assumption) | (with_reducible exact Fl.ofInt _ _) | exact Fl.not (by decide +kernel) (by decide +kernel)) ?_; intro r n hr; simp only [Act.put, List.setIfInBounds_toArray, List.set_cons_succ, List.set_cons_zero]) | (refine wpList_fcmp rfl rfl rfl rfl rfl (by first | (with_reducible assumption) | (with_reducible exact Fl.ofInt _ _) | exact Fl.not (by decide +kernel) (by decide +kernel)) (by first | (with_reducible assumption) | (with_reducible exact Fl.ofInt _ _) | exact Fl.not (by decide +kernel) (by decide +kernel)) ?_; simp only [Act.put, List.setIfInBounds_toArray, List.set_cons_succ, List.set_cons_zero, h1, h3, ho]) | (refine wpList_fcmp_g rfl rfl rfl rfl rfl (by first | (with_reducible assumption) | (with_reducible exact Fl.ofInt _ _) | exact Fl.not (by decide +kernel) (by decide +kernel)) (by first | (with_reducible assumption) | (with_reducible exact Fl.ofInt _ _) | exact Fl.not (by decide +kernel) (by decide +kernel)) ?_; simp only [Act.put, List.setIfInBounds_toArray, List.set_cons_succ, List.set_cons_zero, h2, h4]) | (go_at_call 108; refine (abs_any (by assumption) _).mono ?_; rintro e w' ⟨r, n, rfl, hr, rfl⟩))
      rw [← KT.out] at hr
      go_loopw [8, 9] (fun t i wr => ∃ tw m : Nat, m ≤ 3 ∧ t = .float .f64 tw ∧ Fl .f64 (tIt T0 m) tw ∧ i = .int .i64 m ∧ Drew w wr) (fun _ i _ => (3 - intOf i).toNat)
      case atStart => exact ⟨_, 0, by omega, rfl, hr, rfl, (by repeat (first | exact Drew.refl _ | refine Drew.more ?_))⟩
      case round =>
        obtain ⟨tw, m, hm, rfl, ht, rfl, q, rfl⟩ := hrel
        by_cases hlt : m < 3
        · go_wp2_with (first | (refine wpList_fop rfl rfl rfl rfl rfl (by first | (with_reducible assumption) | (with_reducible exact Fl.ofInt _ _) | exact Fl.not (by decide +kernel) (by decide +kernel)) (by first | (with_reducible assumption) | (with_reducible exact Fl.ofInt _ _) | exact Fl.not (by decide +kernel) (by decide +kernel)) ?_; intro r n hr; simp only [Act.put, List.setIfInBounds_toArray, List.set_cons_succ, List.set_cons_zero]) | (go_at_call 109; refine (sqrt_any (by assumption) _).mono ?_; rintro e w' ⟨r, n, rfl, hr, rfl⟩))
          go_roundw
          case rel => exact ⟨_, m + 1, by omega, rfl, by rw [tIt_succ]; exact hr, int_ext (by omega), (by repeat (first | exact Drew.refl _ | refine Drew.more ?_))⟩
          case measure => simp [intOf]; omega
        · obtain rfl : m = 3 := by omega
          have KV := Keep.mk (angV_eq (tIt T0 3))
          generalize angV (tIt T0 3) = V at *
          generalize tIt T0 3 = T at *
          go_wp2_with (refine wpList_fop rfl rfl rfl rfl rfl (by first | (with_reducible assumption) | (with_reducible exact Fl.ofInt _ _) | exact Fl.not (by decide +kernel) (by decide +kernel)) (by first | (with_reducible assumption) | (with_reducible exact Fl.ofInt _ _) | exact Fl.not (by decide +kernel) (by decide +kernel)) ?_; intro r n hr; simp only [Act.put, List.setIfInBounds_toArray, List.set_cons_succ, List.set_cons_zero])
          go_loopw [11, 12] (fun p k wr => ∃ pw m : Nat, m ≤ 8 ∧ p = .float .f64 pw ∧ Fl .f64 (angP (fop .mul .f64 T T) m) pw ∧ k = .int .i64 (15 - 2 * (m : Int)) ∧ Drew w wr) (fun _ k _ => (intOf k + 1).toNat)
          case atStart => exact ⟨_, 0, by omega, rfl, Fl.not (k := .f64) (x := 0) (by decide +kernel) (by decide +kernel), rfl, (by repeat (first | exact Drew.refl _ | refine Drew.more ?_))⟩
          case round =>
            obtain ⟨pw, m, hm, rfl, hp, rfl, q2, rfl⟩ := hrel
            by_cases hlt : m < 8
            · go_wp2_with (refine wpList_fop rfl rfl rfl rfl rfl (by first | (with_reducible assumption) | (with_reducible exact Fl.ofInt _ _) | exact Fl.not (by decide +kernel) (by decide +kernel)) (by first | (with_reducible assumption) | (with_reducible exact Fl.ofInt _ _) | exact Fl.not (by decide +kernel) (by decide +kernel)) ?_; intro r n hr; simp only [Act.put, List.setIfInBounds_toArray, List.set_cons_succ, List.set_cons_zero])
              rw [← angP_succ] at hr
              go_roundw
              case rel => exact ⟨_, m + 1, by omega, rfl, hr, int_ext (by omega), (by repeat (first | exact Drew.refl _ | refine Drew.more ?_))⟩
              case measure => simp [intOf]; omega
            · obtain rfl : m = 8 := by omega
              cases h5 : fcmp .lss .f64 cx 0
              all_goals cases h6 : fcmp .lss .f64 cy 0
              all_goals
                go_wp2_with (first | (refine wpList_fop rfl rfl rfl rfl rfl (by first | (with_reducible assumption) | (with_reducible exact Fl.ofInt _ _) | exact Fl.not (by decide +kernel) (by decide +kernel)) (by first | (with_reducible assumption) | (with_reducible exact Fl.ofInt _ _) | exact Fl.not (by decide +kernel) (by decide +kernel)) ?_; intro r n hr; simp only [Act.put, List.setIfInBounds_toArray, List.set_cons_succ, List.set_cons_zero]) | (refine wpList_fcmp rfl rfl rfl rfl rfl (by first | (with_reducible assumption) | (with_reducible exact Fl.ofInt _ _) | exact Fl.not (by decide +kernel) (by decide +kernel)) (by first | (with_reducible assumption) | (with_reducible exact Fl.ofInt _ _) | exact Fl.not (by decide +kernel) (by decide +kernel)) ?_; simp only [Act.put, List.setIfInBounds_toArray, List.set_cons_succ, List.set_cons_zero, h5, h6]))
                go_ret
                rw [KG.out, h5, h6]
                simp only [Bool.false_eq_true, ↓reduceIte]
                first | (rw [KV.out]; exact RF.any hr (by repeat (first | exact Drew.refl _ | refine Drew.more ?_))) | (rw [KV.out]; exact RF.any hr.neg (by repeat (first | exact Drew.refl _ | refine Drew.more ?_)))
theorem l01AngleWide_nan {cy cx y x : Nat} (hy : Fl .f64 cy y) (hx : Fl .f64 cx x) (h : fin .f64 cy = false ∨ fin .f64 cx = false) (w : World) : Calls Try.prog 95 #[.float .f64 y, .float .f64 x] w (RF .f64 (qn .f64) w) := by
  have g1 := fcmp_neq_fin (c := cy) .f64
  have g2 := fcmp_neq_fin (c := cx) .f64
  cases h1 : fin .f64 cy
  · rw [h1] at g1
    clear h g2
    go_enter Try.func95, Try.ntmps95
    go_wp2_with (first | (go_at_call 107; refine (nan_any _).mono ?_; rintro e w' ⟨r, n, rfl, hr, rfl⟩) | (refine wpList_fop rfl rfl rfl rfl rfl (by first | (with_reducible assumption) | (with_reducible exact Fl.ofInt _ _) | exact Fl.not (by decide +kernel) (by decide +kernel)) (by first | (with_reducible assumption) | (with_reducible exact Fl.ofInt _ _) | exact Fl.not (by decide +kernel) (by decide +kernel)) ?_; intro r n hr; simp only [Act.put, List.setIfInBounds_toArray, List.set_cons_succ, List.set_cons_zero]) | (refine wpList_fcmp rfl rfl rfl rfl rfl (by first | (with_reducible assumption) | (with_reducible exact Fl.ofInt _ _) | exact Fl.not (by decide +kernel) (by decide +kernel)) (by first | (with_reducible assumption) | (with_reducible exact Fl.ofInt _ _) | exact Fl.not (by decide +kernel) (by decide +kernel)) ?_; simp only [Act.put, List.setIfInBounds_toArray, List.set_cons_succ, List.set_cons_zero, g1]))
    go_ret
    exact RF.any hr (by repeat (first | exact Drew.refl _ | refine Drew.more ?_))
  · have h2 := h.resolve_left (by rw [h1]; decide)
    rw [h1] at g1
    rw [h2] at g2
    clear h
    go_enter Try.func95, Try.ntmps95
    go_wp2_with (first | (go_at_call 107; refine (nan_any _).mono ?_; rintro e w' ⟨r, n, rfl, hr, rfl⟩) | (refine wpList_fop rfl rfl rfl rfl rfl (by first | (with_reducible assumption) | (with_reducible exact Fl.ofInt _ _) | exact Fl.not (by decide +kernel) (by decide +kernel)) (by first | (with_reducible assumption) | (with_reducible exact Fl.ofInt _ _) | exact Fl.not (by decide +kernel) (by decide +kernel)) ?_; intro r n hr; simp only [Act.put, List.setIfInBounds_toArray, List.set_cons_succ, List.set_cons_zero]) | (refine wpList_fop_g rfl rfl rfl rfl rfl (by first | (with_reducible assumption) | (with_reducible exact Fl.ofInt _ _) | exact Fl.not (by decide +kernel) (by decide +kernel)) (by first | (with_reducible assumption) | (with_reducible exact Fl.ofInt _ _) | exact Fl.not (by decide +kernel) (by decide +kernel)) ?_; intro r n hr; simp only [Act.put, List.setIfInBounds_toArray, List.set_cons_succ, List.set_cons_zero]) | (refine wpList_fcmp rfl rfl rfl rfl rfl (by first | (with_reducible assumption) | (with_reducible exact Fl.ofInt _ _) | exact Fl.not (by decide +kernel) (by decide +kernel)) (by first | (with_reducible assumption) | (with_reducible exact Fl.ofInt _ _) | exact Fl.not (by decide +kernel) (by decide +kernel)) ?_; simp only [Act.put, List.setIfInBounds_toArray, List.set_cons_succ, List.set_cons_zero, g1]) | (refine wpList_fcmp_g rfl rfl rfl rfl rfl (by first | (with_reducible assumption) | (with_reducible exact Fl.ofInt _ _) | exact Fl.not (by decide +kernel) (by decide +kernel)) (by first | (with_reducible assumption) | (with_reducible exact Fl.ofInt _ _) | exact Fl.not (by decide +kernel) (by decide +kernel)) ?_; simp only [Act.put, List.setIfInBounds_toArray, List.set_cons_succ, List.set_cons_zero, g2]))
    go_ret
    exact RF.any hr (by repeat (first | exact Drew.refl _ | refine Drew.more ?_))
theorem l01AngleWide_zero {cy cx y x : Nat} (hy : Fl .f64 cy y) (hx : Fl .f64 cx x) (h1 : fcmp .neq .f64 (fop .sub .f64 cy cy) 0 = false) (h2 : fcmp .neq .f64 (fop .sub .f64 cx cx) 0 = false) (h4 : fcmp .eql .f64 cy 0 = true) (h3 : fcmp .eql .f64 cx 0 = true) (w : World) : Calls Try.prog 95 #[.float .f64 y, .float .f64 x] w (RF .f64 0 w) := by
  have h0 : Fl .f64 0 0 := Fl.not (by decide +kernel) (by decide +kernel)
  go_enter Try.func95, Try.ntmps95
  go_wp2_with (first | (refine wpList_fop rfl rfl rfl rfl rfl (by first | (with_reducible assumption) | (with_reducible exact Fl.ofInt _ _) | exact Fl.not (by decide +kernel) (by decide +kernel)) (by first | (with_reducible assumption) | (with_reducible exact Fl.ofInt _ _) | exact Fl.not (by decide +kernel) (by decide +kernel)) ?_; intro r n hr; simp only [Act.put, List.setIfInBounds_toArray, List.set_cons_succ, List.set_cons_zero]) | (refine wpList_fop_g rfl rfl rfl rfl rfl (by first | (with_reducible assumption) | (with_reducible exact Fl.ofInt _ _) | exact Fl.not (by decide +kernel) (by decide +kernel)) (by first | (with_reducible assumption) | (with_reducible exact Fl.ofInt _ _) | exact Fl.not (by decide +kernel) (by decide +kernel)) ?_; intro r n hr; simp only [Act.put, List.setIfInBounds_toArray, List.set_cons_succ, List.set_cons_zero]) | (refine wpList_fcmp rfl rfl rfl rfl rfl (by first | (with_reducible assumption) | (with_reducible exact Fl.ofInt _ _) | exact Fl.not (by decide +kernel) (by decide +kernel)) (by first | (with_reducible assumption) | (with_reducible exact Fl.ofInt _ _) | exact Fl.not (by decide +kernel) (by decide +kernel)) ?_; simp only [Act.put, List.setIfInBounds_toArray, List.set_cons_succ, List.set_cons_zero, h1, h3]) | (refine wpList_fcmp_g rfl rfl rfl rfl rfl (by first | (with_reducible assumption) | (with_reducible exact Fl.ofInt _ _) | exact Fl.not (by decide +kernel) (by decide +kernel)) (by first | (with_reducible assumption) | (with_reducible exact Fl.ofInt _ _) | exact Fl.not (by decide +kernel) (by decide +kernel)) ?_; simp only [Act.put, List.setIfInBounds_toArray, List.set_cons_succ, List.set_cons_zero, h2, h4]))
  go_ret
  exact RF.any h0 (by repeat (first | exact Drew.refl _ | refine Drew.more ?_))
theorem l01Angle_any {cy cx y x : Nat} (hy : Fl .f32 cy y) (hx : Fl .f32 cx x) (w : World) : Calls Try.prog 78 #[.float .f32 y, .float .f32 x] w (RF .f32 (angleC cy cx) w) := by
  have hq : fcv .f64 .f32 (qn .f64) = qn .f32 := by decide +kernel
  have hz : fcv .f64 .f32 0 = 0 := by decide +kernel
  by_cases hf : fin .f32 cy = true ∧ fin .f32 cx = true
  · obtain ⟨f1, f2⟩ := hf
    have g1 := fcmp_neq_fin (c := fcv .f32 .f64 cy) .f64
    have g2 := fcmp_neq_fin (c := fcv .f32 .f64 cx) .f64
    rw [fin_wide, f1] at g1
    rw [fin_wide, f2] at g2
    by_cases h0 : fcmp .eql .f32 cy 0 = true ∧ fcmp .eql .f32 cx 0 = true
    · have HK := Keep.mk (show angleC cy cx = fcv .f64 .f32 0 by unfold angleC; rw [if_pos ⟨f1, f2⟩, if_pos h0, hz])
      have e1 := fcmp_wide0 .eql cy
      have e2 := fcmp_wide0 .eql cx
      rw [h0.1] at e1
      rw [h0.2] at e2
      clear hq hz h0
      go_enter Try.func78, Try.ntmps78
      go_wp2_with (first | (refine wpList_fcv rfl rfl rfl (by kernel_rfl) Try.underlying139 (by decide) (by first | (with_reducible assumption) | (with_reducible exact Fl.ofInt _ _) | exact Fl.not (by decide +kernel) (by decide +kernel)) (fits_wide _) ?_; intro r n hr; simp only [Act.put, List.setIfInBounds_toArray, List.set_cons_succ, List.set_cons_zero]) | (go_at_call 95; refine (l01AngleWide_zero (by assumption) (by assumption) g1 g2 e1 e2 _).mono ?_; rintro e w' ⟨r, n, rfl, hr, rfl⟩) | (go_at_call 94; refine (l01Narrow_any (by assumption) (by decide +kernel) _).mono ?_; rintro e w' ⟨r, n, rfl, hr, rfl⟩))
      go_ret
      rw [HK.out]
      exact RF.any hr (by repeat (first | exact Drew.refl _ | refine Drew.more ?_))
    · have HK := Keep.mk (show angleC cy cx = fcv .f64 .f32 (ang3 (fcv .f32 .f64 cy) (fcv .f32 .f64 cx)) by unfold angleC; rw [if_pos ⟨f1, f2⟩, if_neg h0])
      have hfit := angle_fits f1 f2 h0
      rw [← fcmp_wide0, ← fcmp_wide0] at h0
      have KZ := Keep.mk h0
      clear hq hz h0
      go_enter Try.func78, Try.ntmps78
      go_wp2_with (first | (refine wpList_fcv rfl rfl rfl (by kernel_rfl) Try.underlying139 (by decide) (by first | (with_reducible assumption) | (with_reducible exact Fl.ofInt _ _) | exact Fl.not (by decide +kernel) (by decide +kernel)) (fits_wide _) ?_; intro r n hr; simp only [Act.put, List.setIfInBounds_toArray, List.set_cons_succ, List.set_cons_zero]) | (go_at_call 95; refine (l01AngleWide_any (by assumption) (by assumption) g1 g2 KZ.out _).mono ?_; rintro e w' ⟨r, n, rfl, hr, rfl⟩) | (go_at_call 94; refine (l01Narrow_any (by assumption) hfit _).mono ?_; rintro e w' ⟨r, n, rfl, hr, rfl⟩))
      go_ret
      rw [HK.out]
      exact RF.any hr (by repeat (first | exact Drew.refl _ | refine Drew.more ?_))
  · have HK := Keep.mk (show angleC cy cx = fcv .f64 .f32 (qn .f64) by unfold angleC; rw [if_neg hf, hq])
    have hd : fin .f64 (fcv .f32 .f64 cy) = false ∨ fin .f64 (fcv .f32 .f64 cx) = false := by
      rw [fin_wide, fin_wide]
      cases h1 : fin .f32 cy
      · exact .inl rfl
      · cases h2 : fin .f32 cx
        · exact .inr rfl
        · exact absurd ⟨h1, h2⟩ hf
    have KD := Keep.mk hd
    clear hq hz hf hd
    go_enter Try.func78, Try.ntmps78
    go_wp2_with (first | (refine wpList_fcv rfl rfl rfl (by kernel_rfl) Try.underlying139 (by decide) (by first | (with_reducible assumption) | (with_reducible exact Fl.ofInt _ _) | exact Fl.not (by decide +kernel) (by decide +kernel)) (fits_wide _) ?_; intro r n hr; simp only [Act.put, List.setIfInBounds_toArray, List.set_cons_succ, List.set_cons_zero]) | (go_at_call 95; refine (l01AngleWide_nan (by assumption) (by assumption) KD.out _).mono ?_; rintro e w' ⟨r, n, rfl, hr, rfl⟩) | (go_at_call 94; refine (l01Narrow_any (by assumption) (by decide +kernel) _).mono ?_; rintro e w' ⟨r, n, rfl, hr, rfl⟩))
    go_ret
    rw [HK.out]
    exact RF.any hr (by repeat (first | exact Drew.refl _ | refine Drew.more ?_))
set_option maxHeartbeats 1000000 in
theorem iAngleTurns_any {cy cx y x : Nat} (hy : Fl .f32 cy y) (hx : Fl .f32 cx x) (w : World) : Calls Try.prog 98 #[.float .f32 y, .float .f32 x] w (RF .f32 (angleC cy cx) w) := by
  cases f1 : fin .f32 cy
  · have HK := Keep.mk (show angleC cy cx = qn .f32 by unfold angleC; rw [if_neg (by rw [f1]; simp)])
    go_enter Try.func98, Try.ntmps98
    go_wp2_with (first | (go_at_call 112; refine (iIsFinite_any hy _).mono ?_; rw [f1]; rintro e w' ⟨rfl, n, rfl⟩) | (go_at_call 113; refine (notANumber_any _).mono ?_; rintro e w' ⟨r, n, rfl, hr, rfl⟩))
    go_ret
    rw [HK.out]
    exact RF.any hr (by repeat (first | exact Drew.refl _ | refine Drew.more ?_))
  · cases f2 : fin .f32 cx
    · have HK := Keep.mk (show angleC cy cx = qn .f32 by unfold angleC; rw [if_neg (by rw [f2]; simp)])
      go_enter Try.func98, Try.ntmps98
      go_wp2_with (first | (go_at_call 112; refine (iIsFinite_any hy _).mono ?_; rw [f1]; rintro e w' ⟨rfl, n, rfl⟩) | (go_at_call 112; refine (iIsFinite_any hx _).mono ?_; rw [f2]; rintro e w' ⟨rfl, n, rfl⟩) | (go_at_call 113; refine (notANumber_any _).mono ?_; rintro e w' ⟨r, n, rfl, hr, rfl⟩))
      go_ret
      rw [HK.out]
      exact RF.any hr (by repeat (first | exact Drew.refl _ | refine Drew.more ?_))
    · by_cases h0 : fcmp .eql .f32 cy 0 = true ∧ fcmp .eql .f32 cx 0 = true
      · have HK := Keep.mk (show angleC cy cx = 0 by unfold angleC; rw [if_pos ⟨f1, f2⟩, if_pos h0])
        obtain ⟨e1, e2⟩ := h0
        have hz : Fl .f32 0 0 := Fl.not (by decide +kernel) (by decide +kernel)
        go_enter Try.func98, Try.ntmps98
        go_wp2_with (first | (go_at_call 112; refine (iIsFinite_any hy _).mono ?_; rw [f1]; rintro e w' ⟨rfl, n, rfl⟩) | (go_at_call 112; refine (iIsFinite_any hx _).mono ?_; rw [f2]; rintro e w' ⟨rfl, n, rfl⟩) | (refine wpList_fcmp rfl rfl rfl rfl rfl (by first | (with_reducible assumption) | (with_reducible exact Fl.ofInt _ _) | exact Fl.not (by decide +kernel) (by decide +kernel)) (by first | (with_reducible assumption) | (with_reducible exact Fl.ofInt _ _) | exact Fl.not (by decide +kernel) (by decide +kernel)) ?_; simp only [Act.put, List.setIfInBounds_toArray, List.set_cons_succ, List.set_cons_zero, e1]) | (refine wpList_fcmp_g rfl rfl rfl rfl rfl (by first | (with_reducible assumption) | (with_reducible exact Fl.ofInt _ _) | exact Fl.not (by decide +kernel) (by decide +kernel)) (by first | (with_reducible assumption) | (with_reducible exact Fl.ofInt _ _) | exact Fl.not (by decide +kernel) (by decide +kernel)) ?_; simp only [Act.put, List.setIfInBounds_toArray, List.set_cons_succ, List.set_cons_zero, e2]))
        go_ret
        rw [HK.out]
        exact RF.any hz (by repeat (first | exact Drew.refl _ | refine Drew.more ?_))
      · have HK := Keep.mk (show angleC cy cx = fcv .f64 .f32 (ang3 (fcv .f32 .f64 cy) (fcv .f32 .f64 cx)) by unfold angleC; rw [if_pos ⟨f1, f2⟩, if_neg h0])
        have hfit := angle_fits f1 f2 h0
        obtain ⟨b4, hb4, hh⟩ : ∃ b4, fcmp .eql .f32 cx 0 = b4 ∧ (fcmp .eql .f32 cy 0 = false ∨ fcmp .eql .f32 cy 0 = true ∧ b4 = false) := ⟨_, rfl, zero_cases (fun h => h0 ⟨h.2, h.1⟩)⟩
        have HG := ang3_of (a := over (fcv .f32 .f64 cy) (fcv .f32 .f64 cx)) (y := fcv .f32 .f64 cy) (x := fcv .f32 .f64 cx) rfl rfl rfl
        rw [fcmp_wide0, fcmp_wide0] at HG
        clear h0
        rcases hh with h3 | ⟨h3, h4⟩
        all_goals
          first | subst h4 | skip
          have h4 := hb4
          clear hb4
        all_goals cases ho : over (fcv .f32 .f64 cy) (fcv .f32 .f64 cx)
        all_goals
          have HT := angT_of ho
          rw [ho] at HG
          simp only [Bool.false_eq_true, ↓reduceIte] at HT HG
          generalize ang3 (fcv .f32 .f64 cy) (fcv .f32 .f64 cx) = G at *
          generalize angT (fcv .f32 .f64 cy) (fcv .f32 .f64 cx) = T0 at *
          unfold over at ho
          cases h5 : fcmp .lss .f32 cx 0
          all_goals cases h6 : fcmp .lss .f32 cy 0
          all_goals
            rw [h5, h6] at HG
            simp only [Bool.false_eq_true, ↓reduceIte] at HG
            have KG := Keep.mk HG
            have KT := Keep.mk HT
            clear HG HT
            go_enter Try.func98, Try.ntmps98
            go_wp2_with (first | (go_at_call 112; refine (iIsFinite_any hy _).mono ?_; rw [f1]; rintro e w' ⟨rfl, n, rfl⟩) | (go_at_call 112; refine (iIsFinite_any hx _).mono ?_; rw [f2]; rintro e w' ⟨rfl, n, rfl⟩) | (refine wpList_fcv rfl rfl rfl (by kernel_rfl) Try.underlying139 (by decide) (by first | (with_reducible assumption) | (with_reducible exact Fl.ofInt _ _) | exact Fl.not (by decide +kernel) (by decide +kernel)) (fits_wide _) ?_; intro r n hr; simp only [Act.put, List.setIfInBounds_toArray, List.set_cons_succ, List.set_cons_zero]) | (refine wpList_fop rfl rfl rfl rfl rfl (by first | (with_reducible assumption) | (with_reducible exact Fl.ofInt _ _) | exact Fl.not (by decide +kernel) (by decide +kernel)) (by first | (with_reducible assumption) | (with_reducible exact Fl.ofInt _ _) | exact Fl.not (by decide +kernel) (by decide +kernel)) ?_; intro r n hr; simp only [Act.put, List.setIfInBounds_toArray, List.set_cons_succ, List.set_cons_zero]) | (refine wpList_fcmp rfl rfl rfl rfl rfl (by first | (with_reducible assumption) | (with_reducible exact Fl.ofInt _ _) | exact Fl.not (by decide +kernel) (by decide +kernel)) (by first | (with_reducible assumption) | (with_reducible exact Fl.ofInt _ _) | exact Fl.not (by decide +kernel) (by decide +kernel)) ?_; simp only [Act.put, List.setIfInBounds_toArray, List.set_cons_succ, List.set_cons_zero, h3, ho, h5, h6]) | (refine wpList_fcmp_g rfl rfl rfl rfl rfl (by first | (with_reducible assumption) | (with_reducible exact Fl.ofInt _ _) | exact Fl.not (by decide +kernel) (by decide +kernel)) (by first | (with_reducible assumption) | (with_reducible exact Fl.ofInt _ _) | exact Fl.not (by decide +kernel) (by decide +kernel)) ?_; simp only [Act.put, List.setIfInBounds_toArray, List.set_cons_succ, List.set_cons_zero, h4]) | (go_at_call 108; refine (abs_any (by assumption) _).mono ?_; rintro e w' ⟨r, n, rfl, hr, rfl⟩) | (go_at_call 114; rw [← KT.out] at hr; (go_at_call 114; refine (wideAngle_any (by assumption) _).mono ?_; rintro e w' ⟨r, n, rfl, hr, rfl⟩)))
            first
              | (rw [← KG.out] at hr; refine (iNarrow_any hr hfit _).mono ?_)
              | (have hr2 := hr.neg; rw [← KG.out] at hr2; refine (iNarrow_any hr2 hfit _).mono ?_)
            rintro e w' ⟨r, n, rfl, hr, rfl⟩
            go_wp2_with fail
            go_ret
            rw [HK.out]
            exact RF.any hr (by repeat (first | exact Drew.refl _ | refine Drew.more ?_))
end Go.Proofs.Yteclmjknmdlopaa
