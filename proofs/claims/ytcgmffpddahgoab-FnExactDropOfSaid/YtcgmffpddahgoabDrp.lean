/-
  DropOf, of the program and of the model; its law. No premise.
-/
import Derived.Test.YtcgmffpddahgoabGmb
namespace Go.Proofs.Ytcgmffpddahgoab
open Go Go.RowKit
set_option maxRecDepth 100000

/-- finite and at least 0 -/
def leastB (c : Nat) : Bool := fin .f32 c && fcmp .geq .f32 c 0
def unitB (c : Nat) : Bool := fcmp .geq .f32 c 0 && fcmp .leq .f32 c 1065353216
def dropC (far bend : Nat) : Nat := fop .quo .f32 (fop .mul .f32 (fop .mul .f32 far far) (fop .sub .f32 1065353216 bend)) 1073741824
def dropB (far bend : Nat) : Bool := leastB far && (unitB bend && fin .f32 (dropC far bend))
theorem one32 : Fl .f32 1065353216 1065353216 := Fl.not (by decide +kernel) (by decide +kernel)
theorem two32 : Fl .f32 1073741824 1073741824 := Fl.not (by decide +kernel) (by decide +kernel)
theorem l02Least_any {c x : Nat} (hx : Fl .f32 c x) (w : World) : Calls Try.prog 73 #[.float .f32 x] w (RB (leastB c) w) := by
  cases h1 : fin .f32 c
  · have KV := Keep.mk (show leastB c = false by unfold leastB; rw [h1]; rfl)
    have H1 := Hf.mk h1
    clear h1
    go_enter Try.func73, Try.ntmps73
    go_wp2_with (first | (go_at_call 56; refine (l01Finite_any hx _).mono ?_; rw [H1.out]; rintro e w' ⟨rfl, n, rfl⟩) | (refine wpList_fcmp_g rfl rfl rfl rfl rfl (by first | (with_reducible assumption) | (with_reducible exact Fl.ofInt _ _) | exact Fl.not (by decide +kernel) (by decide +kernel)) (by first | (with_reducible assumption) | (with_reducible exact Fl.ofInt _ _) | exact Fl.not (by decide +kernel) (by decide +kernel)) ?_; simp only [Act.put, List.setIfInBounds_toArray, List.set_cons_succ, List.set_cons_zero]))
    go_ret
    rw [KV.out]
    exact RB.any rfl (by repeat (first | exact Drew.refl _ | refine Drew.more ?_))
  · cases h2 : fcmp .geq .f32 c 0
    all_goals
      have KV := Keep.mk (show leastB c = fcmp .geq .f32 c 0 by unfold leastB; rw [h1]; rfl)
      have H1 := Hf.mk h1
      clear h1
      go_enter Try.func73, Try.ntmps73
      go_wp2_with (first | (go_at_call 56; refine (l01Finite_any hx _).mono ?_; rw [H1.out]; rintro e w' ⟨rfl, n, rfl⟩) | (refine wpList_fcmp_g rfl rfl rfl rfl rfl (by first | (with_reducible assumption) | (with_reducible exact Fl.ofInt _ _) | exact Fl.not (by decide +kernel) (by decide +kernel)) (by first | (with_reducible assumption) | (with_reducible exact Fl.ofInt _ _) | exact Fl.not (by decide +kernel) (by decide +kernel)) ?_; simp only [Act.put, List.setIfInBounds_toArray, List.set_cons_succ, List.set_cons_zero, h2]))
      go_ret
      rw [KV.out, h2]
      exact RB.any rfl (by repeat (first | exact Drew.refl _ | refine Drew.more ?_))
theorem isBound_any {c x : Nat} (hx : Fl .f32 c x) (w : World) : Calls Try.prog 77 #[.float .f32 x] w (RB (leastB c) w) := by
  cases h2 : fcmp .geq .f32 c 0
  · have KV := Keep.mk (show leastB c = false by unfold leastB; rw [h2, Bool.and_false])
    go_enter Try.func77, Try.ntmps77
    go_wp2_with (first | (go_at_call 61; refine (iIsFinite_any hx _).mono ?_; rintro e w' ⟨rfl, n, rfl⟩) | (refine wpList_fcmp rfl rfl rfl rfl rfl (by first | (with_reducible assumption) | (with_reducible exact Fl.ofInt _ _) | exact Fl.not (by decide +kernel) (by decide +kernel)) (by first | (with_reducible assumption) | (with_reducible exact Fl.ofInt _ _) | exact Fl.not (by decide +kernel) (by decide +kernel)) ?_; simp only [Act.put, List.setIfInBounds_toArray, List.set_cons_succ, List.set_cons_zero, h2]))
    go_ret
    rw [KV.out]
    exact RB.any rfl (by repeat (first | exact Drew.refl _ | refine Drew.more ?_))
  · have KV := Keep.mk (show leastB c = fin .f32 c by unfold leastB; rw [h2, Bool.and_true])
    go_enter Try.func77, Try.ntmps77
    go_wp2_with (first | (go_at_call 61; refine (iIsFinite_any hx _).mono ?_; rintro e w' ⟨rfl, n, rfl⟩) | (refine wpList_fcmp rfl rfl rfl rfl rfl (by first | (with_reducible assumption) | (with_reducible exact Fl.ofInt _ _) | exact Fl.not (by decide +kernel) (by decide +kernel)) (by first | (with_reducible assumption) | (with_reducible exact Fl.ofInt _ _) | exact Fl.not (by decide +kernel) (by decide +kernel)) ?_; simp only [Act.put, List.setIfInBounds_toArray, List.set_cons_succ, List.set_cons_zero, h2]))
    go_ret
    rw [KV.out]
    exact RB.any rfl (by repeat (first | exact Drew.refl _ | refine Drew.more ?_))
theorem l02Share_any {c x : Nat} (hx : Fl .f32 c x) (w : World) : Calls Try.prog 74 #[.float .f32 x] w (RB (unitB c) w) := by
  cases h1 : fcmp .geq .f32 c 0
  · have KV := Keep.mk (show unitB c = false by unfold unitB; rw [h1]; rfl)
    go_enter Try.func74, Try.ntmps74
    go_wp2_with (first | (refine wpList_fcmp rfl rfl rfl rfl rfl (by first | (with_reducible assumption) | (with_reducible exact Fl.ofInt _ _) | exact Fl.not (by decide +kernel) (by decide +kernel)) (by first | (with_reducible assumption) | (with_reducible exact Fl.ofInt _ _) | exact Fl.not (by decide +kernel) (by decide +kernel)) ?_; simp only [Act.put, List.setIfInBounds_toArray, List.set_cons_succ, List.set_cons_zero, h1]))
    go_ret
    rw [KV.out]
    exact RB.any rfl (by repeat (first | exact Drew.refl _ | refine Drew.more ?_))
  · cases h2 : fcmp .leq .f32 c 1065353216
    all_goals
      have KV := Keep.mk (show unitB c = fcmp .leq .f32 c 1065353216 by unfold unitB; rw [h1]; rfl)
      go_enter Try.func74, Try.ntmps74
      go_wp2_with (first | (refine wpList_fcmp rfl rfl rfl rfl rfl (by first | (with_reducible assumption) | (with_reducible exact Fl.ofInt _ _) | exact Fl.not (by decide +kernel) (by decide +kernel)) (by first | (with_reducible assumption) | (with_reducible exact Fl.ofInt _ _) | exact Fl.not (by decide +kernel) (by decide +kernel)) ?_; simp only [Act.put, List.setIfInBounds_toArray, List.set_cons_succ, List.set_cons_zero, h1]) | (refine wpList_fcmp_g rfl rfl rfl rfl rfl (by first | (with_reducible assumption) | (with_reducible exact Fl.ofInt _ _) | exact Fl.not (by decide +kernel) (by decide +kernel)) (by first | (with_reducible assumption) | (with_reducible exact Fl.ofInt _ _) | exact Fl.not (by decide +kernel) (by decide +kernel)) ?_; simp only [Act.put, List.setIfInBounds_toArray, List.set_cons_succ, List.set_cons_zero, h2]))
      go_ret
      rw [KV.out, h2]
      exact RB.any rfl (by repeat (first | exact Drew.refl _ | refine Drew.more ?_))
theorem l06Drop_any {c d x y : Nat} (hx : Fl .f32 c x) (hy : Fl .f32 d y) (w : World) : Calls Try.prog 76 #[.float .f32 x, .float .f32 y] w (RF .f32 (dropC c d) w) := by
  go_enter Try.func76, Try.ntmps76
  have tk_p : True := trivial; have tk_q : True := trivial; have tk_r : True := trivial; have tk_s : True := trivial
  go_wp2_with (first | (clear tk_p; refine wpList_fop rfl rfl rfl rfl rfl (by first | (with_reducible assumption) | (with_reducible exact Fl.ofInt _ _) | exact Fl.not (by decide +kernel) (by decide +kernel)) (by first | (with_reducible assumption) | (with_reducible exact Fl.ofInt _ _) | exact Fl.not (by decide +kernel) (by decide +kernel)) ?_; intro p n_p h_p; simp only [Act.put, List.setIfInBounds_toArray, List.set_cons_succ, List.set_cons_zero]) | (clear tk_q; refine wpList_fop rfl rfl rfl rfl rfl (by first | (with_reducible assumption) | (with_reducible exact Fl.ofInt _ _) | exact Fl.not (by decide +kernel) (by decide +kernel)) (by first | (with_reducible assumption) | (with_reducible exact Fl.ofInt _ _) | exact Fl.not (by decide +kernel) (by decide +kernel)) ?_; intro q n_q h_q; simp only [Act.put, List.setIfInBounds_toArray, List.set_cons_succ, List.set_cons_zero]) | (clear tk_r; refine wpList_fop rfl rfl rfl rfl rfl (by first | (with_reducible assumption) | (with_reducible exact Fl.ofInt _ _) | exact Fl.not (by decide +kernel) (by decide +kernel)) (by first | (with_reducible assumption) | (with_reducible exact Fl.ofInt _ _) | exact Fl.not (by decide +kernel) (by decide +kernel)) ?_; intro r n_r h_r; simp only [Act.put, List.setIfInBounds_toArray, List.set_cons_succ, List.set_cons_zero]) | (clear tk_s; refine wpList_fop rfl rfl rfl rfl rfl (by first | (with_reducible assumption) | (with_reducible exact Fl.ofInt _ _) | exact Fl.not (by decide +kernel) (by decide +kernel)) (by first | (with_reducible assumption) | (with_reducible exact Fl.ofInt _ _) | exact Fl.not (by decide +kernel) (by decide +kernel)) ?_; intro s n_s h_s; simp only [Act.put, List.setIfInBounds_toArray, List.set_cons_succ, List.set_cons_zero]))
  go_ret
  exact RF.any h_s (by repeat (first | exact Drew.refl _ | refine Drew.more ?_))
theorem sDrop_any {c d x y : Nat} (hx : Fl .f32 c x) (hy : Fl .f32 d y) (w : World) : Calls Try.prog 28 #[.float .f32 x, .float .f32 y] w (RT (fT (dropB c d) (dropC c d)) w) := by
  cases h1 : leastB c
  · have KV := Keep.mk (show dropB c d = false by unfold dropB; rw [h1]; rfl)
    have H1 := Hf.mk h1
    clear h1
    go_enter Try.func28, Try.ntmps28
    go_wp2_with (first | (go_at_call 73; refine (l02Least_any hx _).mono ?_; rw [H1.out]; rintro e w' ⟨rfl, n, rfl⟩))
    go_ret2
    rw [KV.out]
    exact RT.any (by repeat (first | exact Drew.refl _ | refine Drew.more ?_))
  · cases h2 : unitB d
    · have KV := Keep.mk (show dropB c d = false by unfold dropB; rw [h2, Bool.false_and, Bool.and_false])
      have H1 := Hf.mk h1
      have H2 := Hf.mk h2
      clear h1 h2
      go_enter Try.func28, Try.ntmps28
      go_wp2_with (first | (go_at_call 73; refine (l02Least_any hx _).mono ?_; rw [H1.out]; rintro e w' ⟨rfl, n, rfl⟩) | (go_at_call 74; refine (l02Share_any hy _).mono ?_; rw [H2.out]; rintro e w' ⟨rfl, n, rfl⟩))
      go_ret2
      rw [KV.out]
      exact RT.any (by repeat (first | exact Drew.refl _ | refine Drew.more ?_))
    · have KV := Keep.mk (show dropB c d = fin .f32 (dropC c d) by unfold dropB; rw [h1, h2, Bool.true_and, Bool.true_and])
      have H1 := Hf.mk h1
      have H2 := Hf.mk h2
      clear h1 h2
      cases hv : fin .f32 (dropC c d)
      · have HV := Hf.mk hv
        clear hv
        go_enter Try.func28, Try.ntmps28
        go_wp2_with (first | (go_at_call 73; refine (l02Least_any hx _).mono ?_; rw [H1.out]; rintro e w' ⟨rfl, n, rfl⟩) | (go_at_call 74; refine (l02Share_any hy _).mono ?_; rw [H2.out]; rintro e w' ⟨rfl, n, rfl⟩) | (go_at_call 76; refine (l06Drop_any hx hy _).mono ?_; rintro e w' ⟨r, n, rfl, hr, rfl⟩) | (go_at_call 75; refine (l02Num_no hr HV.out _).mono ?_; rintro e w' ⟨rfl, q5, rfl⟩))
        go_ret2
        rw [KV.out, HV.out]
        exact RT.any (by repeat (first | exact Drew.refl _ | refine Drew.more ?_))
      · have HV := Hf.mk hv
        clear hv
        go_enter Try.func28, Try.ntmps28
        go_wp2_with (first | (go_at_call 73; refine (l02Least_any hx _).mono ?_; rw [H1.out]; rintro e w' ⟨rfl, n, rfl⟩) | (go_at_call 74; refine (l02Share_any hy _).mono ?_; rw [H2.out]; rintro e w' ⟨rfl, n, rfl⟩) | (go_at_call 76; refine (l06Drop_any hx hy _).mono ?_; rintro e w' ⟨r, n, rfl, hr, rfl⟩) | (go_at_call 75; refine (l02Num_yes hr HV.out _).mono ?_; rintro e w' ⟨rfl, q5, rfl⟩))
        go_ret2
        rw [KV.out, HV.out]
        exact RT.any (by repeat (first | exact Drew.refl _ | refine Drew.more ?_))
theorem iDrop_any {c d x y : Nat} (hx : Fl .f32 c x) (hy : Fl .f32 d y) (w : World) : Calls Try.prog 29 #[.float .f32 x, .float .f32 y] w (RT (fT (dropB c d) (dropC c d)) w) := by
  cases h1 : leastB c
  · have KV := Keep.mk (show dropB c d = false by unfold dropB; rw [h1]; rfl)
    have H1 := Hf.mk h1
    clear h1
    go_enter Try.func29, Try.ntmps29
    go_wp2_with (first | (go_at_call 77; refine (isBound_any hx _).mono ?_; rw [H1.out]; rintro e w' ⟨rfl, n, rfl⟩))
    go_ret2
    rw [KV.out]
    exact RT.any (by repeat (first | exact Drew.refl _ | refine Drew.more ?_))
  · have H1 := Hf.mk h1
    cases h2 : fcmp .geq .f32 d 0
    · have KV := Keep.mk (show dropB c d = false by unfold dropB unitB; rw [h2, Bool.false_and, Bool.false_and, Bool.and_false])
      clear h1
      go_enter Try.func29, Try.ntmps29
      go_wp2_with (first | (go_at_call 77; refine (isBound_any hx _).mono ?_; rw [H1.out]; rintro e w' ⟨rfl, n, rfl⟩) | (refine wpList_fcmp_g rfl rfl rfl rfl rfl (by first | (with_reducible assumption) | (with_reducible exact Fl.ofInt _ _) | exact Fl.not (by decide +kernel) (by decide +kernel)) (by first | (with_reducible assumption) | (with_reducible exact Fl.ofInt _ _) | exact Fl.not (by decide +kernel) (by decide +kernel)) ?_; simp only [Act.put, List.setIfInBounds_toArray, List.set_cons_succ, List.set_cons_zero, h2]))
      go_ret2
      rw [KV.out]
      exact RT.any (by repeat (first | exact Drew.refl _ | refine Drew.more ?_))
    · cases h3 : fcmp .leq .f32 d 1065353216
      · have KV := Keep.mk (show dropB c d = false by unfold dropB unitB; rw [h3, Bool.and_false, Bool.false_and, Bool.and_false])
        clear h1
        go_enter Try.func29, Try.ntmps29
        go_wp2_with (first | (go_at_call 77; refine (isBound_any hx _).mono ?_; rw [H1.out]; rintro e w' ⟨rfl, n, rfl⟩) | (refine wpList_fcmp_g rfl rfl rfl rfl rfl (by first | (with_reducible assumption) | (with_reducible exact Fl.ofInt _ _) | exact Fl.not (by decide +kernel) (by decide +kernel)) (by first | (with_reducible assumption) | (with_reducible exact Fl.ofInt _ _) | exact Fl.not (by decide +kernel) (by decide +kernel)) ?_; simp only [Act.put, List.setIfInBounds_toArray, List.set_cons_succ, List.set_cons_zero, h2, h3]))
        go_ret2
        rw [KV.out]
        exact RT.any (by repeat (first | exact Drew.refl _ | refine Drew.more ?_))
      · have KV := Keep.mk (show dropB c d = fin .f32 (dropC c d) by unfold dropB unitB; rw [h1, h2, h3]; rfl)
        clear h1
        cases hv : fin .f32 (dropC c d)
        · have HV := Hf.mk hv
          clear hv
          go_enter Try.func29, Try.ntmps29
          have tk_p : True := trivial; have tk_q : True := trivial; have tk_r : True := trivial; have tk_s : True := trivial
          go_wp2_with (first | (go_at_call 77; refine (isBound_any hx _).mono ?_; rw [H1.out]; rintro e w' ⟨rfl, n, rfl⟩) | (refine wpList_fcmp_g rfl rfl rfl rfl rfl (by first | (with_reducible assumption) | (with_reducible exact Fl.ofInt _ _) | exact Fl.not (by decide +kernel) (by decide +kernel)) (by first | (with_reducible assumption) | (with_reducible exact Fl.ofInt _ _) | exact Fl.not (by decide +kernel) (by decide +kernel)) ?_; simp only [Act.put, List.setIfInBounds_toArray, List.set_cons_succ, List.set_cons_zero, h2, h3]) | (clear tk_p; refine wpList_fop rfl rfl rfl rfl rfl (by first | (with_reducible assumption) | (with_reducible exact Fl.ofInt _ _) | exact Fl.not (by decide +kernel) (by decide +kernel)) (by first | (with_reducible assumption) | (with_reducible exact Fl.ofInt _ _) | exact Fl.not (by decide +kernel) (by decide +kernel)) ?_; intro p n_p h_p; simp only [Act.put, List.setIfInBounds_toArray, List.set_cons_succ, List.set_cons_zero]) | (clear tk_q; refine wpList_fop rfl rfl rfl rfl rfl (by first | (with_reducible assumption) | (with_reducible exact Fl.ofInt _ _) | exact Fl.not (by decide +kernel) (by decide +kernel)) (by first | (with_reducible assumption) | (with_reducible exact Fl.ofInt _ _) | exact Fl.not (by decide +kernel) (by decide +kernel)) ?_; intro q n_q h_q; simp only [Act.put, List.setIfInBounds_toArray, List.set_cons_succ, List.set_cons_zero]) | (clear tk_r; refine wpList_fop rfl rfl rfl rfl rfl (by first | (with_reducible assumption) | (with_reducible exact Fl.ofInt _ _) | exact Fl.not (by decide +kernel) (by decide +kernel)) (by first | (with_reducible assumption) | (with_reducible exact Fl.ofInt _ _) | exact Fl.not (by decide +kernel) (by decide +kernel)) ?_; intro r n_r h_r; simp only [Act.put, List.setIfInBounds_toArray, List.set_cons_succ, List.set_cons_zero]) | (clear tk_s; refine wpList_fop rfl rfl rfl rfl rfl (by first | (with_reducible assumption) | (with_reducible exact Fl.ofInt _ _) | exact Fl.not (by decide +kernel) (by decide +kernel)) (by first | (with_reducible assumption) | (with_reducible exact Fl.ofInt _ _) | exact Fl.not (by decide +kernel) (by decide +kernel)) ?_; intro s n_s h_s; simp only [Act.put, List.setIfInBounds_toArray, List.set_cons_succ, List.set_cons_zero]) | (go_at_call 78; refine (finOne_no (c := dropC c d) h_s HV.out _).mono ?_; rintro e w' ⟨rfl, q5, rfl⟩))
          go_ret2
          rw [KV.out, HV.out]
          exact RT.any (by repeat (first | exact Drew.refl _ | refine Drew.more ?_))
        · have HV := Hf.mk hv
          clear hv
          go_enter Try.func29, Try.ntmps29
          have tk_p : True := trivial; have tk_q : True := trivial; have tk_r : True := trivial; have tk_s : True := trivial
          go_wp2_with (first | (go_at_call 77; refine (isBound_any hx _).mono ?_; rw [H1.out]; rintro e w' ⟨rfl, n, rfl⟩) | (refine wpList_fcmp_g rfl rfl rfl rfl rfl (by first | (with_reducible assumption) | (with_reducible exact Fl.ofInt _ _) | exact Fl.not (by decide +kernel) (by decide +kernel)) (by first | (with_reducible assumption) | (with_reducible exact Fl.ofInt _ _) | exact Fl.not (by decide +kernel) (by decide +kernel)) ?_; simp only [Act.put, List.setIfInBounds_toArray, List.set_cons_succ, List.set_cons_zero, h2, h3]) | (clear tk_p; refine wpList_fop rfl rfl rfl rfl rfl (by first | (with_reducible assumption) | (with_reducible exact Fl.ofInt _ _) | exact Fl.not (by decide +kernel) (by decide +kernel)) (by first | (with_reducible assumption) | (with_reducible exact Fl.ofInt _ _) | exact Fl.not (by decide +kernel) (by decide +kernel)) ?_; intro p n_p h_p; simp only [Act.put, List.setIfInBounds_toArray, List.set_cons_succ, List.set_cons_zero]) | (clear tk_q; refine wpList_fop rfl rfl rfl rfl rfl (by first | (with_reducible assumption) | (with_reducible exact Fl.ofInt _ _) | exact Fl.not (by decide +kernel) (by decide +kernel)) (by first | (with_reducible assumption) | (with_reducible exact Fl.ofInt _ _) | exact Fl.not (by decide +kernel) (by decide +kernel)) ?_; intro q n_q h_q; simp only [Act.put, List.setIfInBounds_toArray, List.set_cons_succ, List.set_cons_zero]) | (clear tk_r; refine wpList_fop rfl rfl rfl rfl rfl (by first | (with_reducible assumption) | (with_reducible exact Fl.ofInt _ _) | exact Fl.not (by decide +kernel) (by decide +kernel)) (by first | (with_reducible assumption) | (with_reducible exact Fl.ofInt _ _) | exact Fl.not (by decide +kernel) (by decide +kernel)) ?_; intro r n_r h_r; simp only [Act.put, List.setIfInBounds_toArray, List.set_cons_succ, List.set_cons_zero]) | (clear tk_s; refine wpList_fop rfl rfl rfl rfl rfl (by first | (with_reducible assumption) | (with_reducible exact Fl.ofInt _ _) | exact Fl.not (by decide +kernel) (by decide +kernel)) (by first | (with_reducible assumption) | (with_reducible exact Fl.ofInt _ _) | exact Fl.not (by decide +kernel) (by decide +kernel)) ?_; intro s n_s h_s; simp only [Act.put, List.setIfInBounds_toArray, List.set_cons_succ, List.set_cons_zero]) | (go_at_call 78; refine (finOne_yes (c := dropC c d) h_s HV.out _).mono ?_; rintro e w' ⟨rfl, q5, rfl⟩))
          go_ret2
          rw [KV.out, HV.out]
          exact RT.any (by repeat (first | exact Drew.refl _ | refine Drew.more ?_))
theorem dropC_fl {c d : Nat} (w : World) (hc : Fl .f32 c c) (hd : Fl .f32 d d) : Fl .f32 (dropC c d) (dropC c d) :=
  own_fin w rfl rfl (own_fin w rfl rfl (own_fin w rfl rfl hc hc) (own_fin w rfl rfl one32 hd)) two32
theorem law_DropOf {a b : Nat} (wa : (Lit.float .f32 a).wf = true) (wb : (Lit.float .f32 b).wf = true) (w : World) : Calls Try.prog 5 #[.float .f32 a, .float .f32 b] w (RB true w) := by
  have KS := Hf.mk (fun w => sDrop_any (Fl.own wa) (Fl.own wb) w)
  have KI := Hf.mk (fun w => iDrop_any (Fl.own wa) (Fl.own wb) w)
  have hc := dropC_fl w (Fl.own wa).self (Fl.own wb).self
  have hz := zero32
  generalize dropB (nrm .f32 a) (nrm .f32 b) = ok at *
  generalize dropC (nrm .f32 a) (nrm .f32 b) = c at *
  cases ok
  all_goals
    simp only [fT, if_true, if_false, Bool.false_eq_true] at KS KI
    go_enter Try.func5, Try.ntmps5
    go_wp2_with (first | (go_at_call 28; refine (KS.out _).mono ?_; rintro e w' ⟨rfl, n, rfl⟩) | (go_at_call 29; refine (KI.out _).mono ?_; rintro e w' ⟨rfl, n, rfl⟩) | (refine wpList_fcv rfl rfl rfl (by kernel_rfl) Try.underlying45 (by decide) (by first | (with_reducible assumption) | (with_reducible exact Fl.ofInt _ _) | exact Fl.not (by decide +kernel) (by decide +kernel)) (fits_wide _) ?_; intro r n hr; simp only [Act.put, List.setIfInBounds_toArray, List.set_cons_succ, List.set_cons_zero]) | (go_at_call 30; refine (sameFloat_any (by assumption) (by assumption) _).mono ?_; rintro e w' ⟨rfl, n, rfl⟩))
    go_ret
    exact RB.any rfl (by repeat (first | exact Drew.refl _ | refine Drew.more ?_))
end Go.Proofs.Ytcgmffpddahgoab
