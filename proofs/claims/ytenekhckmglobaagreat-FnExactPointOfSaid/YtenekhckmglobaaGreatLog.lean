/-
  The program's logarithm, tenths of decibels and square root, and its model's, compute the same Lean functions. Conditions: as named.
-/
import Derived.Test.YtenekhckmglobaaGreatLogM
import Derived.Test.YtenekhckmglobaaGreatAng
namespace Go.Proofs.YtenekhckmglobaaGreat
open Go Go.RowKit
set_option maxRecDepth 100000

def fBits (v : Value) : Nat := match v with
  | .float _ b => b
  | _ => 0
theorem pos_fl {x : Nat} (h : x < 9218868437227405312) : Fl .f64 x x := Fl.not (fin_notN (pos_word h).1) (wf_of_lt .f64 x (by show x < 2 ^ 64; omega))
theorem fcmp_self {k : FloatKind} {c : Nat} (h : isN k c = false) : fcmp .neq k c c = false := by
  unfold fcmp; dsimp only; rw [order_self h]; rfl
theorem isInf1_any {c x : Nat} (hx : Fl .f64 c x) (w : World) : Calls Tryz.prog 138 #[.float .f64 x, .int .i64 1] w (RB (fcmp .gtr .f64 c 9218868437227405311) w) := by
  go_enter Tryz.func138, Tryz.ntmps138
  go_wp2_with (refine wpList_fcmp rfl rfl rfl rfl rfl (by first | (with_reducible assumption) | (with_reducible exact Fl.ofInt _ _) | exact Fl.not (by decide +kernel) (by decide +kernel)) (by first | (with_reducible assumption) | (with_reducible exact Fl.ofInt _ _) | exact Fl.not (by decide +kernel) (by decide +kernel)) ?_; simp only [Act.put, List.setIfInBounds_toArray, List.set_cons_succ, List.set_cons_zero])
  go_ret
  exact RB.any rfl (by repeat (first | exact Drew.refl _ | refine Drew.more ?_))
set_option maxHeartbeats 1000000 in
theorem l01LogWide_any {X : Nat} (h1 : 3936146074321813504 ≤ X) (h2 : X < 5183643171103440896) (w : World) : Calls Tryz.prog 128 #[.float .f64 X] w (RF .f64 (logW X) w) := by
  have hX := pos_fl (by omega : X < 9218868437227405312)
  have c1 : fcmp .neq .f64 X X = false := fcmp_self (fin_notN (pos_word (by omega)).1)
  have c2 : fcmp .lss .f64 X 0 = false := by rw [(fcmp_pos (by omega) (by omega)).2, decide_eq_false (by omega)]
  have c3 : fcmp .eql .f64 X 0 = false := by rw [eql_zero (pos_word (by omega)).1, (pos_word (by omega)).2.2, decide_eq_false (by omega)]
  have c4 : fcmp .gtr .f64 X 9218868437227405311 = false := by
    obtain ⟨a1, a2, a3⟩ := pos_word (x := X) (by omega)
    obtain ⟨b1, b2, b3⟩ := pos_word (x := 9218868437227405311) (by omega)
    rw [(fcmp_fin a1 b1).2.2.1, sv_pos a2, sv_pos b2, a3, b3, decide_eq_false_iff_not]
    have := val_mono FloatKind.f64.format (show X < 9218868437227405311 by omega)
    omega
  go_enter Tryz.func128, Tryz.ntmps128
  go_wp2_with (first | (refine wpList_fop rfl rfl rfl rfl rfl (by first | (with_reducible assumption) | (with_reducible exact Fl.ofInt _ _) | exact Fl.not (by decide +kernel) (by decide +kernel)) (by first | (with_reducible assumption) | (with_reducible exact Fl.ofInt _ _) | exact Fl.not (by decide +kernel) (by decide +kernel)) ?_; intro r n hr; simp only [Act.put, List.setIfInBounds_toArray, List.set_cons_succ, List.set_cons_zero]) | (refine wpList_fcmp rfl rfl rfl rfl rfl (by first | (with_reducible assumption) | (with_reducible exact Fl.ofInt _ _) | exact Fl.not (by decide +kernel) (by decide +kernel)) (by first | (with_reducible assumption) | (with_reducible exact Fl.ofInt _ _) | exact Fl.not (by decide +kernel) (by decide +kernel)) ?_; simp only [Act.put, List.setIfInBounds_toArray, List.set_cons_succ, List.set_cons_zero, c1, c3]) | (refine wpList_fcmp_g rfl rfl rfl rfl rfl (by first | (with_reducible assumption) | (with_reducible exact Fl.ofInt _ _) | exact Fl.not (by decide +kernel) (by decide +kernel)) (by first | (with_reducible assumption) | (with_reducible exact Fl.ofInt _ _) | exact Fl.not (by decide +kernel) (by decide +kernel)) ?_; simp only [Act.put, List.setIfInBounds_toArray, List.set_cons_succ, List.set_cons_zero, c2]) | (go_at_call 138; refine (isInf1_any hX _).mono ?_; rw [c4]; rintro e w' ⟨rfl, n, rfl⟩))
  go_loopw [0, 3] (fun y e wr => ∃ xw iv : Nat, y = .float .f64 xw ∧ (xw : Int) = X - (iv : Int) * 4503599627370496 ∧ (iv = 0 ∨ 4604930618986332160 ≤ xw) ∧ e = .int .i64 iv ∧ Drew w wr) (fun y _ _ => fBits y)
  case atStart => exact ⟨X, 0, rfl, by omega, .inl rfl, rfl, (by repeat (first | exact Drew.refl _ | refine Drew.more ?_))⟩
  case round =>
    obtain ⟨xw, iv, rfl, hxi, hiv, rfl, q, rfl⟩ := hrel
    have hxw := pos_fl (by omega : xw < 9218868437227405312)
    have hg := (fcmp_pos (x := xw) (y := 4609434218613702656) (by omega) (by omega)).1
    by_cases hge : 4609434218613702656 ≤ xw
    · rw [decide_eq_true hge] at hg
      have hd := half_word (x := xw) (by omega) (by omega)
      have KD := Keep.mk hd
      clear hd
      have tk_a1 : True := trivial; have tk_a2 : True := trivial
      go_wp2_with (first | (clear tk_a1; refine wpList_fop rfl rfl rfl rfl rfl (by first | (with_reducible assumption) | (with_reducible exact Fl.ofInt _ _) | exact Fl.not (by decide +kernel) (by decide +kernel)) (by first | (with_reducible assumption) | (with_reducible exact Fl.ofInt _ _) | exact Fl.not (by decide +kernel) (by decide +kernel)) ?_; intro a1 n_a1 h_a1; simp only [Act.put, List.setIfInBounds_toArray, List.set_cons_succ, List.set_cons_zero]) | (clear tk_a2; refine wpList_fop rfl rfl rfl rfl rfl (by first | (with_reducible assumption) | (with_reducible exact Fl.ofInt _ _) | exact Fl.not (by decide +kernel) (by decide +kernel)) (by first | (with_reducible assumption) | (with_reducible exact Fl.ofInt _ _) | exact Fl.not (by decide +kernel) (by decide +kernel)) ?_; intro a2 n_a2 h_a2; simp only [Act.put, List.setIfInBounds_toArray, List.set_cons_succ, List.set_cons_zero]) | (refine wpList_fcmp rfl rfl rfl rfl rfl (by first | (with_reducible assumption) | (with_reducible exact Fl.ofInt _ _) | exact Fl.not (by decide +kernel) (by decide +kernel)) (by first | (with_reducible assumption) | (with_reducible exact Fl.ofInt _ _) | exact Fl.not (by decide +kernel) (by decide +kernel)) ?_; simp only [Act.put, List.setIfInBounds_toArray, List.set_cons_succ, List.set_cons_zero, hg]))
      rw [KD.out] at h_a1
      have hw := h_a1.word (fin_notN (pos_word (by omega)).1)
      go_roundw
      case rel => exact ⟨_, iv + 1, rfl, by omega, .inr (by omega), int_ext (by omega), (by repeat (first | exact Drew.refl _ | refine Drew.more ?_))⟩
      case measure =>
        show a1 < xw
        omega
    · rw [decide_eq_false hge] at hg
      have hend : ∃ jv : Int, (iv : Int) = jv := ⟨_, rfl⟩
      obtain ⟨jv, hjv⟩ := hend
      have KJ := Keep.mk hjv
      rw [hjv] at hxi ⊢
      clear hjv
      go_wp2_with (first | (refine wpList_fop rfl rfl rfl rfl rfl (by first | (with_reducible assumption) | (with_reducible exact Fl.ofInt _ _) | exact Fl.not (by decide +kernel) (by decide +kernel)) (by first | (with_reducible assumption) | (with_reducible exact Fl.ofInt _ _) | exact Fl.not (by decide +kernel) (by decide +kernel)) ?_; intro r n hr; simp only [Act.put, List.setIfInBounds_toArray, List.set_cons_succ, List.set_cons_zero]) | (refine wpList_fcmp rfl rfl rfl rfl rfl (by first | (with_reducible assumption) | (with_reducible exact Fl.ofInt _ _) | exact Fl.not (by decide +kernel) (by decide +kernel)) (by first | (with_reducible assumption) | (with_reducible exact Fl.ofInt _ _) | exact Fl.not (by decide +kernel) (by decide +kernel)) ?_; simp only [Act.put, List.setIfInBounds_toArray, List.set_cons_succ, List.set_cons_zero, hg]))
      go_loopw [0, 3] (fun y e wr => ∃ (xw : Nat) (iv : Int), y = .float .f64 xw ∧ (xw : Int) = X - iv * 4503599627370496 ∧ xw < 4609434218613702656 ∧ 3936146074321813504 ≤ xw ∧ e = .int .i64 iv ∧ Drew w wr) (fun y _ _ => 4609434218613702656 - fBits y)
      case atStart => exact ⟨xw, jv, rfl, hxi, by omega, by have := KJ.out; omega, rfl, (by repeat (first | exact Drew.refl _ | refine Drew.more ?_))⟩
      case round =>
        obtain ⟨xv, ev, rfl, hxe, hx1, hx2, rfl, q2, rfl⟩ := hrel
        have hxv := pos_fl (by omega : xv < 9218868437227405312)
        have hl := (fcmp_pos (x := xv) (y := 4604930618986332160) (by omega) (by omega)).2
        by_cases hlt : xv < 4604930618986332160
        · rw [decide_eq_true hlt] at hl
          have KD := Keep.mk (double_word (x := xv) (by omega) (by omega))
          have tk_a1 : True := trivial; have tk_a2 : True := trivial
          go_wp2_with (first | (clear tk_a1; refine wpList_fop rfl rfl rfl rfl rfl (by first | (with_reducible assumption) | (with_reducible exact Fl.ofInt _ _) | exact Fl.not (by decide +kernel) (by decide +kernel)) (by first | (with_reducible assumption) | (with_reducible exact Fl.ofInt _ _) | exact Fl.not (by decide +kernel) (by decide +kernel)) ?_; intro a1 n_a1 h_a1; simp only [Act.put, List.setIfInBounds_toArray, List.set_cons_succ, List.set_cons_zero]) | (clear tk_a2; refine wpList_fop rfl rfl rfl rfl rfl (by first | (with_reducible assumption) | (with_reducible exact Fl.ofInt _ _) | exact Fl.not (by decide +kernel) (by decide +kernel)) (by first | (with_reducible assumption) | (with_reducible exact Fl.ofInt _ _) | exact Fl.not (by decide +kernel) (by decide +kernel)) ?_; intro a2 n_a2 h_a2; simp only [Act.put, List.setIfInBounds_toArray, List.set_cons_succ, List.set_cons_zero]) | (refine wpList_fcmp rfl rfl rfl rfl rfl (by first | (with_reducible assumption) | (with_reducible exact Fl.ofInt _ _) | exact Fl.not (by decide +kernel) (by decide +kernel)) (by first | (with_reducible assumption) | (with_reducible exact Fl.ofInt _ _) | exact Fl.not (by decide +kernel) (by decide +kernel)) ?_; simp only [Act.put, List.setIfInBounds_toArray, List.set_cons_succ, List.set_cons_zero, hl]))
          rw [KD.out] at h_a1
          have hw := h_a1.word (fin_notN (pos_word (by omega)).1)
          go_roundw
          case rel => exact ⟨_, ev - 1, rfl, by omega, by omega, by omega, int_ext (by omega), (by repeat (first | exact Drew.refl _ | refine Drew.more ?_))⟩
          case measure =>
            show 4609434218613702656 - a1 < 4609434218613702656 - xv
            omega
        · rw [decide_eq_false hlt] at hl
          obtain ⟨u1, u2⟩ := log_unique hxe (by omega) hx1
          have KV := Keep.mk (show logW X = logV xv ev by unfold logW; rw [u1, u2])
          have KE := Keep.mk (logV_eq xv ev)
          have KS := Keep.mk (logS_eq xv)
          generalize logW X = L at *
          generalize logV xv ev = V at *
          generalize logS xv = S at *
          clear u1 u2
          go_wp2_with (first | (refine wpList_fop rfl rfl rfl rfl rfl (by first | (with_reducible assumption) | (with_reducible exact Fl.ofInt _ _) | exact Fl.not (by decide +kernel) (by decide +kernel)) (by first | (with_reducible assumption) | (with_reducible exact Fl.ofInt _ _) | exact Fl.not (by decide +kernel) (by decide +kernel)) ?_; intro r n hr; simp only [Act.put, List.setIfInBounds_toArray, List.set_cons_succ, List.set_cons_zero]) | (refine wpList_fcmp rfl rfl rfl rfl rfl (by first | (with_reducible assumption) | (with_reducible exact Fl.ofInt _ _) | exact Fl.not (by decide +kernel) (by decide +kernel)) (by first | (with_reducible assumption) | (with_reducible exact Fl.ofInt _ _) | exact Fl.not (by decide +kernel) (by decide +kernel)) ?_; simp only [Act.put, List.setIfInBounds_toArray, List.set_cons_succ, List.set_cons_zero, hl]))
          rw [← KS.out] at hr
          go_loopw [6, 7] (fun p k wr => ∃ pw m : Nat, m ≤ 13 ∧ p = .float .f64 pw ∧ Fl .f64 (logP (fop .mul .f64 S S) m) pw ∧ k = .int .i64 (25 - 2 * (m : Int)) ∧ Drew w wr) (fun _ k _ => (intOf k + 1).toNat)
          case atStart => exact ⟨_, 0, by omega, rfl, Fl.not (k := .f64) (x := 0) (by decide +kernel) (by decide +kernel), rfl, (by repeat (first | exact Drew.refl _ | refine Drew.more ?_))⟩
          case round =>
            obtain ⟨pw, m, hm, rfl, hp, rfl, q3, rfl⟩ := hrel
            by_cases hm2 : m < 13
            · go_wp2_with (refine wpList_fop rfl rfl rfl rfl rfl (by first | (with_reducible assumption) | (with_reducible exact Fl.ofInt _ _) | exact Fl.not (by decide +kernel) (by decide +kernel)) (by first | (with_reducible assumption) | (with_reducible exact Fl.ofInt _ _) | exact Fl.not (by decide +kernel) (by decide +kernel)) ?_; intro r n hr; simp only [Act.put, List.setIfInBounds_toArray, List.set_cons_succ, List.set_cons_zero])
              rw [← logP_succ] at hr
              go_roundw
              case rel => exact ⟨_, m + 1, by omega, rfl, hr, int_ext (by omega), (by repeat (first | exact Drew.refl _ | refine Drew.more ?_))⟩
              case measure => simp [intOf]; omega
            · obtain rfl : m = 13 := by omega
              go_wp2_with (refine wpList_fop rfl rfl rfl rfl rfl (by first | (with_reducible assumption) | (with_reducible exact Fl.ofInt _ _) | exact Fl.not (by decide +kernel) (by decide +kernel)) (by first | (with_reducible assumption) | (with_reducible exact Fl.ofInt _ _) | exact Fl.not (by decide +kernel) (by decide +kernel)) ?_; intro r n hr; simp only [Act.put, List.setIfInBounds_toArray, List.set_cons_succ, List.set_cons_zero])
              go_ret
              rw [← KS.out] at hr
              rw [KV.out, KE.out]
              exact RF.any hr (by repeat (first | exact Drew.refl _ | refine Drew.more ?_))
set_option maxHeartbeats 1000000 in
theorem wideLog_any {X : Nat} (h1 : 3936146074321813504 ≤ X) (h2 : X < 5183643171103440896) (w : World) : Calls Tryz.prog 141 #[.float .f64 X] w (RF .f64 (logW X) w) := by
  have hX := pos_fl (by omega : X < 9218868437227405312)
  have e0 : Fl .f64 (floatOfInt .f64 ((0 : Nat) : Int)) 0 := by
    have e : floatOfInt .f64 ((0 : Nat) : Int) = 0 := by decide +kernel
    rw [e]; exact Fl.not (by decide +kernel) (by decide +kernel)
  go_enter Tryz.func141, Tryz.ntmps141
  go_wp2_with (first | (refine wpList_fop rfl rfl rfl rfl rfl (by first | (with_reducible assumption) | (with_reducible exact Fl.ofInt _ _) | exact Fl.not (by decide +kernel) (by decide +kernel)) (by first | (with_reducible assumption) | (with_reducible exact Fl.ofInt _ _) | exact Fl.not (by decide +kernel) (by decide +kernel)) ?_; intro r n hr; simp only [Act.put, List.setIfInBounds_toArray, List.set_cons_succ, List.set_cons_zero]) | (refine wpList_fcmp rfl rfl rfl rfl rfl (by first | (with_reducible assumption) | (with_reducible exact Fl.ofInt _ _) | exact Fl.not (by decide +kernel) (by decide +kernel)) (by first | (with_reducible assumption) | (with_reducible exact Fl.ofInt _ _) | exact Fl.not (by decide +kernel) (by decide +kernel)) ?_; simp only [Act.put, List.setIfInBounds_toArray, List.set_cons_succ, List.set_cons_zero]))
  go_loopw [0, 3] (fun y e wr => ∃ xw iv ew : Nat, y = .float .f64 xw ∧ (xw : Int) = X - (iv : Int) * 4503599627370496 ∧ (iv = 0 ∨ 4604930618986332160 ≤ xw) ∧ e = .float .f64 ew ∧ Fl .f64 (floatOfInt .f64 iv) ew ∧ Drew w wr) (fun y _ _ => fBits y)
  case atStart => exact ⟨X, 0, 0, rfl, by omega, .inl rfl, rfl, e0, (by repeat (first | exact Drew.refl _ | refine Drew.more ?_))⟩
  case round =>
    obtain ⟨xw, iv, ew, rfl, hxi, hiv, rfl, he, q, rfl⟩ := hrel
    have hxw := pos_fl (by omega : xw < 9218868437227405312)
    have hg := (fcmp_pos (x := xw) (y := 4609434218613702656) (by omega) (by omega)).1
    by_cases hge : 4609434218613702656 ≤ xw
    · rw [decide_eq_true hge] at hg
      have KD := Keep.mk (half_word (x := xw) (by omega) (by omega))
      have KA := Keep.mk (ec_add (e := iv) (by omega) (by omega))
      have tk_a1 : True := trivial; have tk_a2 : True := trivial
      go_wp2_with (first | (clear tk_a1; refine wpList_fop rfl rfl rfl rfl rfl (by first | (with_reducible assumption) | (with_reducible exact Fl.ofInt _ _) | exact Fl.not (by decide +kernel) (by decide +kernel)) (by first | (with_reducible assumption) | (with_reducible exact Fl.ofInt _ _) | exact Fl.not (by decide +kernel) (by decide +kernel)) ?_; intro a1 n_a1 h_a1; simp only [Act.put, List.setIfInBounds_toArray, List.set_cons_succ, List.set_cons_zero]) | (clear tk_a2; refine wpList_fop rfl rfl rfl rfl rfl (by first | (with_reducible assumption) | (with_reducible exact Fl.ofInt _ _) | exact Fl.not (by decide +kernel) (by decide +kernel)) (by first | (with_reducible assumption) | (with_reducible exact Fl.ofInt _ _) | exact Fl.not (by decide +kernel) (by decide +kernel)) ?_; intro a2 n_a2 h_a2; simp only [Act.put, List.setIfInBounds_toArray, List.set_cons_succ, List.set_cons_zero]) | (refine wpList_fcmp rfl rfl rfl rfl rfl (by first | (with_reducible assumption) | (with_reducible exact Fl.ofInt _ _) | exact Fl.not (by decide +kernel) (by decide +kernel)) (by first | (with_reducible assumption) | (with_reducible exact Fl.ofInt _ _) | exact Fl.not (by decide +kernel) (by decide +kernel)) ?_; simp only [Act.put, List.setIfInBounds_toArray, List.set_cons_succ, List.set_cons_zero, hg]))
      rw [KD.out] at h_a1
      rw [KA.out] at h_a2
      have hw := h_a1.word (fin_notN (pos_word (by omega)).1)
      go_roundw
      case rel => exact ⟨_, iv + 1, _, rfl, by omega, .inr (by omega), rfl, h_a2, (by repeat (first | exact Drew.refl _ | refine Drew.more ?_))⟩
      case measure =>
        show a1 < xw
        omega
    · rw [decide_eq_false hge] at hg
      have hend : ∃ jv : Int, (iv : Int) = jv := ⟨_, rfl⟩
      obtain ⟨jv, hjv⟩ := hend
      have KJ := Keep.mk hjv
      rw [hjv] at hxi he
      clear hjv
      go_wp2_with (first | (refine wpList_fop rfl rfl rfl rfl rfl (by first | (with_reducible assumption) | (with_reducible exact Fl.ofInt _ _) | exact Fl.not (by decide +kernel) (by decide +kernel)) (by first | (with_reducible assumption) | (with_reducible exact Fl.ofInt _ _) | exact Fl.not (by decide +kernel) (by decide +kernel)) ?_; intro r n hr; simp only [Act.put, List.setIfInBounds_toArray, List.set_cons_succ, List.set_cons_zero]) | (refine wpList_fcmp rfl rfl rfl rfl rfl (by first | (with_reducible assumption) | (with_reducible exact Fl.ofInt _ _) | exact Fl.not (by decide +kernel) (by decide +kernel)) (by first | (with_reducible assumption) | (with_reducible exact Fl.ofInt _ _) | exact Fl.not (by decide +kernel) (by decide +kernel)) ?_; simp only [Act.put, List.setIfInBounds_toArray, List.set_cons_succ, List.set_cons_zero, hg]))
      go_loopw [0, 3] (fun y e wr => ∃ (xw ew : Nat) (iv : Int), y = .float .f64 xw ∧ (xw : Int) = X - iv * 4503599627370496 ∧ xw < 4609434218613702656 ∧ 3936146074321813504 ≤ xw ∧ (4604930618986332160 ≤ xw ∨ iv ≤ 0) ∧ e = .float .f64 ew ∧ Fl .f64 (floatOfInt .f64 iv) ew ∧ Drew w wr) (fun y _ _ => 4609434218613702656 - fBits y)
      case atStart => exact ⟨xw, _, jv, rfl, hxi, by omega, by have := KJ.out; omega, by have := KJ.out; omega, rfl, he, (by repeat (first | exact Drew.refl _ | refine Drew.more ?_))⟩
      case round =>
        obtain ⟨xv, fv, ev, rfl, hxe, hx1, hx2, hx3, rfl, hf, q2, rfl⟩ := hrel
        have hxv := pos_fl (by omega : xv < 9218868437227405312)
        have hl := (fcmp_pos (x := xv) (y := 4604930618986332160) (by omega) (by omega)).2
        by_cases hlt : xv < 4604930618986332160
        · rw [decide_eq_true hlt] at hl
          have KD := Keep.mk (double_word (x := xv) (by omega) (by omega))
          have KA := Keep.mk (ec_sub (e := ev) (by omega) (by omega))
          have tk_a1 : True := trivial; have tk_a2 : True := trivial
          go_wp2_with (first | (clear tk_a1; refine wpList_fop rfl rfl rfl rfl rfl (by first | (with_reducible assumption) | (with_reducible exact Fl.ofInt _ _) | exact Fl.not (by decide +kernel) (by decide +kernel)) (by first | (with_reducible assumption) | (with_reducible exact Fl.ofInt _ _) | exact Fl.not (by decide +kernel) (by decide +kernel)) ?_; intro a1 n_a1 h_a1; simp only [Act.put, List.setIfInBounds_toArray, List.set_cons_succ, List.set_cons_zero]) | (clear tk_a2; refine wpList_fop rfl rfl rfl rfl rfl (by first | (with_reducible assumption) | (with_reducible exact Fl.ofInt _ _) | exact Fl.not (by decide +kernel) (by decide +kernel)) (by first | (with_reducible assumption) | (with_reducible exact Fl.ofInt _ _) | exact Fl.not (by decide +kernel) (by decide +kernel)) ?_; intro a2 n_a2 h_a2; simp only [Act.put, List.setIfInBounds_toArray, List.set_cons_succ, List.set_cons_zero]) | (refine wpList_fcmp rfl rfl rfl rfl rfl (by first | (with_reducible assumption) | (with_reducible exact Fl.ofInt _ _) | exact Fl.not (by decide +kernel) (by decide +kernel)) (by first | (with_reducible assumption) | (with_reducible exact Fl.ofInt _ _) | exact Fl.not (by decide +kernel) (by decide +kernel)) ?_; simp only [Act.put, List.setIfInBounds_toArray, List.set_cons_succ, List.set_cons_zero, hl]))
          rw [KD.out] at h_a1
          rw [KA.out] at h_a2
          have hw := h_a1.word (fin_notN (pos_word (by omega)).1)
          go_roundw
          case rel => exact ⟨_, _, ev - 1, rfl, by omega, by omega, by omega, .inr (by omega), rfl, h_a2, (by repeat (first | exact Drew.refl _ | refine Drew.more ?_))⟩
          case measure =>
            show 4609434218613702656 - a1 < 4609434218613702656 - xv
            omega
        · rw [decide_eq_false hlt] at hl
          obtain ⟨u1, u2⟩ := log_unique hxe (by omega) hx1
          have KV := Keep.mk (show logW X = logV xv ev by unfold logW; rw [u1, u2])
          have KE := Keep.mk (logV_eq xv ev)
          have KS := Keep.mk (logS_eq xv)
          generalize logW X = L at *
          generalize logV xv ev = V at *
          generalize logS xv = S at *
          clear u1 u2
          go_wp2_with (first | (refine wpList_fop rfl rfl rfl rfl rfl (by first | (with_reducible assumption) | (with_reducible exact Fl.ofInt _ _) | exact Fl.not (by decide +kernel) (by decide +kernel)) (by first | (with_reducible assumption) | (with_reducible exact Fl.ofInt _ _) | exact Fl.not (by decide +kernel) (by decide +kernel)) ?_; intro r n hr; simp only [Act.put, List.setIfInBounds_toArray, List.set_cons_succ, List.set_cons_zero]) | (refine wpList_fcmp rfl rfl rfl rfl rfl (by first | (with_reducible assumption) | (with_reducible exact Fl.ofInt _ _) | exact Fl.not (by decide +kernel) (by decide +kernel)) (by first | (with_reducible assumption) | (with_reducible exact Fl.ofInt _ _) | exact Fl.not (by decide +kernel) (by decide +kernel)) ?_; simp only [Act.put, List.setIfInBounds_toArray, List.set_cons_succ, List.set_cons_zero, hl]))
          rw [← KS.out] at hr
          go_loopw [6, 7] (fun p k wr => ∃ pw kw m : Nat, m ≤ 13 ∧ p = .float .f64 pw ∧ Fl .f64 (logP (fop .mul .f64 S S) m) pw ∧ k = .float .f64 kw ∧ Fl .f64 (floatOfInt .f64 (25 - 2 * (m : Int))) kw ∧ Drew w wr) (fun _ k _ => oddMu k)
          case atStart => exact ⟨_, _, 0, by omega, rfl, Fl.not (k := .f64) (x := 0) (by decide +kernel) (by decide +kernel), rfl, twentyfive, (by repeat (first | exact Drew.refl _ | refine Drew.more ?_))⟩
          case round =>
            obtain ⟨pw, kw, m, hm, rfl, hp, rfl, hk, q3, rfl⟩ := hrel
            by_cases hm2 : m < 13
            · obtain ⟨hgk, hsk⟩ := odd25 hm2
              have KK := Keep.mk hsk
              clear hsk
              have tk_a1 : True := trivial; have tk_a2 : True := trivial; have tk_a3 : True := trivial; have tk_a4 : True := trivial
              go_wp2_with (first | (clear tk_a1; refine wpList_fop rfl rfl rfl rfl rfl (by first | (with_reducible assumption) | (with_reducible exact Fl.ofInt _ _) | exact Fl.not (by decide +kernel) (by decide +kernel)) (by first | (with_reducible assumption) | (with_reducible exact Fl.ofInt _ _) | exact Fl.not (by decide +kernel) (by decide +kernel)) ?_; intro a1 n_a1 h_a1; simp only [Act.put, List.setIfInBounds_toArray, List.set_cons_succ, List.set_cons_zero]) | (clear tk_a2; refine wpList_fop rfl rfl rfl rfl rfl (by first | (with_reducible assumption) | (with_reducible exact Fl.ofInt _ _) | exact Fl.not (by decide +kernel) (by decide +kernel)) (by first | (with_reducible assumption) | (with_reducible exact Fl.ofInt _ _) | exact Fl.not (by decide +kernel) (by decide +kernel)) ?_; intro a2 n_a2 h_a2; simp only [Act.put, List.setIfInBounds_toArray, List.set_cons_succ, List.set_cons_zero]) | (clear tk_a3; refine wpList_fop rfl rfl rfl rfl rfl (by first | (with_reducible assumption) | (with_reducible exact Fl.ofInt _ _) | exact Fl.not (by decide +kernel) (by decide +kernel)) (by first | (with_reducible assumption) | (with_reducible exact Fl.ofInt _ _) | exact Fl.not (by decide +kernel) (by decide +kernel)) ?_; intro a3 n_a3 h_a3; simp only [Act.put, List.setIfInBounds_toArray, List.set_cons_succ, List.set_cons_zero]) | (clear tk_a4; refine wpList_fop rfl rfl rfl rfl rfl (by first | (with_reducible assumption) | (with_reducible exact Fl.ofInt _ _) | exact Fl.not (by decide +kernel) (by decide +kernel)) (by first | (with_reducible assumption) | (with_reducible exact Fl.ofInt _ _) | exact Fl.not (by decide +kernel) (by decide +kernel)) ?_; intro a4 n_a4 h_a4; simp only [Act.put, List.setIfInBounds_toArray, List.set_cons_succ, List.set_cons_zero]) | (refine wpList_fcmp rfl rfl rfl rfl rfl (by first | (with_reducible assumption) | (with_reducible exact Fl.ofInt _ _) | exact Fl.not (by decide +kernel) (by decide +kernel)) (by first | (with_reducible assumption) | (with_reducible exact Fl.ofInt _ _) | exact Fl.not (by decide +kernel) (by decide +kernel)) ?_; simp only [Act.put, List.setIfInBounds_toArray, List.set_cons_succ, List.set_cons_zero, hgk]))
              rw [KK.out] at h_a4
              rw [← logP_succ] at h_a3
              go_roundw
              case rel => exact ⟨_, _, m + 1, by omega, rfl, h_a3, rfl, h_a4, (by repeat (first | exact Drew.refl _ | refine Drew.more ?_))⟩
              case measure => exact odd25_mu hm2 h_a4 hk
            · obtain rfl : m = 13 := by omega
              have hgk := odd25_end
              go_wp2_with (first | (refine wpList_fop rfl rfl rfl rfl rfl (by first | (with_reducible assumption) | (with_reducible exact Fl.ofInt _ _) | exact Fl.not (by decide +kernel) (by decide +kernel)) (by first | (with_reducible assumption) | (with_reducible exact Fl.ofInt _ _) | exact Fl.not (by decide +kernel) (by decide +kernel)) ?_; intro r n hr; simp only [Act.put, List.setIfInBounds_toArray, List.set_cons_succ, List.set_cons_zero]) | (refine wpList_fcmp rfl rfl rfl rfl rfl (by first | (with_reducible assumption) | (with_reducible exact Fl.ofInt _ _) | exact Fl.not (by decide +kernel) (by decide +kernel)) (by first | (with_reducible assumption) | (with_reducible exact Fl.ofInt _ _) | exact Fl.not (by decide +kernel) (by decide +kernel)) ?_; simp only [Act.put, List.setIfInBounds_toArray, List.set_cons_succ, List.set_cons_zero, hgk]))
              go_ret
              rw [← KS.out] at hr
              rw [KV.out, KE.out]
              exact RF.any hr (by repeat (first | exact Drew.refl _ | refine Drew.more ?_))
end Go.Proofs.YtenekhckmglobaaGreat
