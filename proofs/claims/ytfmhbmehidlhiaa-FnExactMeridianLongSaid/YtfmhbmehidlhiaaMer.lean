/-
  MeridianLong, of the program and of its model; its exact law. No condition.
-/
import Derived.Test.YtfmhbmehidlhiaaShr
import Derived.Test.YtfmhbmehidlhiaaFlat
import Derived.Test.YtfmhbmehidlhiaaPle
namespace Go.Proofs.Ytfmhbmehidlhiaa
open Go Go.RowKit
set_option maxRecDepth 100000

def merH (n P : Nat) : Nat := fop .quo .f32 n (fo P)
def merK (f : Nat) : Nat := fop .sub .f32 1065353216 (heartC f)
def merS (n P i : Nat) : Nat := sineC (fop .mul .f32 (fop .add .f32 (fo i) 1056964608) (merH n P))
def merQ (n f P i : Nat) : Nat := fop .sub .f32 1065353216 (fop .mul .f32 (fop .mul .f32 (merK f) (merS n P i)) (merS n P i))
def merT (n f P i : Nat) : Nat := fop .quo .f32 (heartC f) (fop .mul .f32 (merQ n f P i) (rootC (merQ n f P i)))
def merN (n f P : Nat) : Nat → Nat
  | 0 => 0
  | m + 1 => fop .add .f32 (merN n f P m) (merT n f P m)
def merR (n f P : Nat) : Nat := fop .mul .f32 (fop .mul .f32 (merN n f P P) (merH n P)) 1086918619
/-! ## The numbers -/
theorem fo_one : ∀ P : Fin 65, 1 ≤ P.val → fin .f32 (fo P.val) = true ∧ rung .f32 1065353216 ≤ rung .f32 (fo P.val) ∧ rung .f32 (fo P.val) ≤ rung .f32 1115684864 ∧ sgn .f32 (fo P.val) = false := by decide +kernel
theorem fo_any : ∀ P : Fin 65, Ab .f32 (fo P.val) 1115684864 := by
  have h : ∀ P : Fin 65, rung .f32 (fo P.val) ≤ rung .f32 1115684864 := by decide +kernel
  exact fun P => ⟨h P, by decide +kernel⟩
theorem merH_ab {n P : Nat} (hn : Ab .f32 n 1048576000) (h1 : 1 ≤ P) (h2 : P ≤ 64) : Ab .f32 (merH n P) 1048576000 := by
  obtain ⟨a, b, _, _⟩ := fo_one ⟨P, by omega⟩ h1
  exact (quo_ab (d := 1065353216) hn a b (by decide +kernel) (by decide +kernel) (by decide +kernel)).1
theorem heart_rg {f : Nat} (h : isFlatC f = true) : Rg .f32 (heartC f) 1048576000 1065353216 := by
  have ha := flat_ab h
  have hf := ha.fin
  unfold isFlatC at h
  rw [Bool.and_eq_true] at h
  obtain ⟨_, g1, g2⟩ := between (by decide +kernel) (by decide +kernel) h.1 h.2
  rw [sv_zero] at g1
  have c1 : ((val FloatKind.f32.format (rung .f32 1056964608) : Nat) : Int) ≤ sv .f32 1065353216 - sv .f32 1056964608 := by decide +kernel
  have c2 : sv .f32 1065353216 ≤ ((val FloatKind.f32.format (rung .f32 1065353216) : Nat) : Int) := by decide +kernel
  have g : Rg .f32 (fop .sub .f32 1065353216 f) 1056964608 1065353216 := by
    rw [fop_sub_near (by decide +kernel) hf]
    exact Rg.near (k := .f32) (by decide +kernel) (by decide +kernel) (by decide +kernel) (by omega) (by omega)
  unfold heartC
  generalize fop .sub .f32 1065353216 f = x at *
  refine ⟨by rw [mul_sgn g.ab.fin g.ab.fin, Bool.xor_self], mul_lb g.ab.fin g.ab.fin g.ge g.ge (by decide +kernel) (by decide +kernel), (mul_ab g.ab g.ab (by decide +kernel) (by decide +kernel)).le, by decide +kernel⟩
theorem merK_nn {f : Nat} (h : isFlatC f = true) : Nn .f32 (merK f) 1061158912 := by
  have g := heart_rg h
  unfold merK
  exact sub_nn2 (x := 1065353216) (a := 1065353216) (d := 1048576000) ⟨⟨Nat.le_refl _, by decide +kernel⟩, by decide +kernel⟩ g.ab.fin g.pos g.le g.ge (by decide +kernel) (by decide +kernel)
theorem merS_ab {n P i : Nat} (hn : Ab .f32 n 1048576000) (h1 : 1 ≤ P) (h2 : P ≤ 64) (hi : i < 65) : Ab .f32 (merS n P i) 1066401792 := by
  have a := add_ab (c := 1124073472) (fo_any ⟨i, hi⟩) (⟨Nat.le_refl _, by decide +kernel⟩ : Ab .f32 1056964608 1056964608) (by decide +kernel) (by decide +kernel)
  exact sine_hi (mul_ab (c := 1124073472) a (merH_ab hn h1 h2) (by decide +kernel) (by decide +kernel)).fin
theorem merQ_rg {n f P i : Nat} (hn : Ab .f32 n 1048576000) (hf : isFlatC f = true) (h1 : 1 ≤ P) (h2 : P ≤ 64) (hi : i < 65) : Rg .f32 (merQ n f P i) 1025758986 1065353216 := by
  have k := merK_nn hf
  have s := merS_ab hn h1 h2 hi
  unfold merQ
  generalize merS n P i = S at *
  generalize merK f = K at *
  have a1 := mul_ab (c := 1062731776) k.ab s (by decide +kernel) (by decide +kernel)
  have a2 := mul_ab (c := 1064566784) a1 s (by decide +kernel) (by decide +kernel)
  have p2 : sgn .f32 (fop .mul .f32 (fop .mul .f32 K S) S) = false := by
    rw [mul_sgn a1.fin s.fin, mul_sgn k.ab.fin s.fin, k.pos]; cases sgn .f32 S <;> rfl
  rw [fop_sub_near (by decide +kernel) a2.fin]
  have v := a2.val
  have w := sv_pos p2
  have c1 : ((val FloatKind.f32.format (rung .f32 1025758986) : Nat) : Int) ≤ sv .f32 1065353216 - ((val FloatKind.f32.format (rung .f32 1064566784) : Nat) : Int) := by decide +kernel
  have c2 : sv .f32 1065353216 ≤ ((val FloatKind.f32.format (rung .f32 1065353216) : Nat) : Int) := by decide +kernel
  exact Rg.near (k := .f32) (by decide +kernel) (by decide +kernel) (by decide +kernel) (by omega) (by omega)
theorem root_rg {q : Nat} (h : Rg .f32 q 1025758986 1065353216) : Rg .f32 (rootC q) 1040187392 1073741824 := by
  have hw := h.wide (by decide +kernel)
  have hs := hw.pos
  have hl : Lb .f64 (fcv .f32 .f64 q) (-(2 * (3 : Int))) := ⟨hw.ab.fin, by decide, Nat.le_trans (by decide +kernel) hw.ge⟩
  have r1 := fsqrt_lb (b := 4593671619917905920) (t := 3) hs hl (by decide +kernel) (by decide) (by decide +kernel)
  have hb : Bd .f64 (fcv .f32 .f64 q) 0 := bd_of_ab hw.ab (by decide +kernel) (by decide) (by decide)
  obtain ⟨b1, b2⟩ := fsqrt_bd hb hs (by decide)
  have hab : Ab .f64 (fsqrt (fcv .f32 .f64 q)) 4611686018427387904 := ab_of_bd b1 (by decide +kernel) (by decide +kernel)
  obtain ⟨n1, n2⟩ := narrow_ab (c := 1073741824) hab.fin (by decide +kernel) (Nat.le_trans hab.le (by decide +kernel))
  refine ⟨by unfold rootC; rw [n2, b2], ?_, n1.le, n1.fit⟩
  unfold rootC
  rw [fcv_near hab.fin]
  refine word_le_nearest _ (-1074) (by decide +kernel) (by decide) (by decide) ?_
  rw [show ((-1074 : Int) - -1074).toNat = 0 by decide, Nat.pow_zero, Nat.mul_one]
  refine Nat.le_trans ?_ (val_le r1)
  decide +kernel
theorem merT_ab {n f P i : Nat} (hn : Ab .f32 n 1048576000) (hf : isFlatC f = true) (h1 : 1 ≤ P) (h2 : P ≤ 64) (hi : i < 65) : Ab .f32 (merT n f P i) 1132462080 := by
  have q := merQ_rg hn hf h1 h2 hi
  have r := root_rg q
  have g := heart_rg hf
  unfold merT
  generalize rootC (merQ n f P i) = R at *
  generalize merQ n f P i = Q at *
  have m := mul_ab (c := 1073741824) q.ab r.ab (by decide +kernel) (by decide +kernel)
  have ml := mul_lb (c := 1000593162) q.ab.fin r.ab.fin q.ge r.ge (by decide +kernel) (by decide +kernel)
  exact (quo_ab (d := 1000593162) g.ab m.fin ml (by decide +kernel) (by decide +kernel) (by decide +kernel)).1
def fo2 (m : Nat) : Nat := floatOfInt .f32 (256 * (m : Int))
theorem fo2_step : ∀ m : Fin 64, val FloatKind.f32.format (rung .f32 (fo2 m.val)) + val FloatKind.f32.format (rung .f32 1132462080) ≤ val FloatKind.f32.format (rung .f32 (fo2 (m.val + 1))) ∧ fin .f32 (fo2 (m.val + 1)) = true ∧ rung .f32 (fo2 (m.val + 1)) ≤ rung .f32 1182793728 := by decide +kernel
theorem merN_ab {n f P : Nat} (hn : Ab .f32 n 1048576000) (hf : isFlatC f = true) (h1 : 1 ≤ P) (h2 : P ≤ 64) : ∀ m, m ≤ 64 → Ab .f32 (merN n f P m) (fo2 m) := by
  intro m
  induction m with
  | zero => intro _; exact (⟨by decide +kernel, by decide +kernel⟩ : Ab .f32 0 (fo2 0))
  | succ m ih =>
    intro hm
    obtain ⟨a, b, _⟩ := fo2_step ⟨m, by omega⟩
    exact add_ab (ih (by omega)) (merT_ab hn hf h1 h2 (by omega)) b a
theorem merR_fin {n f P : Nat} (hn : Ab .f32 n 1048576000) (hf : isFlatC f = true) (h1 : 1 ≤ P) (h2 : P ≤ 64) : fin .f32 (merR n f P) = true := by
  obtain ⟨_, b, c⟩ := fo2_step ⟨P - 1, by omega⟩
  have e : P - 1 + 1 = P := by omega
  dsimp only at b c
  rw [e] at b c
  have a : Ab .f32 (merN n f P P) 1182793728 := (merN_ab hn hf h1 h2 P h2).mono c (by decide +kernel)
  have m1 := mul_ab (c := 1166016512) a (merH_ab hn h1 h2) (by decide +kernel) (by decide +kernel)
  exact (mul_ab (c := 1199570944) m1 (⟨Nat.le_refl _, by decide +kernel⟩ : Ab .f32 1086918619 1086918619) (by decide +kernel) (by decide +kernel)).fin
set_option maxHeartbeats 1000000 in
theorem sMer_yes {nn f a b P : Nat} (h1 : Fl .f32 nn a) (h2 : Fl .f32 f b) (h : flatOk nn f = true) (p1 : 1 ≤ P) (p2 : P ≤ 64) (w : World) : Calls Try.prog 18 #[.float .f32 a, .float .f32 b, .int .i64 P] w (RP .f32 (merR nn f P) true w) := by
  have HF := Hb.mk (by have := l02Flat_any h1 h2; rw [h] at this; exact this)
  have HI := Hb.mk (l00In_yes (n := (P : Int)) (lo := 1) (hi := 64) (by omega) (by omega))
  have HP : Fl .f32 (fo P) (floatOfInt .f32 (P : Int)) := Fl.ofInt _ _
  have hq := h
  unfold flatOk at hq
  rw [Bool.and_eq_true] at hq
  have hR := Hb.mk (merR_fin (P := P) (north_ab hq.1) hq.2 p1 p2)
  have i1 : (1 : Int) ≤ (P : Int) := by omega
  have i2 : (P : Int) ≤ 64 := by omega
  clear hq h
  go_enter Try.func18, Try.ntmps18
  have tk_a : True := trivial; have tk_b : True := trivial
  go_wp2_with (first | (go_at_call 51; refine (HF.out _).mono ?_; rintro e w' ⟨rfl, n1, rfl⟩) | (go_at_call 52; refine (HI.out _).mono ?_; rintro e w' ⟨rfl, n0, rfl⟩) | (clear tk_a; refine wpList_fop rfl rfl rfl rfl rfl h1 HP ?_; intro rh n_h h_h; change Fl .f32 (merH nn P) rh at h_h; simp only [Act.put, List.setIfInBounds_toArray, List.set_cons_succ, List.set_cons_zero]) | (go_at_call 53; refine (l02Heart_any h2 _).mono ?_; rintro e w' ⟨rg, n2, rfl, h_g, rfl⟩) | (clear tk_b; refine wpList_fop rfl rfl rfl rfl rfl (by first | (with_reducible assumption) | (with_reducible exact Fl.ofInt _ _) | exact Fl.not (by decide +kernel) (by decide +kernel)) h_g ?_; intro rk n_k h_k; change Fl .f32 (merK f) rk at h_k; simp only [Act.put, List.setIfInBounds_toArray, List.set_cons_succ, List.set_cons_zero]))
  have f0 : Fl .f32 (merN nn f P 0) 0 := (Fl.not (by decide +kernel) (by decide +kernel) : Fl .f32 0 0)
  go_loopw [11, 12] (fun s i wr => ∃ m r : Nat, m ≤ P ∧ s = .float .f32 r ∧ Fl .f32 (merN nn f P m) r ∧ i = .int .i64 (m : Int) ∧ Drew w wr) (fun _ i _ => P - (intOf i).toNat)
  case atStart => exact ⟨0, 0, by omega, rfl, f0, rfl, (by repeat (first | exact Drew.refl _ | refine Drew.more ?_))⟩
  case round =>
    obtain ⟨m, r, hm, rfl, hr, rfl, q0, rfl⟩ := hrel
    by_cases hlt : m < P
    · have j1 : (m : Int) < (P : Int) := by omega
      have hi : Fl .f32 (fo m) (floatOfInt .f32 (m : Int)) := Fl.ofInt _ _
      have tk_c : True := trivial; have tk_d : True := trivial; have tk_k : True := trivial; have tk_l : True := trivial; have tk_o : True := trivial; have tk_q : True := trivial; have tk_r : True := trivial; have tk_s : True := trivial
      go_wp2_with (first | (clear tk_c; refine wpList_fop rfl rfl rfl rfl rfl hi (by first | (with_reducible assumption) | (with_reducible exact Fl.ofInt _ _) | exact Fl.not (by decide +kernel) (by decide +kernel)) ?_; intro r_c n_c h_c; simp only [Act.put, List.setIfInBounds_toArray, List.set_cons_succ, List.set_cons_zero]) | (clear tk_d; refine wpList_fop rfl rfl rfl rfl rfl h_c h_h ?_; intro r_d n_d h_d; simp only [Act.put, List.setIfInBounds_toArray, List.set_cons_succ, List.set_cons_zero]) | (go_at_call 54; refine (l01Sine_any h_d _).mono ?_; rintro e w' ⟨r_s, n_s, rfl, h_s, rfl⟩; change Fl .f32 (merS nn P m) r_s at h_s) | (clear tk_k; refine wpList_fop rfl rfl rfl rfl rfl h_k h_s ?_; intro r_k n_kk h_kk; simp only [Act.put, List.setIfInBounds_toArray, List.set_cons_succ, List.set_cons_zero]) | (clear tk_l; refine wpList_fop rfl rfl rfl rfl rfl h_kk h_s ?_; intro r_l n_l h_l; simp only [Act.put, List.setIfInBounds_toArray, List.set_cons_succ, List.set_cons_zero]) | (clear tk_o; refine wpList_fop rfl rfl rfl rfl rfl (by first | (with_reducible assumption) | (with_reducible exact Fl.ofInt _ _) | exact Fl.not (by decide +kernel) (by decide +kernel)) h_l ?_; intro r_o n_o h_o; change Fl .f32 (merQ nn f P m) r_o at h_o; simp only [Act.put, List.setIfInBounds_toArray, List.set_cons_succ, List.set_cons_zero]) | (go_at_call 44; refine (l01Sqrt_any h_o _).mono ?_; rintro e w' ⟨r_r, n_r, rfl, h_r, rfl⟩) | (clear tk_q; refine wpList_fop rfl rfl rfl rfl rfl h_o h_r ?_; intro r_q n_q h_q; simp only [Act.put, List.setIfInBounds_toArray, List.set_cons_succ, List.set_cons_zero]) | (clear tk_r; refine wpList_fop rfl rfl rfl rfl rfl h_g h_q ?_; intro r_t n_t h_t; change Fl .f32 (merT nn f P m) r_t at h_t; simp only [Act.put, List.setIfInBounds_toArray, List.set_cons_succ, List.set_cons_zero]) | (clear tk_s; refine wpList_fop rfl rfl rfl rfl rfl hr h_t ?_; intro r_x n_x h_x; change Fl .f32 (merN nn f P (m + 1)) r_x at h_x; simp only [Act.put, List.setIfInBounds_toArray, List.set_cons_succ, List.set_cons_zero]))
      go_roundw
      case rel => exact ⟨m + 1, _, by omega, rfl, h_x, i_ext2 (by omega), (by repeat (first | exact Drew.refl _ | refine Drew.more ?_))⟩
      case measure => simp [intOf]; omega
    · obtain rfl : m = P := by omega
      have tk_a : True := trivial; have tk_b : True := trivial
      go_wp2_with (first | (clear tk_a; refine wpList_fop rfl rfl rfl rfl rfl hr h_h ?_; intro r_a n_a h_a; simp only [Act.put, List.setIfInBounds_toArray, List.set_cons_succ, List.set_cons_zero]) | (clear tk_b; refine wpList_fop rfl rfl rfl rfl rfl h_a (by first | (with_reducible assumption) | (with_reducible exact Fl.ofInt _ _) | exact Fl.not (by decide +kernel) (by decide +kernel)) ?_; intro r_b n_b h_b; change Fl .f32 (merR nn f m) r_b at h_b; simp only [Act.put, List.setIfInBounds_toArray, List.set_cons_succ, List.set_cons_zero]) | (go_at_call 42; refine (l02Number_yes h_b hR.out _).mono ?_; rintro ex w3 ⟨r3, n3, rfl, hr3, rfl⟩))
      go_ret2
      exact RP.any hr3 (by repeat (first | exact Drew.refl _ | refine Drew.more ?_))
theorem sMer_no {nn f a b : Nat} {P : Int} (h1 : Fl .f32 nn a) (h2 : Fl .f32 f b) (h : flatOk nn f = false) (w : World) : Calls Try.prog 18 #[.float .f32 a, .float .f32 b, .int .i64 P] w (RP .f32 0 false w) := by
  have HF := Hb.mk (by have := l02Flat_any h1 h2; rw [h] at this; exact this)
  clear h
  go_enter Try.func18, Try.ntmps18
  go_wp2_with (first | (go_at_call 51; refine (HF.out _).mono ?_; rintro e w' ⟨rfl, n1, rfl⟩))
  go_ret2
  exact RP.any fl0 (by repeat (first | exact Drew.refl _ | refine Drew.more ?_))
theorem sMer_out {nn f a b : Nat} {P : Int} (h1 : Fl .f32 nn a) (h2 : Fl .f32 f b) (h : flatOk nn f = true) (hp : P < 1 ∨ 64 < P) (w : World) : Calls Try.prog 18 #[.float .f32 a, .float .f32 b, .int .i64 P] w (RP .f32 0 false w) := by
  have HF := Hb.mk (by have := l02Flat_any h1 h2; rw [h] at this; exact this)
  have HI := Hb.mk (l00In_no (n := P) (lo := 1) (hi := 64) (by omega))
  clear h
  go_enter Try.func18, Try.ntmps18
  go_wp2_with (first | (go_at_call 51; refine (HF.out _).mono ?_; rintro e w' ⟨rfl, n1, rfl⟩) | (go_at_call 52; refine (HI.out _).mono ?_; rintro e w' ⟨rfl, n0, rfl⟩))
  go_ret2
  exact RP.any fl0 (by repeat (first | exact Drew.refl _ | refine Drew.more ?_))
set_option maxHeartbeats 1000000 in
theorem iMer_yes {nn f a b P : Nat} (h1 : Fl .f32 nn a) (h2 : Fl .f32 f b) (h : flatOk nn f = true) (p1 : 1 ≤ P) (p2 : P ≤ 64) (w : World) : Calls Try.prog 19 #[.float .f32 a, .float .f32 b, .int .i64 P] w (RP .f32 (merR nn f P) true w) := by
  have HF := Hb.mk (by have := heartOf_any h1 h2; rw [(flat_yes h).1, (flat_yes h).2] at this; exact this)
  have HP : Fl .f32 (fo P) (floatOfInt .f32 (P : Int)) := Fl.ofInt _ _
  have i1 : (1 : Int) ≤ (P : Int) := by omega
  have i2 : (P : Int) ≤ 64 := by omega
  clear h
  go_enter Try.func19, Try.ntmps19
  have tk_a : True := trivial; have tk_b : True := trivial
  go_wp2_with (first | (go_at_call 55; refine (HF.out _).mono ?_; rintro e w' ⟨rg, n2, rfl, h_g, rfl⟩) | (clear tk_a; refine wpList_fop rfl rfl rfl rfl rfl h1 HP ?_; intro rh n_h h_h; change Fl .f32 (merH nn P) rh at h_h; simp only [Act.put, List.setIfInBounds_toArray, List.set_cons_succ, List.set_cons_zero]) | (clear tk_b; refine wpList_fop rfl rfl rfl rfl rfl (by first | (with_reducible assumption) | (with_reducible exact Fl.ofInt _ _) | exact Fl.not (by decide +kernel) (by decide +kernel)) h_g ?_; intro rk n_k h_k; change Fl .f32 (merK f) rk at h_k; simp only [Act.put, List.setIfInBounds_toArray, List.set_cons_succ, List.set_cons_zero]))
  have f0 : Fl .f32 (merN nn f P 0) 0 := (Fl.not (by decide +kernel) (by decide +kernel) : Fl .f32 0 0)
  go_loopw [12, 39] (fun s i wr => ∃ m r : Nat, m ≤ P ∧ s = .float .f32 r ∧ Fl .f32 (merN nn f P m) r ∧ i = .int .i64 (m : Int) ∧ Drew w wr) (fun _ i _ => P - (intOf i).toNat)
  case atStart => exact ⟨0, 0, by omega, rfl, f0, rfl, (by repeat (first | exact Drew.refl _ | refine Drew.more ?_))⟩
  case round =>
    obtain ⟨m, r, hm, rfl, hr, rfl, q0, rfl⟩ := hrel
    by_cases hlt : m < P
    · have j1 : (m : Int) < (P : Int) := by omega
      have hi : Fl .f32 (fo m) (floatOfInt .f32 (m : Int)) := Fl.ofInt _ _
      have tk_c : True := trivial; have tk_d : True := trivial; have tk_k : True := trivial; have tk_l : True := trivial; have tk_o : True := trivial; have tk_q : True := trivial; have tk_r : True := trivial; have tk_s : True := trivial
      go_wp2_with (first | (clear tk_c; refine wpList_fop rfl rfl rfl rfl rfl hi (by first | (with_reducible assumption) | (with_reducible exact Fl.ofInt _ _) | exact Fl.not (by decide +kernel) (by decide +kernel)) ?_; intro r_c n_c h_c; simp only [Act.put, List.setIfInBounds_toArray, List.set_cons_succ, List.set_cons_zero]) | (clear tk_d; refine wpList_fop rfl rfl rfl rfl rfl h_c h_h ?_; intro r_d n_d h_d; simp only [Act.put, List.setIfInBounds_toArray, List.set_cons_succ, List.set_cons_zero]) | (go_at_call 56; refine (iSineTurns_any h_d _).mono ?_; rintro e w' ⟨r_s, n_s, rfl, h_s, rfl⟩; change Fl .f32 (merS nn P m) r_s at h_s) | (clear tk_k; refine wpList_fop rfl rfl rfl rfl rfl h_k h_s ?_; intro r_k n_kk h_kk; simp only [Act.put, List.setIfInBounds_toArray, List.set_cons_succ, List.set_cons_zero]) | (clear tk_l; refine wpList_fop rfl rfl rfl rfl rfl h_kk h_s ?_; intro r_l n_l h_l; simp only [Act.put, List.setIfInBounds_toArray, List.set_cons_succ, List.set_cons_zero]) | (clear tk_o; refine wpList_fop rfl rfl rfl rfl rfl (by first | (with_reducible assumption) | (with_reducible exact Fl.ofInt _ _) | exact Fl.not (by decide +kernel) (by decide +kernel)) h_l ?_; intro r_o n_o h_o; change Fl .f32 (merQ nn f P m) r_o at h_o; simp only [Act.put, List.setIfInBounds_toArray, List.set_cons_succ, List.set_cons_zero]) | (go_at_call 50; refine (iRoot_any h_o _).mono ?_; rintro e w' ⟨r_r, n_r, rfl, h_r, rfl⟩) | (clear tk_q; refine wpList_fop rfl rfl rfl rfl rfl h_o h_r ?_; intro r_q n_q h_q; simp only [Act.put, List.setIfInBounds_toArray, List.set_cons_succ, List.set_cons_zero]) | (clear tk_r; refine wpList_fop rfl rfl rfl rfl rfl h_g h_q ?_; intro r_t n_t h_t; change Fl .f32 (merT nn f P m) r_t at h_t; simp only [Act.put, List.setIfInBounds_toArray, List.set_cons_succ, List.set_cons_zero]) | (clear tk_s; refine wpList_fop rfl rfl rfl rfl rfl hr h_t ?_; intro r_x n_x h_x; change Fl .f32 (merN nn f P (m + 1)) r_x at h_x; simp only [Act.put, List.setIfInBounds_toArray, List.set_cons_succ, List.set_cons_zero]))
      go_roundw
      case rel => exact ⟨m + 1, _, by omega, rfl, h_x, i_ext2 (by omega), (by repeat (first | exact Drew.refl _ | refine Drew.more ?_))⟩
      case measure => simp [intOf]; omega
    · obtain rfl : m = P := by omega
      have tk_a : True := trivial; have tk_b : True := trivial
      go_wp2_with (first | (clear tk_a; refine wpList_fop rfl rfl rfl rfl rfl hr h_h ?_; intro r_a n_a h_a; simp only [Act.put, List.setIfInBounds_toArray, List.set_cons_succ, List.set_cons_zero]) | (clear tk_b; refine wpList_fop rfl rfl rfl rfl rfl h_a (by first | (with_reducible assumption) | (with_reducible exact Fl.ofInt _ _) | exact Fl.not (by decide +kernel) (by decide +kernel)) ?_; intro r_b n_b h_b; change Fl .f32 (merR nn f m) r_b at h_b; simp only [Act.put, List.setIfInBounds_toArray, List.set_cons_succ, List.set_cons_zero]))
      go_ret2
      exact RP.any h_b (by repeat (first | exact Drew.refl _ | refine Drew.more ?_))
theorem iMer_no {nn f a b : Nat} {P : Int} (h1 : Fl .f32 nn a) (h2 : Fl .f32 f b) (h : flatOk nn f = false) (w : World) : Calls Try.prog 19 #[.float .f32 a, .float .f32 b, .int .i64 P] w (RP .f32 0 false w) := by
  have HF := Hb.mk (by have := heartOf_any h1 h2; rw [(flat_no h).1, (flat_no h).2] at this; exact this)
  clear h
  go_enter Try.func19, Try.ntmps19
  go_wp2_with (first | (go_at_call 55; refine (HF.out _).mono ?_; rintro e w' ⟨rg, n2, rfl, h_g, rfl⟩))
  go_ret2
  exact RP.any fl0 (by repeat (first | exact Drew.refl _ | refine Drew.more ?_))
theorem iMer_out {nn f a b : Nat} {P : Int} (h1 : Fl .f32 nn a) (h2 : Fl .f32 f b) (h : flatOk nn f = true) (hp : P < 1 ∨ 64 < P) (w : World) : Calls Try.prog 19 #[.float .f32 a, .float .f32 b, .int .i64 P] w (RP .f32 0 false w) := by
  have HF := Hb.mk (by have := heartOf_any h1 h2; rw [(flat_yes h).1, (flat_yes h).2] at this; exact this)
  clear h
  rcases hp with hp | hp
  · go_enter Try.func19, Try.ntmps19
    go_wp2_with (first | (go_at_call 55; refine (HF.out _).mono ?_; rintro e w' ⟨rg, n2, rfl, h_g, rfl⟩))
    go_ret2
    exact RP.any fl0 (by repeat (first | exact Drew.refl _ | refine Drew.more ?_))
  · have hp1 : ¬ P < 1 := by omega
    go_enter Try.func19, Try.ntmps19
    go_wp2_with (first | (go_at_call 55; refine (HF.out _).mono ?_; rintro e w' ⟨rg, n2, rfl, h_g, rfl⟩))
    go_ret2
    exact RP.any fl0 (by repeat (first | exact Drew.refl _ | refine Drew.more ?_))
theorem law_MeridianLong {a b : Nat} {P : Int} (wa : (Lit.float .f32 a).wf = true) (wb : (Lit.float .f32 b).wf = true) (_wp : (Lit.int .i64 P).wf = true) (w : World) : Calls Try.prog 6 #[.float .f32 a, .float .f32 b, .int .i64 P] w (RB true w) := by
  obtain ⟨c, ok, KS, KG⟩ : ∃ c ok, Hb (∀ w, Calls Try.prog 18 #[.float .f32 a, .float .f32 b, .int .i64 P] w (RP .f32 c ok w)) ∧ Hb (∀ w, Calls Try.prog 19 #[.float .f32 a, .float .f32 b, .int .i64 P] w (RP .f32 c ok w)) := by
    have h1 := Fl.own wa
    have h2 := Fl.own wb
    cases h : flatOk (nrm .f32 a) (nrm .f32 b)
    · exact ⟨_, _, ⟨sMer_no h1 h2 h⟩, ⟨iMer_no h1 h2 h⟩⟩
    · by_cases hp : P < 1 ∨ 64 < P
      · exact ⟨_, _, ⟨sMer_out h1 h2 h hp⟩, ⟨iMer_out h1 h2 h hp⟩⟩
      · obtain ⟨Q, rfl⟩ : ∃ Q : Nat, P = (Q : Int) := ⟨P.toNat, by omega⟩
        exact ⟨_, _, ⟨sMer_yes h1 h2 h (by omega) (by omega)⟩, ⟨iMer_yes h1 h2 h (by omega) (by omega)⟩⟩
  clear wa wb _wp
  cases ok
  all_goals
    go_enter Try.func6, Try.ntmps6
    go_wp2_with (first | (go_at_call 18; refine (KS.out _).mono ?_; rintro e w' ⟨r1, n1, rfl, g1, rfl⟩) | (go_at_call 19; refine (KG.out _).mono ?_; rintro e w' ⟨r2, n2, rfl, g2, rfl⟩) | (refine wpList_fcv rfl rfl rfl (by kernel_rfl) Try.underlying36 (by decide) (by first | (with_reducible assumption) | (with_reducible exact Fl.ofInt _ _) | exact Fl.not (by decide +kernel) (by decide +kernel)) (fits_wide _) ?_; intro r n hr; simp only [Act.put, List.setIfInBounds_toArray, List.set_cons_succ, List.set_cons_zero]) | (go_at_call 17; refine (sameFloat_any (by assumption) (by assumption) _).mono ?_; rintro e w' ⟨rfl, n, rfl⟩))
    go_ret
    exact RB.any rfl (by repeat (first | exact Drew.refl _ | refine Drew.more ?_))
end Go.Proofs.Ytfmhbmehidlhiaa
