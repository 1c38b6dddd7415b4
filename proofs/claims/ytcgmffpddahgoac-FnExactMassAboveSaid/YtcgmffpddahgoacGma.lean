/-
  MassAbove, RoughGrid and SharesAbove, of the program and of the model: the numbers that they return. No premise beyond those named.
-/
import Derived.Test.YtcgmffpddahgoacGrd
namespace Go.Proofs.Ytcgmffpddahgoac
open Go Go.RowKit
set_option maxRecDepth 100000

def hF (xs : List Nat) (j : Nat) : Nat := nrm .f32 (xs.getD j 0)
def massF (f : Nat → Nat) (lv : Nat) : Nat → Nat
  | 0 => 0
  | m + 1 => if fcmp .gtr .f32 (f m) lv then fop .add .f32 (massF f lv m) (fop .sub .f32 (f m) lv) else massF f lv m
theorem massF_yes {f : Nat → Nat} {lv m : Nat} (h : fcmp .gtr .f32 (f m) lv = true) : massF f lv (m + 1) = fop .add .f32 (massF f lv m) (fop .sub .f32 (f m) lv) := by
  show (if _ then _ else _) = _
  rw [if_pos h]
theorem massF_no {f : Nat → Nat} {lv m : Nat} (h : fcmp .gtr .f32 (f m) lv = false) : massF f lv (m + 1) = massF f lv m := by
  show (if _ then _ else _) = _
  rw [if_neg (by rw [h]; decide)]
def massB (wd hg : Int) (n : Nat) (f : Nat → Nat) (lv : Nat) : Bool := gridB wd hg n f && (fin .f32 lv && fin .f32 (massF f lv n))
theorem told_lt {w : World} {g n : Nat} {f : Nat → Nat} (h : Told w g n f) (h0 : 0 < n) : g < w.heap.size := by
  obtain ⟨r, hc, _⟩ := h 0 h0
  exact block_lt_of_cell hc
set_option maxHeartbeats 4000000 in
theorem sMass_any {g n k lv cl : Nat} {wd hg : Int} {f : Nat → Nat} (w : World) (h : Told w g n f) (hl : n ≤ 1048576) (hx : Fl .f32 cl lv) : Calls Try.prog 7 #[gd wd hg (sl g n k), .float .f32 lv] w (RS (fT (massB wd hg n f cl) (massF f cl n)) w) := by
  have H := Hf.mk h
  clear h
  have B0 := Hb.mk (Below.refl w.heap.size w)
  cases h1 : gridB wd hg n f
  · have KV := Keep.mk (show massB wd hg n f cl = false by unfold massB; rw [h1]; rfl)
    have H1 := Hf.mk h1
    clear h1
    go_enter Try.func7, Try.ntmps7
    go_wp2_with (first | (go_at_call 21; refine (l06Is_any (k := k) (wd := wd) (hg := hg) _ (by simp) (by simp) (by simp) (H.out.below (by repeat (first | exact Below.refl _ _ | with_reducible assumption | refine Below.drews ?_ | refine Below.drew ?_ | refine Below.alloc ?_ (by simp <;> omega) _ | refine Below.setCell ?_ (by simp <;> omega) _))) hl).mono ?_; rw [H1.out]; rintro e w' ⟨rfl, q0, rfl⟩))
    go_ret2
    rw [KV.out]
    exact ⟨rfl, (by repeat (first | exact Below.refl _ _ | with_reducible assumption | refine Below.drews ?_ | refine Below.drew ?_ | refine Below.alloc ?_ (by simp <;> omega) _ | refine Below.setCell ?_ (by simp <;> omega) _))⟩
  · obtain ⟨W, Hh, hg1⟩ := gridB_of h1
    have n256 := hg1.n256
    have hgl := told_lt H.out (show 0 < n by have := hg1.n4; omega)
    have H1 := Hf.mk h1
    cases h2 : fin .f32 cl
    · have KV := Keep.mk (show massB wd hg n f cl = false by unfold massB; rw [h2, Bool.false_and, Bool.and_false])
      have H2 := Hf.mk h2
      clear h1 h2
      go_enter Try.func7, Try.ntmps7
      go_wp2_with (first | (go_at_call 21; refine (l06Is_any (k := k) (wd := wd) (hg := hg) _ (by simp) (by simp) (by simp) (H.out.below (by repeat (first | exact Below.refl _ _ | with_reducible assumption | refine Below.drews ?_ | refine Below.drew ?_ | refine Below.alloc ?_ (by simp <;> omega) _ | refine Below.setCell ?_ (by simp <;> omega) _))) hl).mono ?_; rw [H1.out]; rintro e w' ⟨rfl, q0, rfl⟩) | (go_at_call 22; refine (l01Finite_any hx _).mono ?_; rw [H2.out]; rintro e w' ⟨rfl, q1, rfl⟩))
      go_ret2
      rw [KV.out]
      exact ⟨rfl, (by repeat (first | exact Below.refl _ _ | with_reducible assumption | refine Below.drews ?_ | refine Below.drew ?_ | refine Below.alloc ?_ (by simp <;> omega) _ | refine Below.setCell ?_ (by simp <;> omega) _))⟩
    · have KV := Keep.mk (show massB wd hg n f cl = fin .f32 (massF f cl n) by unfold massB; rw [h1, h2, Bool.true_and, Bool.true_and])
      have H2 := Hf.mk h2
      clear h1 h2
      go_enter Try.func7, Try.ntmps7
      go_wp2_with (first | (go_at_call 21; refine (l06Is_any (k := k) (wd := wd) (hg := hg) _ (by simp) (by simp) (by simp) (H.out.below (by repeat (first | exact Below.refl _ _ | with_reducible assumption | refine Below.drews ?_ | refine Below.drew ?_ | refine Below.alloc ?_ (by simp <;> omega) _ | refine Below.setCell ?_ (by simp <;> omega) _))) hl).mono ?_; rw [H1.out]; rintro e w' ⟨rfl, q0, rfl⟩) | (go_at_call 22; refine (l01Finite_any hx _).mono ?_; rw [H2.out]; rintro e w' ⟨rfl, q1, rfl⟩))
      go_loopw [6, 7] (fun s i wr => ∃ (m x : Nat), m ≤ n ∧ s = .float .f32 x ∧ Fl .f32 (massF f cl m) x ∧ i = .int .i64 m ∧ Drew (w.alloc (.cells #[.int .i64 wd, .int .i64 hg, sl g n k] 29)) wr) (fun _ i _ => n - (intOf i).toNat)
      case atStart => exact ⟨0, 0, by omega, rfl, zero32, rfl, (by repeat (first | exact Drew.refl _ | refine Drew.more ?_))⟩
      case round =>
        obtain ⟨m, x, hm, rfl, hs, rfl, q, rfl⟩ := hrel
        by_cases hlt : m < n
        · obtain ⟨r, hc, hf⟩ := H.out m hlt
          cases hv : fcmp .gtr .f32 (f m) cl
          · have hs' := hs
            rw [← massF_no hv] at hs'
            go_wp2_with (first | (refine wpList_fcmp rfl rfl rfl rfl rfl (by first | (with_reducible assumption) | (with_reducible exact Fl.ofInt _ _) | exact Fl.not (by decide +kernel) (by decide +kernel)) (by first | (with_reducible assumption) | (with_reducible exact Fl.ofInt _ _) | exact Fl.not (by decide +kernel) (by decide +kernel)) ?_; simp only [Act.put, List.setIfInBounds_toArray, List.set_cons_succ, List.set_cons_zero, hv]))
            go_roundw
            case rel => exact ⟨m + 1, _, by omega, rfl, hs', i_ext2 (by omega), (by repeat (first | exact Drew.refl _ | refine Drew.more ?_))⟩
            case measure => simp [intOf]; omega
          · have HM := Hf.mk (massF_yes hv)
            have tk_a : True := trivial; have tk_b : True := trivial
            go_wp2_with (first | (refine wpList_fcmp rfl rfl rfl rfl rfl (by first | (with_reducible assumption) | (with_reducible exact Fl.ofInt _ _) | exact Fl.not (by decide +kernel) (by decide +kernel)) (by first | (with_reducible assumption) | (with_reducible exact Fl.ofInt _ _) | exact Fl.not (by decide +kernel) (by decide +kernel)) ?_; simp only [Act.put, List.setIfInBounds_toArray, List.set_cons_succ, List.set_cons_zero, hv]) | (clear tk_a; refine wpList_fop rfl rfl rfl rfl rfl (by first | (with_reducible assumption) | (with_reducible exact Fl.ofInt _ _) | exact Fl.not (by decide +kernel) (by decide +kernel)) (by first | (with_reducible assumption) | (with_reducible exact Fl.ofInt _ _) | exact Fl.not (by decide +kernel) (by decide +kernel)) ?_; intro a n_a h_a; simp only [Act.put, List.setIfInBounds_toArray, List.set_cons_succ, List.set_cons_zero]) | (clear tk_b; refine wpList_fop rfl rfl rfl rfl rfl (by first | (with_reducible assumption) | (with_reducible exact Fl.ofInt _ _) | exact Fl.not (by decide +kernel) (by decide +kernel)) (by first | (with_reducible assumption) | (with_reducible exact Fl.ofInt _ _) | exact Fl.not (by decide +kernel) (by decide +kernel)) ?_; intro b n_b h_b; simp only [Act.put, List.setIfInBounds_toArray, List.set_cons_succ, List.set_cons_zero]))
            go_roundw
            case rel => exact ⟨m + 1, _, by omega, rfl, by rw [HM.out]; exact h_b, i_ext2 (by omega), (by repeat (first | exact Drew.refl _ | refine Drew.more ?_))⟩
            case measure => simp [intOf]; omega
        · obtain rfl : m = n := by omega
          cases hv : fin .f32 (massF f cl m)
          · have KN := Hf.mk (l02Num_no hs hv)
            have HV := Hf.mk hv
            clear hv
            go_wp2_with (first | (go_at_call 23; refine (KN.out _).mono ?_; rintro e w' ⟨rfl, q2, rfl⟩))
            go_ret2
            rw [KV.out, HV.out]
            exact ⟨rfl, (by repeat (first | exact Below.refl _ _ | with_reducible assumption | refine Below.drews ?_ | refine Below.drew ?_ | refine Below.alloc ?_ (by simp <;> omega) _ | refine Below.setCell ?_ (by simp <;> omega) _))⟩
          · have KN := Hf.mk (l02Num_yes hs hv)
            have HV := Hf.mk hv
            clear hv
            go_wp2_with (first | (go_at_call 23; refine (KN.out _).mono ?_; rintro e w' ⟨rfl, q2, rfl⟩))
            go_ret2
            rw [KV.out, HV.out]
            exact ⟨rfl, (by repeat (first | exact Below.refl _ _ | with_reducible assumption | refine Below.drews ?_ | refine Below.drew ?_ | refine Below.alloc ?_ (by simp <;> omega) _ | refine Below.setCell ?_ (by simp <;> omega) _))⟩
set_option maxHeartbeats 4000000 in
theorem iMass_any {g n k lv cl : Nat} {wd hg : Int} {f : Nat → Nat} (w : World) (h : Told w g n f) (hl : n ≤ 1048576) (hx : Fl .f32 cl lv) : Calls Try.prog 9 #[gd wd hg (sl g n k), .float .f32 lv] w (RS (fT (massB wd hg n f cl) (massF f cl n)) w) := by
  have H := Hf.mk h
  clear h
  have B0 := Hb.mk (Below.refl w.heap.size w)
  cases h1 : gridB wd hg n f
  · have KV := Keep.mk (show massB wd hg n f cl = false by unfold massB; rw [h1]; rfl)
    have H1 := Hf.mk h1
    clear h1
    go_enter Try.func9, Try.ntmps9
    go_wp2_with (first | (go_at_call 25; refine (iValid_any _ (H.out.below (by repeat (first | exact Below.refl _ _ | with_reducible assumption | refine Below.drews ?_ | refine Below.drew ?_ | refine Below.alloc ?_ (by simp <;> omega) _ | refine Below.setCell ?_ (by simp <;> omega) _))) hl).mono ?_; rw [H1.out]; rintro e w1 ⟨rfl, b1⟩; have B1 := Hb.mk (Below.on (B := w.heap.size) (a := w) (by repeat (first | exact B0.out | refine Below.drews ?_ | refine Below.drew ?_ | refine Below.alloc ?_ (by have hq_ := B0.out.size; first | omega | (simp <;> omega)) _ | refine Below.setCell ?_ (by have hq_ := B0.out.size; first | omega | (simp <;> omega)) _)) b1 (by have hq_ := B0.out.size; first | omega | (simp <;> omega))); have r0 := Hb.mk (At.keep b1 (p := ⟨(w.heap.size), 0, none⟩) (v := .int .i64 wd) (by simp [go_sem]) (by simp [go_sem])); obtain ⟨r0c, r0z, r0l⟩ := r0.out; have r1 := Hb.mk (At.keep b1 (p := ⟨(w.heap.size), 1, none⟩) (v := .int .i64 hg) (by simp [go_sem]) (by simp [go_sem])); obtain ⟨r1c, r1z, r1l⟩ := r1.out; have r2 := Hb.mk (At.keep b1 (p := ⟨(w.heap.size), 2, none⟩) (v := sl g n k) (by simp [go_sem]) (by simp [go_sem])); obtain ⟨r2c, r2z, r2l⟩ := r2.out; clear b1))
    go_ret2
    rw [KV.out]
    exact ⟨rfl, (by repeat (first | with_reducible refine Below.setCell ?_ (by first | omega | (simp <;> omega)) _ | with_reducible refine Below.drews ?_ | with_reducible refine Below.drew ?_ | with_reducible refine Below.alloc ?_ (by first | omega | (simp <;> omega)) _ | with_reducible exact B1.out | with_reducible exact Below.refl _ _))⟩
  · obtain ⟨W, Hh, hg1⟩ := gridB_of h1
    have n256 := hg1.n256
    have hgl := told_lt H.out (show 0 < n by have := hg1.n4; omega)
    have H1 := Hf.mk h1
    cases h2 : fin .f32 cl
    · have KV := Keep.mk (show massB wd hg n f cl = false by unfold massB; rw [h2, Bool.false_and, Bool.and_false])
      have H2 := Hf.mk h2
      clear h1 h2
      go_enter Try.func9, Try.ntmps9
      go_wp2_with (first | (go_at_call 25; refine (iValid_any _ (H.out.below (by repeat (first | exact Below.refl _ _ | with_reducible assumption | refine Below.drews ?_ | refine Below.drew ?_ | refine Below.alloc ?_ (by simp <;> omega) _ | refine Below.setCell ?_ (by simp <;> omega) _))) hl).mono ?_; rw [H1.out]; rintro e w1 ⟨rfl, b1⟩; have B1 := Hb.mk (Below.on (B := w.heap.size) (a := w) (by repeat (first | exact B0.out | refine Below.drews ?_ | refine Below.drew ?_ | refine Below.alloc ?_ (by have hq_ := B0.out.size; first | omega | (simp <;> omega)) _ | refine Below.setCell ?_ (by have hq_ := B0.out.size; first | omega | (simp <;> omega)) _)) b1 (by have hq_ := B0.out.size; first | omega | (simp <;> omega))); have r0 := Hb.mk (At.keep b1 (p := ⟨(w.heap.size), 0, none⟩) (v := .int .i64 wd) (by simp [go_sem]) (by simp [go_sem])); obtain ⟨r0c, r0z, r0l⟩ := r0.out; have r1 := Hb.mk (At.keep b1 (p := ⟨(w.heap.size), 1, none⟩) (v := .int .i64 hg) (by simp [go_sem]) (by simp [go_sem])); obtain ⟨r1c, r1z, r1l⟩ := r1.out; have r2 := Hb.mk (At.keep b1 (p := ⟨(w.heap.size), 2, none⟩) (v := sl g n k) (by simp [go_sem]) (by simp [go_sem])); obtain ⟨r2c, r2z, r2l⟩ := r2.out; clear b1) | (go_at_call 26; refine (iIsFinite_any hx _).mono ?_; rw [H2.out]; rintro e w' ⟨rfl, q1, rfl⟩))
      go_ret2
      rw [KV.out]
      exact ⟨rfl, (by repeat (first | with_reducible refine Below.setCell ?_ (by first | omega | (simp <;> omega)) _ | with_reducible refine Below.drews ?_ | with_reducible refine Below.drew ?_ | with_reducible refine Below.alloc ?_ (by first | omega | (simp <;> omega)) _ | with_reducible exact B1.out | with_reducible exact Below.refl _ _))⟩
    · have KV := Keep.mk (show massB wd hg n f cl = fin .f32 (massF f cl n) by unfold massB; rw [h1, h2, Bool.true_and, Bool.true_and])
      have H2 := Hf.mk h2
      clear h1 h2
      go_enter Try.func9, Try.ntmps9
      go_wp2_with (first | (go_at_call 25; refine (iValid_any _ (H.out.below (by repeat (first | exact Below.refl _ _ | with_reducible assumption | refine Below.drews ?_ | refine Below.drew ?_ | refine Below.alloc ?_ (by simp <;> omega) _ | refine Below.setCell ?_ (by simp <;> omega) _))) hl).mono ?_; rw [H1.out]; rintro e w1 ⟨rfl, b1⟩; have B1 := Hb.mk (Below.on (B := w.heap.size) (a := w) (by repeat (first | exact B0.out | refine Below.drews ?_ | refine Below.drew ?_ | refine Below.alloc ?_ (by have hq_ := B0.out.size; first | omega | (simp <;> omega)) _ | refine Below.setCell ?_ (by have hq_ := B0.out.size; first | omega | (simp <;> omega)) _)) b1 (by have hq_ := B0.out.size; first | omega | (simp <;> omega))); have r0 := Hb.mk (At.keep b1 (p := ⟨(w.heap.size), 0, none⟩) (v := .int .i64 wd) (by simp [go_sem]) (by simp [go_sem])); obtain ⟨r0c, r0z, r0l⟩ := r0.out; have r1 := Hb.mk (At.keep b1 (p := ⟨(w.heap.size), 1, none⟩) (v := .int .i64 hg) (by simp [go_sem]) (by simp [go_sem])); obtain ⟨r1c, r1z, r1l⟩ := r1.out; have r2 := Hb.mk (At.keep b1 (p := ⟨(w.heap.size), 2, none⟩) (v := sl g n k) (by simp [go_sem]) (by simp [go_sem])); obtain ⟨r2c, r2z, r2l⟩ := r2.out; clear b1) | (go_at_call 26; refine (iIsFinite_any hx _).mono ?_; rw [H2.out]; rintro e w' ⟨rfl, q1, rfl⟩))
      go_loopw [6, 20] (fun s i wr => ∃ (m x : Nat), m ≤ n ∧ s = .float .f32 x ∧ Fl .f32 (massF f cl m) x ∧ i = .int .i64 m ∧ Drew w1 wr) (fun _ i _ => n - (intOf i).toNat)
      case atStart => exact ⟨0, 0, by omega, rfl, zero32, rfl, (by repeat (first | exact Drew.refl _ | refine Drew.more ?_))⟩
      case round =>
        obtain ⟨m, x, hm, rfl, hs, rfl, q, rfl⟩ := hrel
        by_cases hlt : m < n
        · obtain ⟨r, hc, hf⟩ := (H.out.below B1.out) m hlt
          cases hv : fcmp .gtr .f32 (f m) cl
          · have hs' := hs
            rw [← massF_no hv] at hs'
            go_wp2_with (first | (refine wpList_fcmp rfl rfl rfl rfl rfl (by first | (with_reducible assumption) | (with_reducible exact Fl.ofInt _ _) | exact Fl.not (by decide +kernel) (by decide +kernel)) (by first | (with_reducible assumption) | (with_reducible exact Fl.ofInt _ _) | exact Fl.not (by decide +kernel) (by decide +kernel)) ?_; simp only [Act.put, List.setIfInBounds_toArray, List.set_cons_succ, List.set_cons_zero, hv]))
            go_roundw
            case rel => exact ⟨m + 1, _, by omega, rfl, hs', i_ext2 (by omega), (by repeat (first | exact Drew.refl _ | refine Drew.more ?_))⟩
            case measure => simp [intOf]; omega
          · have HM := Hf.mk (massF_yes hv)
            have tk_a : True := trivial; have tk_b : True := trivial
            go_wp2_with (first | (refine wpList_fcmp rfl rfl rfl rfl rfl (by first | (with_reducible assumption) | (with_reducible exact Fl.ofInt _ _) | exact Fl.not (by decide +kernel) (by decide +kernel)) (by first | (with_reducible assumption) | (with_reducible exact Fl.ofInt _ _) | exact Fl.not (by decide +kernel) (by decide +kernel)) ?_; simp only [Act.put, List.setIfInBounds_toArray, List.set_cons_succ, List.set_cons_zero, hv]) | (clear tk_a; refine wpList_fop rfl rfl rfl rfl rfl (by first | (with_reducible assumption) | (with_reducible exact Fl.ofInt _ _) | exact Fl.not (by decide +kernel) (by decide +kernel)) (by first | (with_reducible assumption) | (with_reducible exact Fl.ofInt _ _) | exact Fl.not (by decide +kernel) (by decide +kernel)) ?_; intro a n_a h_a; simp only [Act.put, List.setIfInBounds_toArray, List.set_cons_succ, List.set_cons_zero]) | (clear tk_b; refine wpList_fop rfl rfl rfl rfl rfl (by first | (with_reducible assumption) | (with_reducible exact Fl.ofInt _ _) | exact Fl.not (by decide +kernel) (by decide +kernel)) (by first | (with_reducible assumption) | (with_reducible exact Fl.ofInt _ _) | exact Fl.not (by decide +kernel) (by decide +kernel)) ?_; intro b n_b h_b; simp only [Act.put, List.setIfInBounds_toArray, List.set_cons_succ, List.set_cons_zero]))
            go_roundw
            case rel => exact ⟨m + 1, _, by omega, rfl, by rw [HM.out]; exact h_b, i_ext2 (by omega), (by repeat (first | exact Drew.refl _ | refine Drew.more ?_))⟩
            case measure => simp [intOf]; omega
        · obtain rfl : m = n := by omega
          cases hv : fin .f32 (massF f cl m)
          · have KN := Hf.mk (finOne_no hs hv)
            have HV := Hf.mk hv
            clear hv
            go_wp2_with (first | (go_at_call 27; refine (KN.out _).mono ?_; rintro e w' ⟨rfl, q2, rfl⟩))
            go_ret2
            rw [KV.out, HV.out]
            exact ⟨rfl, (by repeat (first | with_reducible refine Below.setCell ?_ (by first | omega | (simp <;> omega)) _ | with_reducible refine Below.drews ?_ | with_reducible refine Below.drew ?_ | with_reducible refine Below.alloc ?_ (by first | omega | (simp <;> omega)) _ | with_reducible exact B1.out | with_reducible exact Below.refl _ _))⟩
          · have KN := Hf.mk (finOne_yes hs hv)
            have HV := Hf.mk hv
            clear hv
            go_wp2_with (first | (go_at_call 27; refine (KN.out _).mono ?_; rintro e w' ⟨rfl, q2, rfl⟩))
            go_ret2
            rw [KV.out, HV.out]
            exact ⟨rfl, (by repeat (first | with_reducible refine Below.setCell ?_ (by first | omega | (simp <;> omega)) _ | with_reducible refine Below.drews ?_ | with_reducible refine Below.drew ?_ | with_reducible refine Below.alloc ?_ (by first | omega | (simp <;> omega)) _ | with_reducible exact B1.out | with_reducible exact Below.refl _ _))⟩
def cntF (f : Nat → Nat) (lv : Nat) : Nat → Nat
  | 0 => 0
  | m + 1 => if fcmp .geq .f32 (f m) lv then cntF f lv m + 1 else cntF f lv m
theorem cntF_yes {f : Nat → Nat} {lv m : Nat} (h : fcmp .geq .f32 (f m) lv = true) : cntF f lv (m + 1) = cntF f lv m + 1 := by
  show (if _ then _ else _) = _
  rw [if_pos h]
theorem cntF_no {f : Nat → Nat} {lv m : Nat} (h : fcmp .geq .f32 (f m) lv = false) : cntF f lv (m + 1) = cntF f lv m := by
  show (if _ then _ else _) = _
  rw [if_neg (by rw [h]; decide)]
theorem cntF_le {f : Nat → Nat} {lv : Nat} : ∀ m, cntF f lv m ≤ m := by
  intro m
  induction m with
  | zero => exact Nat.le_refl _
  | succ m ih =>
    cases h : fcmp .geq .f32 (f m) lv
    · rw [cntF_no h]; omega
    · rw [cntF_yes h]; omega
def shareB (wd hg : Int) (n : Nat) (f : Nat → Nat) (lv : Nat) : Bool := gridB wd hg n f && fin .f32 lv
def shareC (f : Nat → Nat) (lv n : Nat) : Nat := fop .quo .f32 (floatOfInt .f32 (cntF f lv n)) (floatOfInt .f32 n)
theorem share_fl {f : Nat → Nat} {lv n : Nat} (w : World) : Fl .f32 (shareC f lv n) (shareC f lv n) := by
  obtain ⟨r, _, _, h⟩ := fop_run (P := Try.prog) w (op := .quo) rfl 0 (Fl.ofInt .f32 (cntF f lv n : Nat)) (Fl.ofInt .f32 (n : Nat))
  exact h.self
def sumF (f : Nat → Nat) : Nat → Nat
  | 0 => 0
  | m + 1 => fop .add .f32 (sumF f m) (f m)
theorem sumN_F {xs : List Nat} : ∀ m, sumN xs m = sumF (hF xs) m := by
  intro m
  induction m with
  | zero => rfl
  | succ m ih => show fop .add .f32 (sumN xs m) _ = fop .add .f32 (sumF (hF xs) m) _; rw [ih]; rfl
def meanC (f : Nat → Nat) (n : Nat) : Nat := fop .quo .f32 (sumF f n) (floatOfInt .f32 (n : Nat))
def sqrF (f : Nat → Nat) (c : Nat) : Nat → Nat
  | 0 => 0
  | m + 1 => fop .add .f32 (sqrF f c m) (fop .mul .f32 (fop .sub .f32 (f m) c) (fop .sub .f32 (f m) c))
def roughC (f : Nat → Nat) (n : Nat) : Nat := rootC (fop .quo .f32 (sqrF f (meanC f n) n) (floatOfInt .f32 (n : Nat)))
def roughB (wd hg : Int) (n : Nat) (f : Nat → Nat) : Bool := gridB wd hg n f && fin .f32 (roughC f n)
set_option maxHeartbeats 4000000 in
theorem sRough_any {g n k : Nat} {wd hg : Int} {f : Nat → Nat} (w : World) (h : Told w g n f) (hl : n ≤ 1048576) : Calls Try.prog 18 #[gd wd hg (sl g n k)] w (RS (fT (roughB wd hg n f) (roughC f n)) w) := by
  have H := Hf.mk h
  clear h
  cases h1 : gridB wd hg n f
  · have KV := Keep.mk (show roughB wd hg n f = false by unfold roughB; rw [h1]; rfl)
    have H1 := Hf.mk h1
    clear h1
    go_enter Try.func18, Try.ntmps18
    go_wp2_with (first | (go_at_call 21; refine (l06Is_any (k := k) (wd := wd) (hg := hg) _ (by simp) (by simp) (by simp) (H.out.below (by repeat (first | exact Below.refl _ _ | with_reducible assumption | refine Below.drews ?_ | refine Below.drew ?_ | refine Below.alloc ?_ (by simp <;> omega) _ | refine Below.setCell ?_ (by simp <;> omega) _))) hl).mono ?_; rw [H1.out]; rintro e w' ⟨rfl, q0, rfl⟩))
    go_ret2
    rw [KV.out]
    exact ⟨rfl, (by repeat (first | exact Below.refl _ _ | with_reducible assumption | refine Below.drews ?_ | refine Below.drew ?_ | refine Below.alloc ?_ (by simp <;> omega) _ | refine Below.setCell ?_ (by simp <;> omega) _))⟩
  · obtain ⟨W, Hh, hg1⟩ := gridB_of h1
    have n256 := hg1.n256
    have hgl := told_lt H.out (show 0 < n by have := hg1.n4; omega)
    have KV := Keep.mk (show roughB wd hg n f = fin .f32 (roughC f n) by unfold roughB; rw [h1, Bool.true_and])
    have H1 := Hf.mk h1
    clear h1
    go_enter Try.func18, Try.ntmps18
    go_wp2_with (first | (go_at_call 21; refine (l06Is_any (k := k) (wd := wd) (hg := hg) _ (by simp) (by simp) (by simp) (H.out.below (by repeat (first | exact Below.refl _ _ | with_reducible assumption | refine Below.drews ?_ | refine Below.drew ?_ | refine Below.alloc ?_ (by simp <;> omega) _ | refine Below.setCell ?_ (by simp <;> omega) _))) hl).mono ?_; rw [H1.out]; rintro e w' ⟨rfl, q0, rfl⟩))
    go_loopw [5, 6] (fun s i wr => ∃ (m x : Nat), m ≤ n ∧ s = .float .f32 x ∧ Fl .f32 (sumF f m) x ∧ i = .int .i64 m ∧ Drew (w.alloc (.cells #[.int .i64 wd, .int .i64 hg, sl g n k] 29)) wr) (fun _ i _ => n - (intOf i).toNat)
    case atStart => exact ⟨0, 0, by omega, rfl, zero32, rfl, (by repeat (first | exact Drew.refl _ | refine Drew.more ?_))⟩
    case round =>
      obtain ⟨m, x, hm, rfl, hs, rfl, q, rfl⟩ := hrel
      by_cases hlt : m < n
      · obtain ⟨r, hc, hf⟩ := H.out m hlt
        have tk_a : True := trivial
        go_wp2_with (first | (clear tk_a; refine wpList_fop rfl rfl rfl rfl rfl (by first | (with_reducible assumption) | (with_reducible exact Fl.ofInt _ _) | exact Fl.not (by decide +kernel) (by decide +kernel)) (by first | (with_reducible assumption) | (with_reducible exact Fl.ofInt _ _) | exact Fl.not (by decide +kernel) (by decide +kernel)) ?_; intro a n_a h_a; simp only [Act.put, List.setIfInBounds_toArray, List.set_cons_succ, List.set_cons_zero]))
        go_roundw
        case rel => exact ⟨m + 1, _, by omega, rfl, h_a, i_ext2 (by omega), (by repeat (first | exact Drew.refl _ | refine Drew.more ?_))⟩
        case measure => simp [intOf]; omega
      · obtain rfl : m = n := by omega
        have tk_y0 : True := trivial
        go_wp2_with (first | (clear tk_y0; refine wpList_fop rfl rfl rfl rfl rfl (by first | (with_reducible assumption) | (with_reducible exact Fl.ofInt _ _) | exact Fl.not (by decide +kernel) (by decide +kernel)) (by first | (with_reducible assumption) | (with_reducible exact Fl.ofInt _ _) | exact Fl.not (by decide +kernel) (by decide +kernel)) ?_; intro y0 n_y0 h_y0; simp only [Act.put, List.setIfInBounds_toArray, List.set_cons_succ, List.set_cons_zero]))
        have ha : Fl .f32 (meanC f m) y0 := h_y0
        clear h_y0
        go_loopw [8, 9] (fun s i wr => ∃ (d x : Nat), d ≤ m ∧ s = .float .f32 x ∧ Fl .f32 (sqrF f (meanC f m) d) x ∧ i = .int .i64 d ∧ Drew (w.alloc (.cells #[.int .i64 wd, .int .i64 hg, sl g m k] 29)) wr) (fun _ i _ => m - (intOf i).toNat)
        case atStart => exact ⟨0, 0, by omega, rfl, zero32, rfl, (by repeat (first | exact Drew.refl _ | refine Drew.more ?_))⟩
        case round =>
          obtain ⟨d, x2, hd, rfl, hs2, rfl, q2, rfl⟩ := hrel
          by_cases hlt2 : d < m
          · obtain ⟨r, hc, hf⟩ := H.out d hlt2
            have tk_y1 : True := trivial; have tk_y2 : True := trivial; have tk_y3 : True := trivial
            go_wp2_with (first | (clear tk_y1; refine wpList_fop rfl rfl rfl rfl rfl (by first | (with_reducible assumption) | (with_reducible exact Fl.ofInt _ _) | exact Fl.not (by decide +kernel) (by decide +kernel)) (by first | (with_reducible assumption) | (with_reducible exact Fl.ofInt _ _) | exact Fl.not (by decide +kernel) (by decide +kernel)) ?_; intro y1 n_y1 h_y1; simp only [Act.put, List.setIfInBounds_toArray, List.set_cons_succ, List.set_cons_zero]) | (clear tk_y2; refine wpList_fop rfl rfl rfl rfl rfl (by first | (with_reducible assumption) | (with_reducible exact Fl.ofInt _ _) | exact Fl.not (by decide +kernel) (by decide +kernel)) (by first | (with_reducible assumption) | (with_reducible exact Fl.ofInt _ _) | exact Fl.not (by decide +kernel) (by decide +kernel)) ?_; intro y2 n_y2 h_y2; simp only [Act.put, List.setIfInBounds_toArray, List.set_cons_succ, List.set_cons_zero]) | (clear tk_y3; refine wpList_fop rfl rfl rfl rfl rfl (by first | (with_reducible assumption) | (with_reducible exact Fl.ofInt _ _) | exact Fl.not (by decide +kernel) (by decide +kernel)) (by first | (with_reducible assumption) | (with_reducible exact Fl.ofInt _ _) | exact Fl.not (by decide +kernel) (by decide +kernel)) ?_; intro y3 n_y3 h_y3; simp only [Act.put, List.setIfInBounds_toArray, List.set_cons_succ, List.set_cons_zero]))
            go_roundw
            case rel => exact ⟨d + 1, _, by omega, rfl, h_y3, i_ext2 (by omega), (by repeat (first | exact Drew.refl _ | refine Drew.more ?_))⟩
            case measure => simp [intOf]; omega
          · obtain rfl : d = m := by omega
            cases hv : fin .f32 (roughC f d)
            · have HV := Hf.mk hv
              clear hv
              have tk_z0 : True := trivial
              go_wp2_with (first | (clear tk_z0; refine wpList_fop rfl rfl rfl rfl rfl (by first | (with_reducible assumption) | (with_reducible exact Fl.ofInt _ _) | exact Fl.not (by decide +kernel) (by decide +kernel)) (by first | (with_reducible assumption) | (with_reducible exact Fl.ofInt _ _) | exact Fl.not (by decide +kernel) (by decide +kernel)) ?_; intro z0 n_z0 h_z0; simp only [Act.put, List.setIfInBounds_toArray, List.set_cons_succ, List.set_cons_zero]) | (go_at_call 42; refine (l01Rt_any h_z0 _).mono ?_; rintro e w' ⟨r, n, rfl, hr, rfl⟩) | (go_at_call 23; refine (l02Num_no (c := roughC f d) hr HV.out _).mono ?_; rintro e w' ⟨rfl, q5, rfl⟩))
              go_ret2
              rw [KV.out, HV.out]
              exact ⟨rfl, (by repeat (first | exact Below.refl _ _ | with_reducible assumption | refine Below.drews ?_ | refine Below.drew ?_ | refine Below.alloc ?_ (by simp <;> omega) _ | refine Below.setCell ?_ (by simp <;> omega) _))⟩
            · have HV := Hf.mk hv
              clear hv
              have tk_z0 : True := trivial
              go_wp2_with (first | (clear tk_z0; refine wpList_fop rfl rfl rfl rfl rfl (by first | (with_reducible assumption) | (with_reducible exact Fl.ofInt _ _) | exact Fl.not (by decide +kernel) (by decide +kernel)) (by first | (with_reducible assumption) | (with_reducible exact Fl.ofInt _ _) | exact Fl.not (by decide +kernel) (by decide +kernel)) ?_; intro z0 n_z0 h_z0; simp only [Act.put, List.setIfInBounds_toArray, List.set_cons_succ, List.set_cons_zero]) | (go_at_call 42; refine (l01Rt_any h_z0 _).mono ?_; rintro e w' ⟨r, n, rfl, hr, rfl⟩) | (go_at_call 23; refine (l02Num_yes (c := roughC f d) hr HV.out _).mono ?_; rintro e w' ⟨rfl, q5, rfl⟩))
              go_ret2
              rw [KV.out, HV.out]
              exact ⟨rfl, (by repeat (first | exact Below.refl _ _ | with_reducible assumption | refine Below.drews ?_ | refine Below.drew ?_ | refine Below.alloc ?_ (by simp <;> omega) _ | refine Below.setCell ?_ (by simp <;> omega) _))⟩
set_option maxHeartbeats 4000000 in
theorem iRough_any {g n k : Nat} {wd hg : Int} {xs : List Nat} (w : World) (h : FRow w (some ⟨g, 0, none⟩) xs) (hw : Wf xs) (hn : xs.length = n) (hl : n ≤ 1048576) : Calls Try.prog 19 #[gd wd hg (sl g n k)] w (RS (fT (roughB wd hg n (hF xs)) (roughC (hF xs) n)) w) := by
  subst hn
  have HR := Hf.mk h
  have HW := Hf.mk hw
  have H : Hf (Told w g xs.length (hF xs)) := Hf.mk (Told.of h hw)
  clear h hw
  have B0 := Hb.mk (Below.refl w.heap.size w)
  cases h1 : gridB wd hg xs.length (hF xs)
  · have KV := Keep.mk (show roughB wd hg xs.length (hF xs) = false by unfold roughB; rw [h1]; rfl)
    have H1 := Hf.mk h1
    clear h1
    go_enter Try.func19, Try.ntmps19
    go_wp2_with (first | (go_at_call 25; refine (iValid_any _ (H.out.below (by repeat (first | exact Below.refl _ _ | with_reducible assumption | refine Below.drews ?_ | refine Below.drew ?_ | refine Below.alloc ?_ (by simp <;> omega) _ | refine Below.setCell ?_ (by simp <;> omega) _))) hl).mono ?_; rw [H1.out]; rintro e w1 ⟨rfl, b1⟩; have B1 := Hb.mk (Below.on (B := w.heap.size) (a := w) (by repeat (first | exact B0.out | refine Below.drews ?_ | refine Below.drew ?_ | refine Below.alloc ?_ (by have hq_ := B0.out.size; first | omega | (simp <;> omega)) _ | refine Below.setCell ?_ (by have hq_ := B0.out.size; first | omega | (simp <;> omega)) _)) b1 (by have hq_ := B0.out.size; first | omega | (simp <;> omega))); have r0 := Hb.mk (At.keep b1 (p := ⟨(w.heap.size), 0, none⟩) (v := .int .i64 wd) (by simp [go_sem]) (by simp [go_sem])); obtain ⟨r0c, r0z, r0l⟩ := r0.out; have r1 := Hb.mk (At.keep b1 (p := ⟨(w.heap.size), 1, none⟩) (v := .int .i64 hg) (by simp [go_sem]) (by simp [go_sem])); obtain ⟨r1c, r1z, r1l⟩ := r1.out; have r2 := Hb.mk (At.keep b1 (p := ⟨(w.heap.size), 2, none⟩) (v := sl g xs.length k) (by simp [go_sem]) (by simp [go_sem])); obtain ⟨r2c, r2z, r2l⟩ := r2.out; clear b1))
    go_ret2
    rw [KV.out]
    exact ⟨rfl, (by repeat (first | with_reducible refine Below.setCell ?_ (by first | omega | (simp <;> omega)) _ | with_reducible refine Below.drews ?_ | with_reducible refine Below.drew ?_ | with_reducible refine Below.alloc ?_ (by first | omega | (simp <;> omega)) _ | with_reducible exact B1.out | with_reducible exact Below.refl _ _))⟩
  · obtain ⟨W, Hh, hg1⟩ := gridB_of h1
    have n256 := hg1.n256
    have hgl := told_lt H.out (show 0 < xs.length by have := hg1.n4; omega)
    have KV := Keep.mk (show roughB wd hg xs.length (hF xs) = fin .f32 (roughC (hF xs) xs.length) by unfold roughB; rw [h1, Bool.true_and])
    have KS := Keep.mk (sumN_F (xs := xs) xs.length)
    have H1 := Hf.mk h1
    clear h1
    go_enter Try.func19, Try.ntmps19
    have tk_y0 : True := trivial
    go_wp2_with (first | (go_at_call 25; refine (iValid_any _ (H.out.below (by repeat (first | exact Below.refl _ _ | with_reducible assumption | refine Below.drews ?_ | refine Below.drew ?_ | refine Below.alloc ?_ (by simp <;> omega) _ | refine Below.setCell ?_ (by simp <;> omega) _))) hl).mono ?_; rw [H1.out]; rintro e w1 ⟨rfl, b1⟩; have B1 := Hb.mk (Below.on (B := w.heap.size) (a := w) (by repeat (first | exact B0.out | refine Below.drews ?_ | refine Below.drew ?_ | refine Below.alloc ?_ (by have hq_ := B0.out.size; first | omega | (simp <;> omega)) _ | refine Below.setCell ?_ (by have hq_ := B0.out.size; first | omega | (simp <;> omega)) _)) b1 (by have hq_ := B0.out.size; first | omega | (simp <;> omega))); have r0 := Hb.mk (At.keep b1 (p := ⟨(w.heap.size), 0, none⟩) (v := .int .i64 wd) (by simp [go_sem]) (by simp [go_sem])); obtain ⟨r0c, r0z, r0l⟩ := r0.out; have r1 := Hb.mk (At.keep b1 (p := ⟨(w.heap.size), 1, none⟩) (v := .int .i64 hg) (by simp [go_sem]) (by simp [go_sem])); obtain ⟨r1c, r1z, r1l⟩ := r1.out; have r2 := Hb.mk (At.keep b1 (p := ⟨(w.heap.size), 2, none⟩) (v := sl g xs.length k) (by simp [go_sem]) (by simp [go_sem])); obtain ⟨r2c, r2z, r2l⟩ := r2.out; clear b1) | (go_at_call 43; refine (iSum_yes _ (HR.out.below B1.out) HW.out n256).mono ?_; rw [KS.out]; rintro e w' ⟨r, rfl, hr, q3, rfl⟩) | (clear tk_y0; refine wpList_fop rfl rfl rfl rfl rfl (by first | (with_reducible assumption) | (with_reducible exact Fl.ofInt _ _) | exact Fl.not (by decide +kernel) (by decide +kernel)) (by first | (with_reducible assumption) | (with_reducible exact Fl.ofInt _ _) | exact Fl.not (by decide +kernel) (by decide +kernel)) ?_; intro y0 n_y0 h_y0; simp only [Act.put, List.setIfInBounds_toArray, List.set_cons_succ, List.set_cons_zero]))
    have ha : Fl .f32 (meanC (hF xs) xs.length) y0 := h_y0
    clear h_y0
    go_loopw [8, 31] (fun s i wr => ∃ (d x : Nat), d ≤ xs.length ∧ s = .float .f32 x ∧ Fl .f32 (sqrF (hF xs) (meanC (hF xs) xs.length) d) x ∧ i = .int .i64 d ∧ Drew w1 wr) (fun _ i _ => xs.length - (intOf i).toNat)
    case atStart => exact ⟨0, 0, by omega, rfl, zero32, rfl, (by repeat (first | exact Drew.refl _ | refine Drew.more ?_))⟩
    case round =>
      obtain ⟨d, x2, hd, rfl, hs2, rfl, q2, rfl⟩ := hrel
      by_cases hlt2 : d < xs.length
      · obtain ⟨r, hc, hf⟩ := (H.out.below B1.out) d hlt2
        have tk_y1 : True := trivial; have tk_y2 : True := trivial; have tk_y3 : True := trivial
        go_wp2_with (first | (clear tk_y1; refine wpList_fop rfl rfl rfl rfl rfl (by first | (with_reducible assumption) | (with_reducible exact Fl.ofInt _ _) | exact Fl.not (by decide +kernel) (by decide +kernel)) (by first | (with_reducible assumption) | (with_reducible exact Fl.ofInt _ _) | exact Fl.not (by decide +kernel) (by decide +kernel)) ?_; intro y1 n_y1 h_y1; simp only [Act.put, List.setIfInBounds_toArray, List.set_cons_succ, List.set_cons_zero]) | (clear tk_y2; refine wpList_fop rfl rfl rfl rfl rfl (by first | (with_reducible assumption) | (with_reducible exact Fl.ofInt _ _) | exact Fl.not (by decide +kernel) (by decide +kernel)) (by first | (with_reducible assumption) | (with_reducible exact Fl.ofInt _ _) | exact Fl.not (by decide +kernel) (by decide +kernel)) ?_; intro y2 n_y2 h_y2; simp only [Act.put, List.setIfInBounds_toArray, List.set_cons_succ, List.set_cons_zero]) | (clear tk_y3; refine wpList_fop rfl rfl rfl rfl rfl (by first | (with_reducible assumption) | (with_reducible exact Fl.ofInt _ _) | exact Fl.not (by decide +kernel) (by decide +kernel)) (by first | (with_reducible assumption) | (with_reducible exact Fl.ofInt _ _) | exact Fl.not (by decide +kernel) (by decide +kernel)) ?_; intro y3 n_y3 h_y3; simp only [Act.put, List.setIfInBounds_toArray, List.set_cons_succ, List.set_cons_zero]))
        go_roundw
        case rel => exact ⟨d + 1, _, by omega, rfl, h_y3, i_ext2 (by omega), (by repeat (first | exact Drew.refl _ | refine Drew.more ?_))⟩
        case measure => simp [intOf]; omega
      · obtain rfl : d = xs.length := by omega
        cases hv : fin .f32 (roughC (hF xs) xs.length)
        · have HV := Hf.mk hv
          clear hv
          have tk_z0 : True := trivial
          go_wp2_with (first | (clear tk_z0; refine wpList_fop rfl rfl rfl rfl rfl (by first | (with_reducible assumption) | (with_reducible exact Fl.ofInt _ _) | exact Fl.not (by decide +kernel) (by decide +kernel)) (by first | (with_reducible assumption) | (with_reducible exact Fl.ofInt _ _) | exact Fl.not (by decide +kernel) (by decide +kernel)) ?_; intro z0 n_z0 h_z0; simp only [Act.put, List.setIfInBounds_toArray, List.set_cons_succ, List.set_cons_zero]) | (go_at_call 44; refine (iRoot_any h_z0 _).mono ?_; rintro e w' ⟨r, n, rfl, hr, rfl⟩) | (go_at_call 27; refine (finOne_no (c := roughC (hF xs) xs.length) hr HV.out _).mono ?_; rintro e w' ⟨rfl, q5, rfl⟩))
          go_ret2
          rw [KV.out, HV.out]
          exact ⟨rfl, (by repeat (first | with_reducible refine Below.setCell ?_ (by first | omega | (simp <;> omega)) _ | with_reducible refine Below.drews ?_ | with_reducible refine Below.drew ?_ | with_reducible refine Below.alloc ?_ (by first | omega | (simp <;> omega)) _ | with_reducible exact B1.out | with_reducible exact Below.refl _ _))⟩
        · have HV := Hf.mk hv
          clear hv
          have tk_z0 : True := trivial
          go_wp2_with (first | (clear tk_z0; refine wpList_fop rfl rfl rfl rfl rfl (by first | (with_reducible assumption) | (with_reducible exact Fl.ofInt _ _) | exact Fl.not (by decide +kernel) (by decide +kernel)) (by first | (with_reducible assumption) | (with_reducible exact Fl.ofInt _ _) | exact Fl.not (by decide +kernel) (by decide +kernel)) ?_; intro z0 n_z0 h_z0; simp only [Act.put, List.setIfInBounds_toArray, List.set_cons_succ, List.set_cons_zero]) | (go_at_call 44; refine (iRoot_any h_z0 _).mono ?_; rintro e w' ⟨r, n, rfl, hr, rfl⟩) | (go_at_call 27; refine (finOne_yes (c := roughC (hF xs) xs.length) hr HV.out _).mono ?_; rintro e w' ⟨rfl, q5, rfl⟩))
          go_ret2
          rw [KV.out, HV.out]
          exact ⟨rfl, (by repeat (first | with_reducible refine Below.setCell ?_ (by first | omega | (simp <;> omega)) _ | with_reducible refine Below.drews ?_ | with_reducible refine Below.drew ?_ | with_reducible refine Below.alloc ?_ (by first | omega | (simp <;> omega)) _ | with_reducible exact B1.out | with_reducible exact Below.refl _ _))⟩
end Go.Proofs.Ytcgmffpddahgoac
