/-
  MassAbove, RoughGrid and SharesAbove, of the program and of the model: the numbers that they return. No premise beyond those named.
-/
import Derived.Test.YtcgmffpddahgoabGrd
namespace Go.Proofs.Ytcgmffpddahgoab
open Go Go.RowKit
set_option maxRecDepth 100000

def hF (xs : List Nat) (j : Nat) : Nat := nrm .f32 (xs.getD j 0)
def massF (f : Nat → Nat) (lv : Nat) : Nat → Nat
  | 0 => 0
  | m + 1 => if fcmp .gtr .f32 (f m) lv then fop .add .f32 (massF f lv m) (fop .sub .f32 (f m) lv) else massF f lv m
theorem massF_yes {f : Nat → Nat} {lv m : Nat} (h : fcmp .gtr .f32 (f m) lv = true) : massF f lv (m + 1) = fop .add .f32 (massF f lv m) (fop .sub .f32 (f m) lv) := by
  show (if _ then _ else _) = _
  rw [if_pos h]
theorem massF_no {f : Nat → Nat} {lv m : Nat} (h : fcmp .gtr .f32 (f m) lv = false) : massF f lv (m + 1) = massF f lv m := by
  show (if _ then _ else _) = _
  rw [if_neg (by rw [h]; decide)]
def massB (wd hg : Int) (n : Nat) (f : Nat → Nat) (lv : Nat) : Bool := gridB wd hg n f && (fin .f32 lv && fin .f32 (massF f lv n))
theorem told_lt {w : World} {g n : Nat} {f : Nat → Nat} (h : Told w g n f) (h0 : 0 < n) : g < w.heap.size := by
  obtain ⟨r, hc, _⟩ := h 0 h0
  exact block_lt_of_cell hc
/-- 'returns a float that is told by c, and true, or nothing and false' -/
def ReT (ok : Bool) (c : Nat) (w : World) (e : Ending) (w' : World) : Prop := ∃ r, e = .returned (if ok then .tuple #[.float .f32 r, .bool true] else .tuple #[.float .f32 0, .bool false]) ∧ Fl .f32 c r ∧ Below w.heap.size w w'
def cntF (f : Nat → Nat) (lv : Nat) : Nat → Nat
  | 0 => 0
  | m + 1 => if fcmp .geq .f32 (f m) lv then cntF f lv m + 1 else cntF f lv m
theorem cntF_yes {f : Nat → Nat} {lv m : Nat} (h : fcmp .geq .f32 (f m) lv = true) : cntF f lv (m + 1) = cntF f lv m + 1 := by
  show (if _ then _ else _) = _
  rw [if_pos h]
theorem cntF_no {f : Nat → Nat} {lv m : Nat} (h : fcmp .geq .f32 (f m) lv = false) : cntF f lv (m + 1) = cntF f lv m := by
  show (if _ then _ else _) = _
  rw [if_neg (by rw [h]; decide)]
theorem cntF_le {f : Nat → Nat} {lv : Nat} : ∀ m, cntF f lv m ≤ m := by
  intro m
  induction m with
  | zero => exact Nat.le_refl _
  | succ m ih =>
    cases h : fcmp .geq .f32 (f m) lv
    · rw [cntF_no h]; omega
    · rw [cntF_yes h]; omega
def shareB (wd hg : Int) (n : Nat) (f : Nat → Nat) (lv : Nat) : Bool := gridB wd hg n f && fin .f32 lv
def shareC (f : Nat → Nat) (lv n : Nat) : Nat := fop .quo .f32 (floatOfInt .f32 (cntF f lv n)) (floatOfInt .f32 n)
theorem share_fl {f : Nat → Nat} {lv n : Nat} (w : World) : Fl .f32 (shareC f lv n) (shareC f lv n) := by
  obtain ⟨r, _, _, h⟩ := fop_run (P := Try.prog) w (op := .quo) rfl 0 (Fl.ofInt .f32 (cntF f lv n : Nat)) (Fl.ofInt .f32 (n : Nat))
  exact h.self
set_option maxHeartbeats 4000000 in
theorem sShares_any {g n k lv cl : Nat} {wd hg : Int} {f : Nat → Nat} (w : World) (h : Told w g n f) (hl : n ≤ 1048576) (hx : Fl .f32 cl lv) : Calls Try.prog 52 #[gd wd hg (sl g n k), .float .f32 lv] w (ReT (shareB wd hg n f cl) (shareC f cl n) w) := by
  have H := Hf.mk h
  clear h
  have B0 := Hb.mk (Below.refl w.heap.size w)
  cases h1 : gridB wd hg n f
  · have KV := Keep.mk (show shareB wd hg n f cl = false by unfold shareB; rw [h1]; rfl)
    have H1 := Hf.mk h1
    clear h1
    go_enter Try.func52, Try.ntmps52
    go_wp2_with (first | (go_at_call 55; refine (l06Is_any (k := k) (wd := wd) (hg := hg) _ (by simp) (by simp) (by simp) (H.out.below (by repeat (first | exact Below.refl _ _ | with_reducible assumption | refine Below.drews ?_ | refine Below.drew ?_ | refine Below.alloc ?_ (by simp <;> omega) _ | refine Below.setCell ?_ (by simp <;> omega) _))) hl).mono ?_; rw [H1.out]; rintro e w' ⟨rfl, q0, rfl⟩))
    go_ret2
    rw [KV.out]
    exact ⟨shareC f cl n, rfl, share_fl w, (by repeat (first | exact Below.refl _ _ | with_reducible assumption | refine Below.drews ?_ | refine Below.drew ?_ | refine Below.alloc ?_ (by simp <;> omega) _ | refine Below.setCell ?_ (by simp <;> omega) _))⟩
  · obtain ⟨W, Hh, hg1⟩ := gridB_of h1
    have n256 := hg1.n256
    have hgl := told_lt H.out (show 0 < n by have := hg1.n4; omega)
    have H1 := Hf.mk h1
    cases h2 : fin .f32 cl
    · have KV := Keep.mk (show shareB wd hg n f cl = false by unfold shareB; rw [h2, Bool.and_false])
      have H2 := Hf.mk h2
      clear h1 h2
      go_enter Try.func52, Try.ntmps52
      go_wp2_with (first | (go_at_call 55; refine (l06Is_any (k := k) (wd := wd) (hg := hg) _ (by simp) (by simp) (by simp) (H.out.below (by repeat (first | exact Below.refl _ _ | with_reducible assumption | refine Below.drews ?_ | refine Below.drew ?_ | refine Below.alloc ?_ (by simp <;> omega) _ | refine Below.setCell ?_ (by simp <;> omega) _))) hl).mono ?_; rw [H1.out]; rintro e w' ⟨rfl, q0, rfl⟩) | (go_at_call 56; refine (l01Finite_any hx _).mono ?_; rw [H2.out]; rintro e w' ⟨rfl, q1, rfl⟩))
      go_ret2
      rw [KV.out]
      exact ⟨shareC f cl n, rfl, share_fl w, (by repeat (first | exact Below.refl _ _ | with_reducible assumption | refine Below.drews ?_ | refine Below.drew ?_ | refine Below.alloc ?_ (by simp <;> omega) _ | refine Below.setCell ?_ (by simp <;> omega) _))⟩
    · have KV := Keep.mk (show shareB wd hg n f cl = true by unfold shareB; rw [h1, h2, Bool.true_and])
      have H2 := Hf.mk h2
      clear h1 h2
      go_enter Try.func52, Try.ntmps52
      go_wp2_with (first | (go_at_call 55; refine (l06Is_any (k := k) (wd := wd) (hg := hg) _ (by simp) (by simp) (by simp) (H.out.below (by repeat (first | exact Below.refl _ _ | with_reducible assumption | refine Below.drews ?_ | refine Below.drew ?_ | refine Below.alloc ?_ (by simp <;> omega) _ | refine Below.setCell ?_ (by simp <;> omega) _))) hl).mono ?_; rw [H1.out]; rintro e w' ⟨rfl, q0, rfl⟩) | (go_at_call 56; refine (l01Finite_any hx _).mono ?_; rw [H2.out]; rintro e w' ⟨rfl, q1, rfl⟩))
      go_loopw [6, 7] (fun s i wr => ∃ m : Nat, m ≤ n ∧ s = .int .i64 (cntF f cl m : Nat) ∧ i = .int .i64 m ∧ Drew (w.alloc (.cells #[.int .i64 wd, .int .i64 hg, sl g n k] 30)) wr) (fun _ i _ => n - (intOf i).toNat)
      case atStart => exact ⟨0, by omega, rfl, rfl, (by repeat (first | exact Drew.refl _ | refine Drew.more ?_))⟩
      case round =>
        obtain ⟨m, hm, rfl, rfl, q, rfl⟩ := hrel
        have hcl := cntF_le (f := f) (lv := cl) m
        by_cases hlt : m < n
        · obtain ⟨r, hc, hf⟩ := H.out m hlt
          cases hv : fcmp .geq .f32 (f m) cl
          · have HM := Hf.mk (cntF_no hv)
            go_wp2_with (first | (refine wpList_fcmp rfl rfl rfl rfl rfl (by first | (with_reducible assumption) | (with_reducible exact Fl.ofInt _ _) | exact Fl.not (by decide +kernel) (by decide +kernel)) (by first | (with_reducible assumption) | (with_reducible exact Fl.ofInt _ _) | exact Fl.not (by decide +kernel) (by decide +kernel)) ?_; simp only [Act.put, List.setIfInBounds_toArray, List.set_cons_succ, List.set_cons_zero, hv]))
            go_roundw
            case rel => exact ⟨m + 1, by omega, by rw [HM.out], i_ext2 (by omega), (by repeat (first | exact Drew.refl _ | refine Drew.more ?_))⟩
            case measure => simp [intOf]; omega
          · have HM := Hf.mk (cntF_yes hv)
            go_wp2_with (first | (refine wpList_fcmp rfl rfl rfl rfl rfl (by first | (with_reducible assumption) | (with_reducible exact Fl.ofInt _ _) | exact Fl.not (by decide +kernel) (by decide +kernel)) (by first | (with_reducible assumption) | (with_reducible exact Fl.ofInt _ _) | exact Fl.not (by decide +kernel) (by decide +kernel)) ?_; simp only [Act.put, List.setIfInBounds_toArray, List.set_cons_succ, List.set_cons_zero, hv]))
            go_roundw
            case rel => exact ⟨m + 1, by omega, i_ext2 (by rw [HM.out]; omega), i_ext2 (by omega), (by repeat (first | exact Drew.refl _ | refine Drew.more ?_))⟩
            case measure => simp [intOf]; omega
        · obtain rfl : m = n := by omega
          have tk_a : True := trivial
          go_wp2_with (first | (clear tk_a; refine wpList_fop rfl rfl rfl rfl rfl (by first | (with_reducible assumption) | (with_reducible exact Fl.ofInt _ _) | exact Fl.not (by decide +kernel) (by decide +kernel)) (by first | (with_reducible assumption) | (with_reducible exact Fl.ofInt _ _) | exact Fl.not (by decide +kernel) (by decide +kernel)) ?_; intro a n_a h_a; simp only [Act.put, List.setIfInBounds_toArray, List.set_cons_succ, List.set_cons_zero]))
          go_ret2
          rw [KV.out]
          exact ⟨_, rfl, h_a, (by repeat (first | exact Below.refl _ _ | with_reducible assumption | refine Below.drews ?_ | refine Below.drew ?_ | refine Below.alloc ?_ (by simp <;> omega) _ | refine Below.setCell ?_ (by simp <;> omega) _))⟩
set_option maxHeartbeats 4000000 in
theorem iShares_any {g n k lv cl : Nat} {wd hg : Int} {f : Nat → Nat} (w : World) (h : Told w g n f) (hl : n ≤ 1048576) (hx : Fl .f32 cl lv) : Calls Try.prog 53 #[gd wd hg (sl g n k), .float .f32 lv] w (ReT (shareB wd hg n f cl) (shareC f cl n) w) := by
  have H := Hf.mk h
  clear h
  have B0 := Hb.mk (Below.refl w.heap.size w)
  cases h1 : gridB wd hg n f
  · have KV := Keep.mk (show shareB wd hg n f cl = false by unfold shareB; rw [h1]; rfl)
    have H1 := Hf.mk h1
    clear h1
    go_enter Try.func53, Try.ntmps53
    go_wp2_with (first | (go_at_call 60; refine (iValid_any _ (H.out.below (by repeat (first | exact Below.refl _ _ | with_reducible assumption | refine Below.drews ?_ | refine Below.drew ?_ | refine Below.alloc ?_ (by simp <;> omega) _ | refine Below.setCell ?_ (by simp <;> omega) _))) hl).mono ?_; rw [H1.out]; rintro e w1 ⟨rfl, b1⟩; have B1 := Hb.mk (Below.on (B := w.heap.size) (a := w) (by repeat (first | exact B0.out | refine Below.drews ?_ | refine Below.drew ?_ | refine Below.alloc ?_ (by have hq_ := B0.out.size; first | omega | (simp <;> omega)) _ | refine Below.setCell ?_ (by have hq_ := B0.out.size; first | omega | (simp <;> omega)) _)) b1 (by have hq_ := B0.out.size; first | omega | (simp <;> omega))); have r0 := Hb.mk (At.keep b1 (p := ⟨(w.heap.size), 0, none⟩) (v := .int .i64 wd) (by simp [go_sem]) (by simp [go_sem])); obtain ⟨r0c, r0z, r0l⟩ := r0.out; have r1 := Hb.mk (At.keep b1 (p := ⟨(w.heap.size), 1, none⟩) (v := .int .i64 hg) (by simp [go_sem]) (by simp [go_sem])); obtain ⟨r1c, r1z, r1l⟩ := r1.out; have r2 := Hb.mk (At.keep b1 (p := ⟨(w.heap.size), 2, none⟩) (v := sl g n k) (by simp [go_sem]) (by simp [go_sem])); obtain ⟨r2c, r2z, r2l⟩ := r2.out; clear b1))
    go_ret2
    rw [KV.out]
    exact ⟨shareC f cl n, rfl, share_fl w, (by repeat (first | with_reducible refine Below.setCell ?_ (by first | omega | (simp <;> omega)) _ | with_reducible refine Below.drews ?_ | with_reducible refine Below.drew ?_ | with_reducible refine Below.alloc ?_ (by first | omega | (simp <;> omega)) _ | with_reducible exact B1.out | with_reducible exact Below.refl _ _))⟩
  · obtain ⟨W, Hh, hg1⟩ := gridB_of h1
    have n256 := hg1.n256
    have hgl := told_lt H.out (show 0 < n by have := hg1.n4; omega)
    have H1 := Hf.mk h1
    cases h2 : fin .f32 cl
    · have KV := Keep.mk (show shareB wd hg n f cl = false by unfold shareB; rw [h2, Bool.and_false])
      have H2 := Hf.mk h2
      clear h1 h2
      go_enter Try.func53, Try.ntmps53
      go_wp2_with (first | (go_at_call 60; refine (iValid_any _ (H.out.below (by repeat (first | exact Below.refl _ _ | with_reducible assumption | refine Below.drews ?_ | refine Below.drew ?_ | refine Below.alloc ?_ (by simp <;> omega) _ | refine Below.setCell ?_ (by simp <;> omega) _))) hl).mono ?_; rw [H1.out]; rintro e w1 ⟨rfl, b1⟩; have B1 := Hb.mk (Below.on (B := w.heap.size) (a := w) (by repeat (first | exact B0.out | refine Below.drews ?_ | refine Below.drew ?_ | refine Below.alloc ?_ (by have hq_ := B0.out.size; first | omega | (simp <;> omega)) _ | refine Below.setCell ?_ (by have hq_ := B0.out.size; first | omega | (simp <;> omega)) _)) b1 (by have hq_ := B0.out.size; first | omega | (simp <;> omega))); have r0 := Hb.mk (At.keep b1 (p := ⟨(w.heap.size), 0, none⟩) (v := .int .i64 wd) (by simp [go_sem]) (by simp [go_sem])); obtain ⟨r0c, r0z, r0l⟩ := r0.out; have r1 := Hb.mk (At.keep b1 (p := ⟨(w.heap.size), 1, none⟩) (v := .int .i64 hg) (by simp [go_sem]) (by simp [go_sem])); obtain ⟨r1c, r1z, r1l⟩ := r1.out; have r2 := Hb.mk (At.keep b1 (p := ⟨(w.heap.size), 2, none⟩) (v := sl g n k) (by simp [go_sem]) (by simp [go_sem])); obtain ⟨r2c, r2z, r2l⟩ := r2.out; clear b1) | (go_at_call 61; refine (iIsFinite_any hx _).mono ?_; rw [H2.out]; rintro e w' ⟨rfl, q1, rfl⟩))
      go_ret2
      rw [KV.out]
      exact ⟨shareC f cl n, rfl, share_fl w, (by repeat (first | with_reducible refine Below.setCell ?_ (by first | omega | (simp <;> omega)) _ | with_reducible refine Below.drews ?_ | with_reducible refine Below.drew ?_ | with_reducible refine Below.alloc ?_ (by first | omega | (simp <;> omega)) _ | with_reducible exact B1.out | with_reducible exact Below.refl _ _))⟩
    · have KV := Keep.mk (show shareB wd hg n f cl = true by unfold shareB; rw [h1, h2, Bool.true_and])
      have H2 := Hf.mk h2
      clear h1 h2
      go_enter Try.func53, Try.ntmps53
      go_wp2_with (first | (go_at_call 60; refine (iValid_any _ (H.out.below (by repeat (first | exact Below.refl _ _ | with_reducible assumption | refine Below.drews ?_ | refine Below.drew ?_ | refine Below.alloc ?_ (by simp <;> omega) _ | refine Below.setCell ?_ (by simp <;> omega) _))) hl).mono ?_; rw [H1.out]; rintro e w1 ⟨rfl, b1⟩; have B1 := Hb.mk (Below.on (B := w.heap.size) (a := w) (by repeat (first | exact B0.out | refine Below.drews ?_ | refine Below.drew ?_ | refine Below.alloc ?_ (by have hq_ := B0.out.size; first | omega | (simp <;> omega)) _ | refine Below.setCell ?_ (by have hq_ := B0.out.size; first | omega | (simp <;> omega)) _)) b1 (by have hq_ := B0.out.size; first | omega | (simp <;> omega))); have r0 := Hb.mk (At.keep b1 (p := ⟨(w.heap.size), 0, none⟩) (v := .int .i64 wd) (by simp [go_sem]) (by simp [go_sem])); obtain ⟨r0c, r0z, r0l⟩ := r0.out; have r1 := Hb.mk (At.keep b1 (p := ⟨(w.heap.size), 1, none⟩) (v := .int .i64 hg) (by simp [go_sem]) (by simp [go_sem])); obtain ⟨r1c, r1z, r1l⟩ := r1.out; have r2 := Hb.mk (At.keep b1 (p := ⟨(w.heap.size), 2, none⟩) (v := sl g n k) (by simp [go_sem]) (by simp [go_sem])); obtain ⟨r2c, r2z, r2l⟩ := r2.out; clear b1) | (go_at_call 61; refine (iIsFinite_any hx _).mono ?_; rw [H2.out]; rintro e w' ⟨rfl, q1, rfl⟩))
      go_loopw [6, 20] (fun s i wr => ∃ m : Nat, m ≤ n ∧ s = .int .i64 (cntF f cl m : Nat) ∧ i = .int .i64 m ∧ Drew w1 wr) (fun _ i _ => n - (intOf i).toNat)
      case atStart => exact ⟨0, by omega, rfl, rfl, (by repeat (first | exact Drew.refl _ | refine Drew.more ?_))⟩
      case round =>
        obtain ⟨m, hm, rfl, rfl, q, rfl⟩ := hrel
        have hcl := cntF_le (f := f) (lv := cl) m
        by_cases hlt : m < n
        · obtain ⟨r, hc, hf⟩ := (H.out.below B1.out) m hlt
          cases hv : fcmp .geq .f32 (f m) cl
          · have HM := Hf.mk (cntF_no hv)
            go_wp2_with (first | (refine wpList_fcmp rfl rfl rfl rfl rfl (by first | (with_reducible assumption) | (with_reducible exact Fl.ofInt _ _) | exact Fl.not (by decide +kernel) (by decide +kernel)) (by first | (with_reducible assumption) | (with_reducible exact Fl.ofInt _ _) | exact Fl.not (by decide +kernel) (by decide +kernel)) ?_; simp only [Act.put, List.setIfInBounds_toArray, List.set_cons_succ, List.set_cons_zero, hv]))
            go_roundw
            case rel => exact ⟨m + 1, by omega, by rw [HM.out], i_ext2 (by omega), (by repeat (first | exact Drew.refl _ | refine Drew.more ?_))⟩
            case measure => simp [intOf]; omega
          · have HM := Hf.mk (cntF_yes hv)
            go_wp2_with (first | (refine wpList_fcmp rfl rfl rfl rfl rfl (by first | (with_reducible assumption) | (with_reducible exact Fl.ofInt _ _) | exact Fl.not (by decide +kernel) (by decide +kernel)) (by first | (with_reducible assumption) | (with_reducible exact Fl.ofInt _ _) | exact Fl.not (by decide +kernel) (by decide +kernel)) ?_; simp only [Act.put, List.setIfInBounds_toArray, List.set_cons_succ, List.set_cons_zero, hv]))
            go_roundw
            case rel => exact ⟨m + 1, by omega, i_ext2 (by rw [HM.out]; omega), i_ext2 (by omega), (by repeat (first | exact Drew.refl _ | refine Drew.more ?_))⟩
            case measure => simp [intOf]; omega
        · obtain rfl : m = n := by omega
          have tk_a : True := trivial
          go_wp2_with (first | (clear tk_a; refine wpList_fop rfl rfl rfl rfl rfl (by first | (with_reducible assumption) | (with_reducible exact Fl.ofInt _ _) | exact Fl.not (by decide +kernel) (by decide +kernel)) (by first | (with_reducible assumption) | (with_reducible exact Fl.ofInt _ _) | exact Fl.not (by decide +kernel) (by decide +kernel)) ?_; intro a n_a h_a; simp only [Act.put, List.setIfInBounds_toArray, List.set_cons_succ, List.set_cons_zero]))
          go_ret2
          rw [KV.out]
          exact ⟨_, rfl, h_a, (by repeat (first | with_reducible refine Below.setCell ?_ (by first | omega | (simp <;> omega)) _ | with_reducible refine Below.drews ?_ | with_reducible refine Below.drew ?_ | with_reducible refine Below.alloc ?_ (by first | omega | (simp <;> omega)) _ | with_reducible exact B1.out | with_reducible exact Below.refl _ _))⟩
def sumF (f : Nat → Nat) : Nat → Nat
  | 0 => 0
  | m + 1 => fop .add .f32 (sumF f m) (f m)
theorem sumN_F {xs : List Nat} : ∀ m, sumN xs m = sumF (hF xs) m := by
  intro m
  induction m with
  | zero => rfl
  | succ m ih => show fop .add .f32 (sumN xs m) _ = fop .add .f32 (sumF (hF xs) m) _; rw [ih]; rfl
def meanC (f : Nat → Nat) (n : Nat) : Nat := fop .quo .f32 (sumF f n) (floatOfInt .f32 (n : Nat))
def sqrF (f : Nat → Nat) (c : Nat) : Nat → Nat
  | 0 => 0
  | m + 1 => fop .add .f32 (sqrF f c m) (fop .mul .f32 (fop .sub .f32 (f m) c) (fop .sub .f32 (f m) c))
def roughC (f : Nat → Nat) (n : Nat) : Nat := rootC (fop .quo .f32 (sqrF f (meanC f n) n) (floatOfInt .f32 (n : Nat)))
def roughB (wd hg : Int) (n : Nat) (f : Nat → Nat) : Bool := gridB wd hg n f && fin .f32 (roughC f n)
end Go.Proofs.Ytcgmffpddahgoab
