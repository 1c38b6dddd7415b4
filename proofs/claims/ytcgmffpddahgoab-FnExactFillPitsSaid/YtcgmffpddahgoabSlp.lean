/-
  SlopeOfGrid, of the program and of the model: the numbers that it returns. No premise beyond those named.
-/
import Derived.Test.YtcgmffpddahgoabGmb
import Derived.Test.YtcgmffpddahgoabIn
import Derived.Deep.QuietTactic
namespace Go.Proofs.Ytcgmffpddahgoab
open Go Go.RowKit
set_option maxRecDepth 100000

theorem quiet_of2 {P : Program} {f : FuncId} {args : Array Value} {w : World} {q n : Nat} {v : Value}
    (h : Calls P f args (w.drewN (q + n)) fun e w' => e = .returned v ∧ ∃ m, w' = (w.drewN (q + n)).drewN m) : Calls P f args (w.drewN (q + n)) fun e w'' => e = .returned v ∧ ∃ m, w'' = w.drewN (q + m) :=
  h.mono fun _ _ ⟨he, m, hm⟩ => ⟨he, n + m, by rw [hm, World.drewN_drewN, Nat.add_assoc]⟩
theorem near_notN {k : FloatKind} (s : Bool) (m : Nat) (p : Int) : isN k (k.format.nearest s m p) = false := write_notNaN k.format (.number s m p) rfl
theorem fop_word {P : Program} {op : BinOp} (t : TypeId) {k : FloatKind} {x y : Nat} (hr : isN k (fop op k x y) = false) : ∀ w, (binOp op t (.float k x) (.float k y)).run P w = .ok (.float k (fop op k x y)) w := by
  intro w
  cases h : floatBits op k x y with
  | some r => rw [run_float_arith w op t k x y r h, fop_of_some h]
  | none =>
    rw [fop_of_none h, isN_qn] at hr
    cases hr
theorem sub_notN {k : FloatKind} {x y : Nat} (hx : fin k x = true) (hy : fin k y = true) : isN k (fop .sub k x y) = false := by rw [fop_sub_near hx hy]; exact near_notN _ _ _
theorem add_notN {k : FloatKind} {x y : Nat} (hx : fin k x = true) (hy : fin k y = true) : isN k (fop .add k x y) = false := by rw [fop_add_near hx hy]; exact near_notN _ _ _
theorem mul_notN {k : FloatKind} {x y : Nat} (hx : fin k x = true) (hy : fin k y = true) : isN k (fop .mul k x y) = false := by rw [fop_mul_near hx hy]; exact near_notN _ _ _
/-- A quotient by a number that is none of nought and no infinity. -/
theorem quo_notN {k : FloatKind} {x y n : Nat} {s : Bool} {q : Int} (hx : isN k x = false) (hy : k.format.read y = .number s n q) (hn : n ≠ 0) : isN k (fop .quo k x y) = false := by
  have hs : ∃ r, floatBits .quo k x y = some r := by
    unfold floatBits Ieee.Format.div
    dsimp only
    rw [hy]
    unfold isN at hx
    cases hd : k.format.read x with
    | number t m p => unfold Ieee.Datum.quotient; dsimp only; rw [if_neg hn]; exact ⟨_, rfl⟩
    | infinity t => exact ⟨_, rfl⟩
    | nan t m => rw [hd] at hx; cases hx
  obtain ⟨r, hr⟩ := hs
  rw [fop_of_some hr]
  exact floatBits_some hr
theorem read_one : FloatKind.f32.format.read 1065353216 = .number false 8388608 (-23) := by decide +kernel
theorem read_two : FloatKind.f32.format.read 1073741824 = .number false 8388608 (-22) := by decide +kernel
theorem quo_one {c r : Nat} (hc : Fl .f32 c r) : fop .quo .f32 c 1065353216 = c := by
  rcases three (k := .f32) c with h | h | h
  · obtain ⟨n, q, e, h1, h2, h3⟩ := nearest_self h (sgn .f32 c)
    obtain ⟨m', p', e', _, _, h4, _⟩ := read_fin h
    rw [e] at e'
    injection e' with _ e2 _
    subst e2
    have key : fop .quo .f32 c 1065353216 = FloatKind.f32.format.nearest (sgn .f32 c) n q := by
      refine fop_of_some ?_
      unfold floatBits Ieee.Format.div
      dsimp only
      rw [e, read_one]
      unfold Ieee.Datum.quotient
      dsimp only
      rw [if_neg (by decide)]
      have hlog : n.log2 ≤ 23 := by
        by_cases hn : n = 0
        · subst hn; decide
        · have : n < 2 ^ 24 := by have e3 : 2 * FloatKind.f32.format.binade = 2 ^ 24 := by decide +kernel
                                  omega
          have := (Nat.log2_lt hn).2 this
          omega
      rw [show FloatKind.f32.format.fractionBits = 23 from rfl, show (8388608 : Nat).log2 = 23 by decide +kernel, Nat.shiftLeft_eq]
      obtain ⟨d, hd⟩ : ∃ d, n.log2 + d = 25 := ⟨25 - n.log2, by omega⟩
      have e1 : n * 2 ^ (23 + 2 + 23 - n.log2) = n * 2 ^ d * 8388608 := by
        rw [show 23 + 2 + 23 - n.log2 = d + 23 by omega, Nat.pow_add, ← Nat.mul_assoc]
      rw [e1, Nat.mul_div_cancel _ (by decide), Nat.mul_mod_left]
      simp only [Option.map_some, bne_self_eq_false, Bool.toNat_false, Nat.add_zero]
      unfold Ieee.Format.write
      dsimp only
      rw [show 2 * (n * 2 ^ d) = n * 2 ^ (d + 1) by rw [Nat.pow_succ]; simp only [Nat.mul_comm, Nat.mul_left_comm]]
      rw [show (sgn .f32 c ^^ false) = sgn .f32 c by simp]
      congr 1
      exact nearest_scale' _ _ _ _ _ (d + 1) (by omega)
    rw [key]
    refine word_ext (k := .f32) ?_ hc.self.wf h3 (nearest_sgn _ _ _ _)
    exact wf_write .f32 (.number (sgn .f32 c) n q)
  · unfold isInf at h
    rw [beq_iff_eq, in32] at h
    have hl := hc.self.lt32
    unfold rung at h
    rw [sw32] at h
    rcases (by omega : c = 2139095040 ∨ c = 4286578688) with h | h <;> subst h <;> decide +kernel
  · rw [fop_nan_l h]
    have := hc.can
    rw [nrm_is h] at this
    exact this
/-- heights that are finite: their words -/
def Exact (w : World) (g n : Nat) (f : Nat → Nat) : Prop := ∀ j, j < n → w.cell? ⟨g, j, none⟩ = some (.float .f32 (f j))
theorem Told.exact {w : World} {g n : Nat} {f : Nat → Nat} (h : Told w g n f) (hf : finB n f = true) : Exact w g n f := fun j hj => by
  obtain ⟨r, hc, hr⟩ := h j hj
  unfold finB at hf
  rw [hc, hr.word (fin_notN (of_decide_eq_true hf j hj))]
theorem Exact.below {w w' : World} {g n : Nat} {f : Nat → Nat} (h : Exact w g n f) (b : Below w.heap.size w w') : Exact w' g n f := fun j hj => Below.keep b (h j hj)
theorem fin_at {n : Nat} {f : Nat → Nat} (hf : finB n f = true) {j : Nat} (hj : j < n) : fin .f32 (f j) = true := by
  unfold finB at hf
  exact of_decide_eq_true hf j hj
/-- a part of a slope -/
def partC (f : Nat → Nat) (i p m d : Nat) : Nat :=
  if p = 0 then fop .sub .f32 (f (i + d)) (f i) else if p + 1 = m then fop .sub .f32 (f i) (f (i - d)) else fop .quo .f32 (fop .sub .f32 (f (i + d)) (f (i - d))) 1073741824
theorem partC_0 {f : Nat → Nat} {i p m d : Nat} (h : p = 0) : partC f i p m d = fop .sub .f32 (f (i + d)) (f i) := by unfold partC; rw [if_pos h]
theorem partC_1 {f : Nat → Nat} {i p m d : Nat} (h : p ≠ 0) (h2 : p + 1 = m) : partC f i p m d = fop .sub .f32 (f i) (f (i - d)) := by unfold partC; rw [if_neg h, if_pos h2]
theorem partC_2 {f : Nat → Nat} {i p m d : Nat} (h : p ≠ 0) (h2 : p + 1 ≠ m) : partC f i p m d = fop .quo .f32 (fop .sub .f32 (f (i + d)) (f (i - d))) 1073741824 := by unfold partC; rw [if_neg h, if_neg h2]
/-- the slope at a place -/
def slX (f : Nat → Nat) (W i : Nat) : Nat := partC f i (i % W) W 1
def slY (f : Nat → Nat) (W Hh i : Nat) : Nat := partC f i (i / W) Hh W
theorem idx_facts {n W Hh i : Nat} (hn : n = W * Hh) (hi : i < n) (hw : 2 ≤ W) : i % W < W ∧ i / W < Hh ∧ (i % W + 1 ≠ W → i + 1 < n) ∧ (i % W ≠ 0 → 1 ≤ i) ∧ (i / W + 1 ≠ Hh → i + W < n) ∧ (i / W ≠ 0 → W ≤ i) := by
  have h1 := Nat.div_add_mod i W
  have h2 : i % W < W := Nat.mod_lt _ (by omega)
  have h3 : i / W < Hh := by
    apply Nat.div_lt_of_lt_mul
    omega
  generalize i % W = r at *
  generalize i / W = q at *
  have h4 : W * (q + 1) ≤ n := by rw [hn]; exact Nat.mul_le_mul_left _ h3
  rw [Nat.mul_add, Nat.mul_one] at h4
  refine ⟨h2, h3, fun _ => by omega, fun _ => by omega, fun hq => ?_, fun hq => ?_⟩
  · have h5 : W * (q + 2) ≤ n := by rw [hn]; exact Nat.mul_le_mul_left _ (by omega)
    rw [Nat.mul_add] at h5
    omega
  · have : W * 1 ≤ W * q := Nat.mul_le_mul_left _ (by omega)
    omega
/-! ## The program's -/
theorem partC_fl {f : Nat → Nat} (w : World) (hf : ∀ j, Fl .f32 (f j) (f j)) {i p m d : Nat} : Fl .f32 (partC f i p m d) (partC f i p m d) := by
  by_cases h0 : p = 0
  · rw [partC_0 h0]; exact own_fin w rfl rfl (hf _) (hf _)
  · by_cases h1 : p + 1 = m
    · rw [partC_1 h0 h1]; exact own_fin w rfl rfl (hf _) (hf _)
    · rw [partC_2 h0 h1]; exact own_fin w rfl rfl (own_fin w rfl rfl (hf _) (hf _)) (Fl.not (by decide +kernel) (by decide +kernel))
def upF (p : Nat) : Nat := if p = 0 then 0 else 1065353216
theorem f01 : fop .add .f32 0 1065353216 = 1065353216 := by decide +kernel
theorem f11 : fop .add .f32 1065353216 1065353216 = 1073741824 := by decide +kernel
theorem run_long1 {P : Program} (t : TypeId) : ∀ w, (binOp .add t (.float .f32 0) (.float .f32 1065353216)).run P w = .ok (.float .f32 1065353216) w := by
  have := fop_word (P := P) (op := .add) t (k := .f32) (x := 0) (y := 1065353216) (by rw [f01]; decide +kernel)
  rwa [f01] at this
theorem run_long2 {P : Program} (t : TypeId) : ∀ w, (binOp .add t (.float .f32 1065353216) (.float .f32 1065353216)).run P w = .ok (.float .f32 1073741824) w := by
  have := fop_word (P := P) (op := .add) t (k := .f32) (x := 1065353216) (y := 1065353216) (by rw [f11]; decide +kernel)
  rwa [f11] at this
theorem run_quo1 {P : Program} (t : TypeId) {x y : Nat} (hx : fin .f32 x = true) (hy : fin .f32 y = true) (hlx : Fl .f32 (fop .sub .f32 x y) (fop .sub .f32 x y)) : ∀ w, (binOp .quo t (.float .f32 (fop .sub .f32 x y)) (.float .f32 1065353216)).run P w = .ok (.float .f32 (fop .sub .f32 x y)) w := by
  have := fop_word (P := P) (op := .quo) t (k := .f32) (quo_notN (sub_notN hx hy) read_one (by decide))
  rwa [quo_one hlx] at this
/-! ## Complex numbers that are finite -/
theorem l01CFin_any {c d x y : Nat} (hx : Fl .f32 c x) (hy : Fl .f32 d y) (w : World) : Calls Try.prog 101 #[.complex .f32 x y] w (RB (fin .f32 c && fin .f32 d) w) := by
  cases h1 : fin .f32 c
  · have H1 := Hf.mk h1
    clear h1
    go_enter Try.func101, Try.ntmps101
    go_wp2_with (first | (go_at_call 56; refine (l01Finite_any hx _).mono ?_; rw [H1.out]; rintro e w' ⟨rfl, n, rfl⟩))
    go_ret
    exact RB.any rfl (by repeat (first | exact Drew.refl _ | refine Drew.more ?_))
  · have H1 := Hf.mk h1
    clear h1
    go_enter Try.func101, Try.ntmps101
    have tk_a : True := trivial; have tk_b : True := trivial
    go_wp2_with (first | (go_at_call 56; clear tk_a; refine (l01Finite_any hx _).mono ?_; rw [H1.out]; rintro e w' ⟨rfl, n, rfl⟩) | (go_at_call 56; clear tk_b; refine (l01Finite_any hy _).mono ?_; rintro e w' ⟨rfl, n, rfl⟩))
    go_ret
    exact RB.any rfl (by repeat (first | exact Drew.refl _ | refine Drew.more ?_))
theorem iCFin_any {c d x y : Nat} (hx : Fl .f32 c x) (hy : Fl .f32 d y) (w : World) : Calls Try.prog 64 #[.complex .f32 x y] w (RB (fin .f32 c && fin .f32 d) w) := by
  cases h1 : fin .f32 c
  · have H1 := Hf.mk h1
    clear h1
    go_enter Try.func64, Try.ntmps64
    go_wp2_with (first | (go_at_call 61; refine (iIsFinite_any hx _).mono ?_; rw [H1.out]; rintro e w' ⟨rfl, n, rfl⟩))
    go_ret
    exact RB.any rfl (by repeat (first | exact Drew.refl _ | refine Drew.more ?_))
  · have H1 := Hf.mk h1
    clear h1
    go_enter Try.func64, Try.ntmps64
    have tk_a : True := trivial; have tk_b : True := trivial
    go_wp2_with (first | (go_at_call 61; clear tk_a; refine (iIsFinite_any hx _).mono ?_; rw [H1.out]; rintro e w' ⟨rfl, n, rfl⟩) | (go_at_call 61; clear tk_b; refine (iIsFinite_any hy _).mono ?_; rintro e w' ⟨rfl, n, rfl⟩))
    go_ret
    exact RB.any rfl (by repeat (first | exact Drew.refl _ | refine Drew.more ?_))
end Go.Proofs.Ytcgmffpddahgoab
