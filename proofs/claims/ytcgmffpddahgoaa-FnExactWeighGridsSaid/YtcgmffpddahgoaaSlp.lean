/-
  SlopeOfGrid, of the program and of the model: the numbers that it returns. No premise beyond those named.
-/
import Derived.Test.YtcgmffpddahgoaaGmb
import Derived.Test.YtcgmffpddahgoaaIn
import Derived.Deep.QuietTactic
namespace Go.Proofs.Ytcgmffpddahgoaa
open Go Go.RowKit
set_option maxRecDepth 100000

theorem quiet_of2 {P : Program} {f : FuncId} {args : Array Value} {w : World} {q n : Nat} {v : Value}
    (h : Calls P f args (w.drewN (q + n)) fun e w' => e = .returned v ∧ ∃ m, w' = (w.drewN (q + n)).drewN m) : Calls P f args (w.drewN (q + n)) fun e w'' => e = .returned v ∧ ∃ m, w'' = w.drewN (q + m) :=
  h.mono fun _ _ ⟨he, m, hm⟩ => ⟨he, n + m, by rw [hm, World.drewN_drewN, Nat.add_assoc]⟩
theorem near_notN {k : FloatKind} (s : Bool) (m : Nat) (p : Int) : isN k (k.format.nearest s m p) = false := write_notNaN k.format (.number s m p) rfl
theorem fop_word {P : Program} {op : BinOp} (t : TypeId) {k : FloatKind} {x y : Nat} (hr : isN k (fop op k x y) = false) : ∀ w, (binOp op t (.float k x) (.float k y)).run P w = .ok (.float k (fop op k x y)) w := by
  intro w
  cases h : floatBits op k x y with
  | some r => rw [run_float_arith w op t k x y r h, fop_of_some h]
  | none =>
    rw [fop_of_none h, isN_qn] at hr
    cases hr
theorem sub_notN {k : FloatKind} {x y : Nat} (hx : fin k x = true) (hy : fin k y = true) : isN k (fop .sub k x y) = false := by rw [fop_sub_near hx hy]; exact near_notN _ _ _
theorem add_notN {k : FloatKind} {x y : Nat} (hx : fin k x = true) (hy : fin k y = true) : isN k (fop .add k x y) = false := by rw [fop_add_near hx hy]; exact near_notN _ _ _
theorem mul_notN {k : FloatKind} {x y : Nat} (hx : fin k x = true) (hy : fin k y = true) : isN k (fop .mul k x y) = false := by rw [fop_mul_near hx hy]; exact near_notN _ _ _
/-- A quotient by a number that is none of nought and no infinity. -/
theorem quo_notN {k : FloatKind} {x y n : Nat} {s : Bool} {q : Int} (hx : isN k x = false) (hy : k.format.read y = .number s n q) (hn : n ≠ 0) : isN k (fop .quo k x y) = false := by
  have hs : ∃ r, floatBits .quo k x y = some r := by
    unfold floatBits Ieee.Format.div
    dsimp only
    rw [hy]
    unfold isN at hx
    cases hd : k.format.read x with
    | number t m p => unfold Ieee.Datum.quotient; dsimp only; rw [if_neg hn]; exact ⟨_, rfl⟩
    | infinity t => exact ⟨_, rfl⟩
    | nan t m => rw [hd] at hx; cases hx
  obtain ⟨r, hr⟩ := hs
  rw [fop_of_some hr]
  exact floatBits_some hr
theorem read_one : FloatKind.f32.format.read 1065353216 = .number false 8388608 (-23) := by decide +kernel
theorem read_two : FloatKind.f32.format.read 1073741824 = .number false 8388608 (-22) := by decide +kernel
theorem quo_one {c r : Nat} (hc : Fl .f32 c r) : fop .quo .f32 c 1065353216 = c := by
  rcases three (k := .f32) c with h | h | h
  · obtain ⟨n, q, e, h1, h2, h3⟩ := nearest_self h (sgn .f32 c)
    obtain ⟨m', p', e', _, _, h4, _⟩ := read_fin h
    rw [e] at e'
    injection e' with _ e2 _
    subst e2
    have key : fop .quo .f32 c 1065353216 = FloatKind.f32.format.nearest (sgn .f32 c) n q := by
      refine fop_of_some ?_
      unfold floatBits Ieee.Format.div
      dsimp only
      rw [e, read_one]
      unfold Ieee.Datum.quotient
      dsimp only
      rw [if_neg (by decide)]
      have hlog : n.log2 ≤ 23 := by
        by_cases hn : n = 0
        · subst hn; decide
        · have : n < 2 ^ 24 := by have e3 : 2 * FloatKind.f32.format.binade = 2 ^ 24 := by decide +kernel
                                  omega
          have := (Nat.log2_lt hn).2 this
          omega
      rw [show FloatKind.f32.format.fractionBits = 23 from rfl, show (8388608 : Nat).log2 = 23 by decide +kernel, Nat.shiftLeft_eq]
      obtain ⟨d, hd⟩ : ∃ d, n.log2 + d = 25 := ⟨25 - n.log2, by omega⟩
      have e1 : n * 2 ^ (23 + 2 + 23 - n.log2) = n * 2 ^ d * 8388608 := by
        rw [show 23 + 2 + 23 - n.log2 = d + 23 by omega, Nat.pow_add, ← Nat.mul_assoc]
      rw [e1, Nat.mul_div_cancel _ (by decide), Nat.mul_mod_left]
      simp only [Option.map_some, bne_self_eq_false, Bool.toNat_false, Nat.add_zero]
      unfold Ieee.Format.write
      dsimp only
      rw [show 2 * (n * 2 ^ d) = n * 2 ^ (d + 1) by rw [Nat.pow_succ]; simp only [Nat.mul_comm, Nat.mul_left_comm]]
      rw [show (sgn .f32 c ^^ false) = sgn .f32 c by simp]
      congr 1
      exact nearest_scale' _ _ _ _ _ (d + 1) (by omega)
    rw [key]
    refine word_ext (k := .f32) ?_ hc.self.wf h3 (nearest_sgn _ _ _ _)
    exact wf_write .f32 (.number (sgn .f32 c) n q)
  · unfold isInf at h
    rw [beq_iff_eq, in32] at h
    have hl := hc.self.lt32
    unfold rung at h
    rw [sw32] at h
    rcases (by omega : c = 2139095040 ∨ c = 4286578688) with h | h <;> subst h <;> decide +kernel
  · rw [fop_nan_l h]
    have := hc.can
    rw [nrm_is h] at this
    exact this
/-- heights that are finite: their words -/
def Exact (w : World) (g n : Nat) (f : Nat → Nat) : Prop := ∀ j, j < n → w.cell? ⟨g, j, none⟩ = some (.float .f32 (f j))
theorem Told.exact {w : World} {g n : Nat} {f : Nat → Nat} (h : Told w g n f) (hf : finB n f = true) : Exact w g n f := fun j hj => by
  obtain ⟨r, hc, hr⟩ := h j hj
  unfold finB at hf
  rw [hc, hr.word (fin_notN (of_decide_eq_true hf j hj))]
theorem Exact.below {w w' : World} {g n : Nat} {f : Nat → Nat} (h : Exact w g n f) (b : Below w.heap.size w w') : Exact w' g n f := fun j hj => Below.keep b (h j hj)
theorem fin_at {n : Nat} {f : Nat → Nat} (hf : finB n f = true) {j : Nat} (hj : j < n) : fin .f32 (f j) = true := by
  unfold finB at hf
  exact of_decide_eq_true hf j hj
/-- a part of a slope -/
def partC (f : Nat → Nat) (i p m d : Nat) : Nat :=
  if p = 0 then fop .sub .f32 (f (i + d)) (f i) else if p + 1 = m then fop .sub .f32 (f i) (f (i - d)) else fop .quo .f32 (fop .sub .f32 (f (i + d)) (f (i - d))) 1073741824
theorem partC_0 {f : Nat → Nat} {i p m d : Nat} (h : p = 0) : partC f i p m d = fop .sub .f32 (f (i + d)) (f i) := by unfold partC; rw [if_pos h]
theorem partC_1 {f : Nat → Nat} {i p m d : Nat} (h : p ≠ 0) (h2 : p + 1 = m) : partC f i p m d = fop .sub .f32 (f i) (f (i - d)) := by unfold partC; rw [if_neg h, if_pos h2]
theorem partC_2 {f : Nat → Nat} {i p m d : Nat} (h : p ≠ 0) (h2 : p + 1 ≠ m) : partC f i p m d = fop .quo .f32 (fop .sub .f32 (f (i + d)) (f (i - d))) 1073741824 := by unfold partC; rw [if_neg h, if_neg h2]
set_option maxHeartbeats 4000000 in
theorem l06Part_any {b g n k : Nat} {f : Nat → Nat} {i p m d : Nat} (w : World) (c2 : w.cell? ⟨b, 2, none⟩ = some (sl g n k)) (h : Exact w g n f) (hf : finB n f = true) (hn : n ≤ 256) (hm : 2 ≤ m) (hp : p < m) (hi : i < n) (h0 : p + 1 ≠ m → i + d < n) (h1 : p ≠ 0 → d ≤ i) (hd : d ≤ 256) (hm2 : m ≤ 256) : Calls Try.prog 119 #[.pointer (some ⟨b, 0, none⟩), .int .i64 i, .int .i64 p, .int .i64 m, .int .i64 d] w (RT (.float .f32 (partC f i p m d)) w) := by
  have H := Hf.mk h
  have F := Hf.mk (fun j (hj : j < n) => fin_at hf hj)
  clear h hf
  by_cases hp0 : p = 0
  · subst hp0
    have hid := h0 (by omega)
    have KV := Keep.mk (partC_0 (f := f) (i := i) (m := m) (d := d) (p := 0) rfl)
    have e1 := H.out i hi
    have e2 := H.out (i + d) hid
    have mS := fop_word (P := Try.prog) 29 (sub_notN (F.out _ hid) (F.out _ hi))
    have hT : ((i : Int) + (d : Int)).toNat = i + d := by omega
    go_enter Try.func119, Try.ntmps119
    go_wp2
    go_quiet (fail)
    go_wp2
    go_ret
    rw [KV.out]
    exact RT.any (by repeat (first | exact Drew.refl _ | refine Drew.more ?_))
  · have hdi := h1 hp0
    have hT : ((i : Int) - (d : Int)).toNat = i - d := by omega
    have hb0 : ((p : Int) == 0) = false := by rw [beq_eq_false_iff_ne]; omega
    by_cases hpm : p + 1 = m
    · have KV := Keep.mk (partC_1 (f := f) (i := i) (m := m) (d := d) (p := p) hp0 hpm)
      have e1 := H.out i hi
      have e2 := H.out (i - d) (by omega)
      have mS := fop_word (P := Try.prog) 29 (sub_notN (F.out _ hi) (F.out (i - d) (by omega)))
      have hb1 : ((p : Int) == (m : Int) - 1) = true := by rw [beq_iff_eq]; omega
      go_enter Try.func119, Try.ntmps119
      go_wp2
      go_quiet (fail)
      go_wp2
      go_ret
      rw [KV.out]
      exact RT.any (by repeat (first | exact Drew.refl _ | refine Drew.more ?_))
    · have hid := h0 hpm
      have KV := Keep.mk (partC_2 (f := f) (i := i) (m := m) (d := d) (p := p) hp0 hpm)
      have e1 := H.out (i + d) hid
      have e2 := H.out (i - d) (by omega)
      have hS := sub_notN (F.out _ hid) (F.out (i - d) (by omega))
      have mS := fop_word (P := Try.prog) 29 hS
      have mQ := fop_word (P := Try.prog) 29 (quo_notN hS read_two (by decide))
      have hU : ((i : Int) + (d : Int)).toNat = i + d := by omega
      have hb1 : ((p : Int) == (m : Int) - 1) = false := by rw [beq_eq_false_iff_ne]; omega
      clear hS
      go_enter Try.func119, Try.ntmps119
      go_wp2
      go_quiet (fail)
      go_wp2
      go_ret
      rw [KV.out]
      exact RT.any (by repeat (first | exact Drew.refl _ | refine Drew.more ?_))
/-- the slope at a place -/
def slX (f : Nat → Nat) (W i : Nat) : Nat := partC f i (i % W) W 1
def slY (f : Nat → Nat) (W Hh i : Nat) : Nat := partC f i (i / W) Hh W
theorem idx_facts {n W Hh i : Nat} (hn : n = W * Hh) (hi : i < n) (hw : 2 ≤ W) : i % W < W ∧ i / W < Hh ∧ (i % W + 1 ≠ W → i + 1 < n) ∧ (i % W ≠ 0 → 1 ≤ i) ∧ (i / W + 1 ≠ Hh → i + W < n) ∧ (i / W ≠ 0 → W ≤ i) := by
  have h1 := Nat.div_add_mod i W
  have h2 : i % W < W := Nat.mod_lt _ (by omega)
  have h3 : i / W < Hh := by
    apply Nat.div_lt_of_lt_mul
    omega
  generalize i % W = r at *
  generalize i / W = q at *
  have h4 : W * (q + 1) ≤ n := by rw [hn]; exact Nat.mul_le_mul_left _ h3
  rw [Nat.mul_add, Nat.mul_one] at h4
  refine ⟨h2, h3, fun _ => by omega, fun _ => by omega, fun hq => ?_, fun hq => ?_⟩
  · have h5 : W * (q + 2) ≤ n := by rw [hn]; exact Nat.mul_le_mul_left _ (by omega)
    rw [Nat.mul_add] at h5
    omega
  · have : W * 1 ≤ W * q := Nat.mul_le_mul_left _ (by omega)
    omega
set_option maxHeartbeats 4000000 in
theorem l06Slope_any {b g n k : Nat} {wd hg : Int} {f : Nat → Nat} {W Hh i : Nat} (w : World) (c0 : w.cell? ⟨b, 0, none⟩ = some (.int .i64 wd)) (c1 : w.cell? ⟨b, 1, none⟩ = some (.int .i64 hg)) (c2 : w.cell? ⟨b, 2, none⟩ = some (sl g n k)) (h : Exact w g n f) (hG : Gr wd hg n f W Hh) (hi : i < n) : Calls Try.prog 93 #[.pointer (some ⟨b, 0, none⟩), .int .i64 i] w (RT (.complex .f32 (slX f W i) (slY f W Hh i)) w) := by
  obtain ⟨f1, f2, f3, f4, f5, f6⟩ := idx_facts hG.nn hi hG.w2
  have n256 := hG.n256
  have h16 := hG.w16
  have g16 := hG.h16
  have hW2 := hG.w2
  have hH2 := hG.h2
  obtain rfl := hG.w
  obtain rfl := hG.h
  have HX := Hf.mk (fun w' (hc : w'.cell? ⟨b, 2, none⟩ = some (sl g n k)) (h : Exact w' g n f) => l06Part_any (i := i) (p := i % W) (m := W) (d := 1) w' hc h hG.fin n256 hW2 f1 hi f3 f4 (by omega) (by omega))
  have HY := Hf.mk (fun w' (hc : w'.cell? ⟨b, 2, none⟩ = some (sl g n k)) (h : Exact w' g n f) => l06Part_any (i := i) (p := i / W) (m := Hh) (d := W) w' hc h hG.fin n256 hH2 f2 hi f5 f6 (by omega) (by omega))
  have H := Hf.mk h
  have KV := Keep.mk (show slX f W i = partC f i (i % W) W 1 ∧ slY f W Hh i = partC f i (i / W) Hh W from ⟨rfl, rfl⟩)
  have hr : (i : Int) % (W : Int) = ((i % W : Nat) : Int) := rfl
  have hq : (i : Int) / (W : Int) = ((i / W : Nat) : Int) := rfl
  have hW0 : ¬ W = 0 := by omega
  generalize slX f W i = sx at *
  generalize slY f W Hh i = sy at *
  generalize i % W = r at *
  generalize i / W = q at *
  have hqw : IntKind.i64.wrap (q : Int) = (q : Int) := IntWalk.i64_in _ (by omega)
  clear h
  go_enter Try.func93, Try.ntmps93
  go_wp2
  go_quiet ((first | (go_at_call 119; exact Calls.quiet_of (HX.out _ (by simp only [World.cell?_drewN, c2]) (H.out.below (Below.drews (Below.refl _ _)))))))
  go_wp2
  go_quiet ((first | (go_at_call 119; exact quiet_of2 (HY.out _ (by simp only [World.cell?_drewN, c2]) (H.out.below (Below.drews (Below.refl _ _)))))))
  go_wp2
  go_ret
  rw [KV.out.1, KV.out.2]
  exact RT.any (by repeat (first | exact Drew.refl _ | refine Drew.more ?_))
/-! ## The program's -/
theorem partC_fl {f : Nat → Nat} (w : World) (hf : ∀ j, Fl .f32 (f j) (f j)) {i p m d : Nat} : Fl .f32 (partC f i p m d) (partC f i p m d) := by
  by_cases h0 : p = 0
  · rw [partC_0 h0]; exact own_fin w rfl rfl (hf _) (hf _)
  · by_cases h1 : p + 1 = m
    · rw [partC_1 h0 h1]; exact own_fin w rfl rfl (hf _) (hf _)
    · rw [partC_2 h0 h1]; exact own_fin w rfl rfl (own_fin w rfl rfl (hf _) (hf _)) (Fl.not (by decide +kernel) (by decide +kernel))
def upF (p : Nat) : Nat := if p = 0 then 0 else 1065353216
theorem f01 : fop .add .f32 0 1065353216 = 1065353216 := by decide +kernel
theorem f11 : fop .add .f32 1065353216 1065353216 = 1073741824 := by decide +kernel
theorem run_long1 {P : Program} (t : TypeId) : ∀ w, (binOp .add t (.float .f32 0) (.float .f32 1065353216)).run P w = .ok (.float .f32 1065353216) w := by
  have := fop_word (P := P) (op := .add) t (k := .f32) (x := 0) (y := 1065353216) (by rw [f01]; decide +kernel)
  rwa [f01] at this
theorem run_long2 {P : Program} (t : TypeId) : ∀ w, (binOp .add t (.float .f32 1065353216) (.float .f32 1065353216)).run P w = .ok (.float .f32 1073741824) w := by
  have := fop_word (P := P) (op := .add) t (k := .f32) (x := 1065353216) (y := 1065353216) (by rw [f11]; decide +kernel)
  rwa [f11] at this
theorem run_quo1 {P : Program} (t : TypeId) {x y : Nat} (hx : fin .f32 x = true) (hy : fin .f32 y = true) (hlx : Fl .f32 (fop .sub .f32 x y) (fop .sub .f32 x y)) : ∀ w, (binOp .quo t (.float .f32 (fop .sub .f32 x y)) (.float .f32 1065353216)).run P w = .ok (.float .f32 (fop .sub .f32 x y)) w := by
  have := fop_word (P := P) (op := .quo) t (k := .f32) (quo_notN (sub_notN hx hy) read_one (by decide))
  rwa [quo_one hlx] at this
set_option maxHeartbeats 4000000 in
theorem rise_any {g n k : Nat} {wd hg : Int} {f : Nat → Nat} {i p m d : Nat} (w : World) (h : Exact w g n f) (hf : finB n f = true) (hfl : ∀ j, Fl .f32 (f j) (f j)) (hn : n ≤ 256) (hm : 2 ≤ m) (hp : p < m) (hi : i < n) (h0 : p + 1 ≠ m → i + d < n) (h1 : p ≠ 0 → d ≤ i) (hd : d ≤ 256) (hm2 : m ≤ 256) : Calls Try.prog 120 #[gd wd hg (sl g n k), .int .i64 i, .int .i64 p, .int .i64 m, .int .i64 d] w (RS (.float .f32 (partC f i p m d)) w) := by
  have H := Hf.mk h
  have F := Hf.mk (fun j (hj : j < n) => fin_at hf hj)
  have FL := Hf.mk hfl
  have hgl : g < w.heap.size := by have := block_lt_of_cell (h i hi); simpa using this
  clear h hf hfl
  have m1 := run_long1 (P := Try.prog) 29
  have m2 := run_long2 (P := Try.prog) 29
  by_cases hp0 : p = 0
  · subst hp0
    have hid := h0 (by omega)
    have KV := Keep.mk (partC_0 (f := f) (i := i) (m := m) (d := d) (p := 0) rfl)
    have e1 := H.out i hi
    have e2 := H.out (i + d) hid
    have mS := fop_word (P := Try.prog) 29 (sub_notN (F.out _ hid) (F.out _ hi))
    have mQ := run_quo1 (P := Try.prog) 29 (F.out _ hid) (F.out _ hi) (own_fin w rfl rfl (FL.out _) (FL.out _))
    have hT : ((i : Int) + (d : Int)).toNat = i + d := by omega
    have hU : ((i : Int)).toNat = i := by omega
    go_enter Try.func120, Try.ntmps120
    go_wp2
    go_quiet (fail)
    go_wp2
    go_ret
    rw [KV.out]
    exact ⟨rfl, (by repeat (first | exact Below.refl _ _ | with_reducible assumption | refine Below.drews ?_ | refine Below.drew ?_ | refine Below.alloc ?_ (by simp <;> omega) _ | refine Below.setCell ?_ (by simp <;> omega) _))⟩
  · have hdi := h1 hp0
    have hT : ((i : Int) - (d : Int)).toNat = i - d := by omega
    by_cases hpm : p + 1 = m
    · have KV := Keep.mk (partC_1 (f := f) (i := i) (m := m) (d := d) (p := p) hp0 hpm)
      have e1 := H.out i hi
      have e2 := H.out (i - d) (by omega)
      have mS := fop_word (P := Try.prog) 29 (sub_notN (F.out _ hi) (F.out (i - d) (by omega)))
      have mQ := run_quo1 (P := Try.prog) 29 (F.out _ hi) (F.out (i - d) (by omega)) (own_fin w rfl rfl (FL.out _) (FL.out _))
      go_enter Try.func120, Try.ntmps120
      go_wp2
      go_quiet (fail)
      go_wp2
      go_ret
      rw [KV.out]
      exact ⟨rfl, (by repeat (first | exact Below.refl _ _ | with_reducible assumption | refine Below.drews ?_ | refine Below.drew ?_ | refine Below.alloc ?_ (by simp <;> omega) _ | refine Below.setCell ?_ (by simp <;> omega) _))⟩
    · have hid := h0 hpm
      have KV := Keep.mk (partC_2 (f := f) (i := i) (m := m) (d := d) (p := p) hp0 hpm)
      have e1 := H.out (i + d) hid
      have e2 := H.out (i - d) (by omega)
      have hS := sub_notN (F.out _ hid) (F.out (i - d) (by omega))
      have mS := fop_word (P := Try.prog) 29 hS
      have mQ := fop_word (P := Try.prog) 29 (quo_notN hS read_two (by decide))
      have hU : ((i : Int) + (d : Int)).toNat = i + d := by omega
      clear hS
      go_enter Try.func120, Try.ntmps120
      go_wp2
      go_quiet (fail)
      go_wp2
      go_ret
      rw [KV.out]
      exact ⟨rfl, (by repeat (first | exact Below.refl _ _ | with_reducible assumption | refine Below.drews ?_ | refine Below.drew ?_ | refine Below.alloc ?_ (by simp <;> omega) _ | refine Below.setCell ?_ (by simp <;> omega) _))⟩
/-! ## Complex numbers that are finite -/
theorem l01CFin_any {c d x y : Nat} (hx : Fl .f32 c x) (hy : Fl .f32 d y) (w : World) : Calls Try.prog 94 #[.complex .f32 x y] w (RB (fin .f32 c && fin .f32 d) w) := by
  cases h1 : fin .f32 c
  · have H1 := Hf.mk h1
    clear h1
    go_enter Try.func94, Try.ntmps94
    go_wp2_with (first | (go_at_call 89; refine (l01Finite_any hx _).mono ?_; rw [H1.out]; rintro e w' ⟨rfl, n, rfl⟩))
    go_ret
    exact RB.any rfl (by repeat (first | exact Drew.refl _ | refine Drew.more ?_))
  · have H1 := Hf.mk h1
    clear h1
    go_enter Try.func94, Try.ntmps94
    have tk_a : True := trivial; have tk_b : True := trivial
    go_wp2_with (first | (go_at_call 89; clear tk_a; refine (l01Finite_any hx _).mono ?_; rw [H1.out]; rintro e w' ⟨rfl, n, rfl⟩) | (go_at_call 89; clear tk_b; refine (l01Finite_any hy _).mono ?_; rintro e w' ⟨rfl, n, rfl⟩))
    go_ret
    exact RB.any rfl (by repeat (first | exact Drew.refl _ | refine Drew.more ?_))
theorem iCFin_any {c d x y : Nat} (hx : Fl .f32 c x) (hy : Fl .f32 d y) (w : World) : Calls Try.prog 144 #[.complex .f32 x y] w (RB (fin .f32 c && fin .f32 d) w) := by
  cases h1 : fin .f32 c
  · have H1 := Hf.mk h1
    clear h1
    go_enter Try.func144, Try.ntmps144
    go_wp2_with (first | (go_at_call 76; refine (iIsFinite_any hx _).mono ?_; rw [H1.out]; rintro e w' ⟨rfl, n, rfl⟩))
    go_ret
    exact RB.any rfl (by repeat (first | exact Drew.refl _ | refine Drew.more ?_))
  · have H1 := Hf.mk h1
    clear h1
    go_enter Try.func144, Try.ntmps144
    have tk_a : True := trivial; have tk_b : True := trivial
    go_wp2_with (first | (go_at_call 76; clear tk_a; refine (iIsFinite_any hx _).mono ?_; rw [H1.out]; rintro e w' ⟨rfl, n, rfl⟩) | (go_at_call 76; clear tk_b; refine (iIsFinite_any hy _).mono ?_; rintro e w' ⟨rfl, n, rfl⟩))
    go_ret
    exact RB.any rfl (by repeat (first | exact Drew.refl _ | refine Drew.more ?_))
theorem finPt_any {c d : Nat} (hx : Fl .f32 c c) (hy : Fl .f32 d d) (w : World) : Calls Try.prog 121 #[.complex .f32 c d, .bool true] w (RT (cT (fin .f32 c && fin .f32 d) c d) w) := by
  have HC := Hf.mk (fun w => iCFin_any hx hy w)
  cases h1 : (fin .f32 c && fin .f32 d)
  all_goals
    rw [h1] at HC
    clear h1
    go_enter Try.func121, Try.ntmps121
    go_wp2_with (first | (go_at_call 144; refine (HC.out _).mono ?_; rintro e w' ⟨rfl, n, rfl⟩))
    go_ret2
    exact RT.any (by repeat (first | exact Drew.refl _ | refine Drew.more ?_))
set_option maxHeartbeats 4000000 in
theorem slopeAt_any {g n k : Nat} {wd hg : Int} {f : Nat → Nat} {W Hh i : Nat} (w : World) (h : Exact w g n f) (hfl : ∀ j, Fl .f32 (f j) (f j)) (hG : Gr wd hg n f W Hh) (hi : i < n) : Calls Try.prog 95 #[gd wd hg (sl g n k), .int .i64 i] w (RS (cT (fin .f32 (slX f W i) && fin .f32 (slY f W Hh i)) (slX f W i) (slY f W Hh i)) w) := by
  obtain ⟨f1, f2, f3, f4, f5, f6⟩ := idx_facts hG.nn hi hG.w2
  have n256 := hG.n256
  have h16 := hG.w16
  have g16 := hG.h16
  have hW2 := hG.w2
  have hH2 := hG.h2
  obtain rfl := hG.w
  obtain rfl := hG.h
  have HX := Hf.mk (fun w' (h : Exact w' g n f) => rise_any (k := k) (wd := W) (hg := Hh) (i := i) (p := i % W) (m := W) (d := 1) w' h hG.fin hfl n256 hW2 f1 hi f3 f4 (by omega) (by omega))
  have HY := Hf.mk (fun w' (h : Exact w' g n f) => rise_any (k := k) (wd := W) (hg := Hh) (i := i) (p := i / W) (m := Hh) (d := W) w' h hG.fin hfl n256 hH2 f2 hi f5 f6 (by omega) (by omega))
  have H := Hf.mk h
  have KV := Keep.mk (show slX f W i = partC f i (i % W) W 1 ∧ slY f W Hh i = partC f i (i / W) Hh W from ⟨rfl, rfl⟩)
  have SX := Hf.mk (partC_fl w hfl (i := i) (p := i % W) (m := W) (d := 1))
  have SY := Hf.mk (partC_fl w hfl (i := i) (p := i / W) (m := Hh) (d := W))
  have hr : (i : Int).tmod (W : Int) = ((i % W : Nat) : Int) := rfl
  have hq : (i : Int).tdiv (W : Int) = ((i / W : Nat) : Int) := rfl
  have hW0 : ¬ W = 0 := by omega
  generalize slX f W i = sx at *
  generalize slY f W Hh i = sy at *
  generalize i % W = r at *
  generalize i / W = q at *
  have hqw : IntKind.i64.wrap (q : Int) = (q : Int) := IntWalk.i64_in _ (by omega)
  have B0 := Hb.mk (Below.refl w.heap.size w)
  clear h
  go_enter Try.func95, Try.ntmps95
  go_wp2
  refine region_all (by kernel_rfl) (by kernel_rfl) (fun I F hne HB hcl => ?_)
  have p0 := keepF HB (p := ⟨w.heap.size, 0, none⟩) (v := .int .i64 W) (by simp)
  have p1 := keepF HB (p := ⟨w.heap.size, 1, none⟩) (v := .int .i64 Hh) (by simp)
  have p2 := keepF HB (p := ⟨w.heap.size, 2, none⟩) (v := sl g n k) (by simp)
  have HA := H.out.below (show Below w.heap.size w (w.alloc (.cells #[.int .i64 W, .int .i64 Hh, sl g n k] 26)) from (Below.refl _ _).alloc (Nat.le_refl _) _)
  have HE := Hb.mk (fun i => HA.below (HB.out i))
  clear HA
  repeat (quiet_step (first | (go_at_call 120; exact callS hcl (HX.out _ (HE.out _)))))
  refine wpQuiet_nil ?_
  intro _ hw'
  obtain ⟨iq, rfl⟩ := hw'
  have HA := HE.out iq
  have b1 := HB.out iq
  have B1 := Hb.mk (Below.on (B := w.heap.size) (a := w) (by repeat (first | exact B0.out | refine Below.drews ?_ | refine Below.drew ?_ | refine Below.alloc ?_ (by have hq_ := B0.out.size; first | omega | (simp <;> omega)) _ | refine Below.setCell ?_ (by have hq_ := B0.out.size; first | omega | (simp <;> omega)) _)) b1 (by have hq_ := B0.out.size; first | omega | (simp <;> omega)))
  clear b1
  have q0 := p0 iq
  have q1 := p1 iq
  have q2 := p2 iq
  have z0 : (F iq).frozen? ⟨w.heap.size, 0, none⟩ = false := keepZ HB (by simp) (by simp) iq
  generalize F iq = W1 at *
  clear HE HB hcl p0 p1 p2
  go_wp2
  refine region_all (by kernel_rfl) (by kernel_rfl) (fun I F hne HB hcl => ?_)
  have p0 := keepF HB q0
  have p1 := keepF HB q1
  have p2 := keepF HB q2
  have HE := Hb.mk (fun i => HA.below (HB.out i))
  repeat (quiet_step (first | (go_at_call 120; exact callS hcl (HY.out _ (HE.out _)))))
  refine wpQuiet_nil ?_
  intro _ hw'
  obtain ⟨iq, rfl⟩ := hw'
  have b2 := HB.out iq
  have B2 := Hb.mk (Below.on (B := w.heap.size) (a := w) (by repeat (first | exact B1.out | refine Below.drews ?_ | refine Below.drew ?_ | refine Below.alloc ?_ (by have hq_ := B1.out.size; first | omega | (simp <;> omega)) _ | refine Below.setCell ?_ (by have hq_ := B1.out.size; first | omega | (simp <;> omega)) _)) b2 (by have hq_ := B1.out.size; first | omega | (simp <;> omega)))
  clear b2
  generalize F iq = W2 at *
  clear HE HB hcl p0 p1 p2 q0 q1 q2 z0 HA
  have KF := Hf.mk (fun w => finPt_any SX.out SY.out w)
  cases hb : (fin .f32 (partC f i r W 1) && fin .f32 (partC f i q Hh W))
  all_goals
    rw [hb] at KF
    have HV := Hf.mk hb
    clear hb
    simp only [cT, if_true, if_false, Bool.false_eq_true] at KF
    go_wp2_with (first | (go_at_call 121; refine (KF.out _).mono ?_; rintro e w' ⟨rfl, n, rfl⟩))
    go_ret2
    rw [KV.out.1, KV.out.2, HV.out]
    exact ⟨rfl, (by repeat (first | with_reducible refine Below.setCell ?_ (by first | omega | (simp <;> omega)) _ | with_reducible refine Below.drews ?_ | with_reducible refine Below.drew ?_ | with_reducible refine Below.alloc ?_ (by first | omega | (simp <;> omega)) _ | with_reducible exact B2.out | with_reducible exact Below.refl _ _))⟩
end Go.Proofs.Ytcgmffpddahgoaa
