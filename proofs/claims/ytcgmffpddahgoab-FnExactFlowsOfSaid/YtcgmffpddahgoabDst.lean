/-
  Places of a grid and how far they are apart, of the program and of the model. No premise beyond those named.
-/
import Derived.Test.YtcgmffpddahgoabLen
import Derived.Test.YtcgmffpddahgoabNei
import Derived.Laws.ComplexArith
namespace Go.Proofs.Ytcgmffpddahgoab
open Go Go.RowKit
set_option maxRecDepth 100000

theorem bits_fin {op : BinOp} {k : FloatKind} {x y : Nat} (h : fin k (fop op k x y) = true) : floatBits op k x y = some (fop op k x y) := by
  cases hb : floatBits op k x y with
  | some r => rw [fop_of_some hb]
  | none =>
    rw [fop_of_none hb] at h
    have := fin_notN h
    rw [isN_qn] at this
    exact absurd this (by decide)
theorem csub_fin {P : Program} (t : TypeId) {r i s j : Nat} (h1 : fin .f32 (fop .sub .f32 r s) = true) (h2 : fin .f32 (fop .sub .f32 i j) = true) : ∀ w, (binOp .sub t (.complex .f32 r i) (.complex .f32 s j)).run P w = .ok (.complex .f32 (fop .sub .f32 r s) (fop .sub .f32 i j)) w := by
  intro w
  exact run_complex_sum w .sub (.inr rfl) t .f32 r i s j _ _ (by unfold cSumBits; rw [bits_fin h1, bits_fin h2]; rfl)
def wfinOk : Bool := (List.range 31).all fun a => fin .f32 (wI ((a : Int) - 15))
theorem wfin_ok : wfinOk = true := by decide +kernel
theorem wI_fin {a : Int} (h1 : -15 ≤ a) (h2 : a ≤ 15) : fin .f32 (wI a) = true := by
  have h := wfin_ok
  unfold wfinOk at h
  have e := List.all_eq_true.1 h (a + 15).toNat (List.mem_range.2 (by omega))
  rwa [show (((a + 15).toNat : Nat) : Int) - 15 = a by omega] at e
/-- how far two places are apart -/
def dstC (W i k : Nat) : Nat := lngC (wI (((i % W : Nat) : Int) - ((k % W : Nat) : Int))) (wI (((i / W : Nat) : Int) - ((k / W : Nat) : Int)))
/-- what is known of two places of a grid -/
structure Two (W i k : Nat) : Prop where
  w0 : 0 < W
  a : i % W < 16
  b : k % W < 16
  c : i / W < 16
  d : k / W < 16
theorem two_of {n W Hh i k : Nat} (hn : n = W * Hh) (h2 : 2 ≤ W) (h16 : W ≤ 16) (g16 : Hh ≤ 16) (hi : i < n) (hk : k < n) : Two W i k := by
  have h1 : i % W < W := Nat.mod_lt _ (by omega)
  have h3 : k % W < W := Nat.mod_lt _ (by omega)
  have h4 : i / W < Hh := by apply Nat.div_lt_of_lt_mul; omega
  have h5 : k / W < Hh := by apply Nat.div_lt_of_lt_mul; omega
  exact ⟨by omega, by omega, by omega, by omega, by omega⟩
theorem Two.swap {W i k : Nat} (h : Two W i k) : Two W k i := ⟨h.w0, h.b, h.a, h.d, h.c⟩
theorem Two.fits {W i k : Nat} (h : Two W i k) : fits .f64 .f32 (fsqrt (pwC (wI (((i % W : Nat) : Int) - ((k % W : Nat) : Int))) (wI (((i / W : Nat) : Int) - ((k / W : Nat) : Int))))) = true := by
  have h1 := h.a; have h2 := h.b; have h3 := h.c; have h4 := h.d
  clear h
  generalize i % W = a at *
  generalize k % W = b at *
  generalize i / W = c at *
  generalize k / W = d at *
  exact (len_at (by omega) (by omega) (by omega) (by omega)).1
theorem Two.fin {W i k : Nat} (h : Two W i k) : fin .f32 (dstC W i k) = true := by
  have h1 := h.a; have h2 := h.b; have h3 := h.c; have h4 := h.d
  unfold dstC
  clear h
  generalize i % W = a at *
  generalize k % W = b at *
  generalize i / W = c at *
  generalize k / W = d at *
  exact (len_at (by omega) (by omega) (by omega) (by omega)).2.1
theorem Two.sym {W i k : Nat} (h : Two W i k) : dstC W k i = dstC W i k := by
  have h1 := h.a; have h2 := h.b; have h3 := h.c; have h4 := h.d
  unfold dstC
  clear h
  generalize i % W = a at *
  generalize k % W = b at *
  generalize i / W = c at *
  generalize k / W = d at *
  rw [← (len_at (a := (a : Int) - (b : Int)) (b := (c : Int) - (d : Int)) (by omega) (by omega) (by omega) (by omega)).2.2, show -((a : Int) - (b : Int)) = (b : Int) - (a : Int) by omega, show -((c : Int) - (d : Int)) = (d : Int) - (c : Int) by omega]
/-! ## Neighbours -/
def stepOk (x : Nat) : Bool := match FloatKind.f32.format.read x with
  | .number t n _ => !t && n != 0 && (!isN .f32 x && decide ((Lit.float .f32 x).wf = true))
  | _ => false
def nearOk : Bool := (List.range 3).all fun a => (List.range 3).all fun b => (a == 1 && b == 1) || stepOk (lngC (wI ((a : Int) - 1)) (wI ((b : Int) - 1)))
theorem near_ok : nearOk = true := by decide +kernel
theorem near_at {a b : Int} (h1 : -1 ≤ a) (h2 : a ≤ 1) (h3 : -1 ≤ b) (h4 : b ≤ 1) (h0 : a ≠ 0 ∨ b ≠ 0) : stepOk (lngC (wI a) (wI b)) = true := by
  have h := near_ok
  unfold nearOk at h
  have e := List.all_eq_true.1 (List.all_eq_true.1 h (a + 1).toNat (List.mem_range.2 (by omega))) (b + 1).toNat (List.mem_range.2 (by omega))
  rw [show (((a + 1).toNat : Nat) : Int) - 1 = a by omega, show (((b + 1).toNat : Nat) : Int) - 1 = b by omega, Bool.or_eq_true] at e
  rcases e with e | e
  · simp only [Bool.and_eq_true, beq_iff_eq] at e
    omega
  · exact e
theorem step_read' {x : Nat} (h : stepOk x = true) : ∃ n q, FloatKind.f32.format.read x = .number false n q ∧ n ≠ 0 := by
  unfold stepOk at h
  split at h
  · rename_i s n q hr
    rw [Bool.and_eq_true, Bool.and_eq_true] at h
    have hs : s = false := by simpa using h.1.1
    subst hs
    exact ⟨n, q, hr, by simpa using h.1.2⟩
  · cases h
theorem step_read {x : Nat} (h : stepOk x = true) : ∃ s n q, FloatKind.f32.format.read x = .number s n q ∧ n ≠ 0 := by
  obtain ⟨n, q, h1, h2⟩ := step_read' h
  exact ⟨_, n, q, h1, h2⟩
theorem step_fl {x : Nat} (h : stepOk x = true) : Fl .f32 x x := by
  unfold stepOk at h
  split at h
  · rw [Bool.and_eq_true, Bool.and_eq_true, Bool.and_eq_true] at h
    exact Fl.not (by simpa using h.2.1) (of_decide_eq_true h.2.2)
  · cases h
/-- how steeply a place falls to another one -/
def fallC (f : Nat → Nat) (W i k : Nat) : Nat := fop .quo .f32 (fop .sub .f32 (f i) (f k)) (dstC W i k)
/-- 'the other place is beside the one' -/
structure Beside (W i k : Nat) : Prop where
  two : Two W i k
  ne : k ≠ i
  a : k % W ≤ i % W + 1
  b : i % W ≤ k % W + 1
  c : k / W ≤ i / W + 1
  d : i / W ≤ k / W + 1
theorem Beside.step {W i k : Nat} (h : Beside W i k) : stepOk (dstC W i k) = true := by
  have h1 := h.a; have h2 := h.b; have h3 := h.c; have h4 := h.d
  refine near_at (by omega) (by omega) (by omega) (by omega) ?_
  rcases Nat.lt_trichotomy (i % W) (k % W) with h5 | h5 | h5
  · exact .inl (by omega)
  · rcases Nat.lt_trichotomy (i / W) (k / W) with h6 | h6 | h6
    · exact .inr (by omega)
    · exfalso
      apply h.ne
      rw [← Nat.div_add_mod k W, ← Nat.div_add_mod i W, h5, h6]
    · exact .inr (by omega)
  · exact .inl (by omega)
theorem nbs_beside {W Hh i n : Nat} {k : Int} (hn : n = W * Hh) (h2 : 2 ≤ W) (h16 : W ≤ 16) (g16 : Hh ≤ 16) (hi : i < n) (h : k ∈ nbs W Hh i) : ∃ j : Nat, k = (j : Int) ∧ j < n ∧ Beside W i j := by
  obtain ⟨j, rfl, hj, hne, a, b, c, d⟩ := nbs_mem hn (by omega) h
  exact ⟨j, rfl, hj, ⟨two_of hn h2 h16 g16 hi hj, hne, a, b, c, d⟩⟩
theorem fall_notN {f : Nat → Nat} {W i k : Nat} (h : Beside W i k) (h1 : fin .f32 (f i) = true) (h2 : fin .f32 (f k) = true) : isN .f32 (fallC f W i k) = false := by
  obtain ⟨s, n, q, hr, hn⟩ := step_read h.step
  exact quo_notN (sub_notN h1 h2) hr hn
theorem fall_fl {f : Nat → Nat} {W i k : Nat} (h : Beside W i k) (hf : ∀ j, Fl .f32 (f j) (f j)) (w : World) : Fl .f32 (fallC f W i k) (fallC f W i k) := own_fin w rfl rfl (own_fin w rfl rfl (hf _) (hf _)) (step_fl h.step)
/-! ## The model's -/
set_option maxHeartbeats 4000000 in
theorem l06Place_any {b W i : Nat} (w : World) (c0 : w.cell? ⟨b, 0, none⟩ = some (.int .i64 W)) (h0 : 0 < W) (hi : i ≤ 1048576) : Calls Try.prog 120 #[.pointer (some ⟨b, 0, none⟩), .int .i64 i] w (RT (.complex .f32 (wI ((i % W : Nat) : Int)) (wI ((i / W : Nat) : Int))) w) := by
  have hr : (i : Int).tmod (W : Int) = ((i % W : Nat) : Int) := rfl
  have hr2 : (i : Int) % (W : Int) = ((i % W : Nat) : Int) := rfl
  have hq : (i : Int).tdiv (W : Int) = ((i / W : Nat) : Int) := rfl
  have hq2 : (i : Int) / (W : Int) = ((i / W : Nat) : Int) := rfl
  have hy : i / W ≤ 1048576 := Nat.le_trans (Nat.div_le_self _ _) hi
  have hW0 : ¬ W = 0 := by omega
  have KV := Keep.mk (show ∀ x, wI x = floatOfInt .f32 x from fun _ => rfl)
  generalize i % W = qx at *
  generalize i / W = qy at *
  have hqw : IntKind.i64.wrap (qy : Int) = (qy : Int) := IntWalk.i64_in _ (by omega)
  go_enter Try.func120, Try.ntmps120
  go_wp2
  go_quiet (fail)
  go_wp2
  go_ret
  rw [KV.out, KV.out]
  exact RT.any (by repeat (first | exact Drew.refl _ | refine Drew.more ?_))
/-! ## The program's -/
set_option maxHeartbeats 4000000 in
theorem pointOf_any {W i : Nat} {hg : Int} (w : World) (h0 : 0 < W) (hi : i ≤ 1048576) : Calls Try.prog 123 #[.agg #[.int .i64 W, .int .i64 hg], .int .i64 i] w (RS (.complex .f32 (wI ((i % W : Nat) : Int)) (wI ((i / W : Nat) : Int))) w) := by
  have hr : (i : Int).tmod (W : Int) = ((i % W : Nat) : Int) := rfl
  have hr2 : (i : Int) % (W : Int) = ((i % W : Nat) : Int) := rfl
  have hq : (i : Int).tdiv (W : Int) = ((i / W : Nat) : Int) := rfl
  have hq2 : (i : Int) / (W : Int) = ((i / W : Nat) : Int) := rfl
  have hy : i / W ≤ 1048576 := Nat.le_trans (Nat.div_le_self _ _) hi
  have hW0 : ¬ W = 0 := by omega
  have KV := Keep.mk (show ∀ x, wI x = floatOfInt .f32 x from fun _ => rfl)
  generalize i % W = qx at *
  generalize i / W = qy at *
  have hqw : IntKind.i64.wrap (qy : Int) = (qy : Int) := IntWalk.i64_in _ (by omega)
  go_enter Try.func123, Try.ntmps123
  go_wp2
  go_quiet (fail)
  go_wp2
  go_ret
  rw [KV.out, KV.out]
  exact ⟨rfl, (by repeat (first | exact Below.refl _ _ | with_reducible assumption | refine Below.drews ?_ | refine Below.drew ?_ | refine Below.alloc ?_ (by simp <;> omega) _ | refine Below.setCell ?_ (by simp <;> omega) _))⟩
theorem lessPt_fin {r i s j : Nat} (h1 : fin .f32 r = true) (h2 : fin .f32 i = true) (h3 : fin .f32 s = true) (h4 : fin .f32 j = true) (w : World) : Calls Try.prog 125 #[.complex .f32 r i, .complex .f32 s j] w (RT (.complex .f32 (fop .sub .f32 r s) (fop .sub .f32 i j)) w) := by
  have mA := fop_word (P := Try.prog) 25 (sub_notN h1 h3)
  have mB := fop_word (P := Try.prog) 25 (sub_notN h2 h4)
  clear h1 h2 h3 h4
  go_enter Try.func125, Try.ntmps125
  go_wp2
  go_ret
  exact RT.any (by repeat (first | exact Drew.refl _ | refine Drew.more ?_))
set_option maxHeartbeats 4000000 in
theorem apart_any {W i k : Nat} {hg : Int} {v : Value} (w : World) (h : Two W i k) (hi : i ≤ 1048576) (hk : k ≤ 1048576) : Calls Try.prog 128 #[.agg #[.int .i64 W, .int .i64 hg, v], .int .i64 i, .int .i64 k] w (RS (.float .f32 (dstC W i k)) w) := by
  have K1 := Hb.mk (fun w => pointOf_any (hg := hg) w h.w0 hi)
  have K2 := Hb.mk (fun w => pointOf_any (hg := hg) w h.w0 hk)
  have KL : Hb (∀ w, Calls Try.prog 125 #[.complex .f32 (wI ((i % W : Nat) : Int)) (wI ((i / W : Nat) : Int)), .complex .f32 (wI ((k % W : Nat) : Int)) (wI ((k / W : Nat) : Int))] w (RT (.complex .f32 (wI (((i % W : Nat) : Int) - ((k % W : Nat) : Int))) (wI (((i / W : Nat) : Int) - ((k / W : Nat) : Int)))) w)) := by
    have h1 := h.a; have h2 := h.b; have h3 := h.c; have h4 := h.d
    clear K1 K2 h
    generalize i % W = a at *
    generalize k % W = b at *
    generalize i / W = c at *
    generalize k / W = d at *
    have KL := Hb.mk (fun w => lessPt_fin (wI_fin (a := (a : Int)) (by omega) (by omega)) (wI_fin (a := (c : Int)) (by omega) (by omega)) (wI_fin (a := (b : Int)) (by omega) (by omega)) (wI_fin (a := (d : Int)) (by omega) (by omega)) w)
    rwa [sub_wI h1 h2, sub_wI h3 h4] at KL
  have KG : Hb (∀ w, Calls Try.prog 124 #[.complex .f32 (wI (((i % W : Nat) : Int) - ((k % W : Nat) : Int))) (wI (((i / W : Nat) : Int) - ((k / W : Nat) : Int)))] w (RT (.float .f32 (dstC W i k)) w)) := Hb.mk (fun w => exactF (iLongOf_any (wI_fl _) (wI_fl _) h.fits w) h.fin)
  clear h
  generalize dstC W i k = D at *
  generalize wI (((i % W : Nat) : Int) - ((k % W : Nat) : Int)) = dx at *
  generalize wI (((i / W : Nat) : Int) - ((k / W : Nat) : Int)) = dy at *
  generalize wI ((i % W : Nat) : Int) = ix at *
  generalize wI ((i / W : Nat) : Int) = iy at *
  generalize wI ((k % W : Nat) : Int) = kx at *
  generalize wI ((k / W : Nat) : Int) = ky at *
  go_enter Try.func128, Try.ntmps128
  go_wp2
  refine region_all (by kernel_rfl) (by kernel_rfl) (fun I F hne HB hcl => ?_)
  have p0 := keepF HB (p := ⟨w.heap.size, 0, none⟩) (v := .int .i64 W) (by simp [go_sem])
  have p1 := keepF HB (p := ⟨w.heap.size, 1, none⟩) (v := .int .i64 hg) (by simp [go_sem])
  have p2 := keepF HB (p := ⟨w.heap.size, 2, none⟩) (v := v) (by simp [go_sem])
  repeat (quiet_step (first | (go_at_call 102; exact callS hcl (sides_any _ _ _ _)) | (go_at_call_of 123 (Value.int .i64 (i : Int)); exact callS hcl (K1.out _)) | (go_at_call_of 123 (Value.int .i64 (k : Int)); exact callS hcl (K2.out _)) | (go_at_call 125; exact callD hcl (KL.out _)) | (go_at_call 124; exact callD hcl (KG.out _))))
  refine wpQuiet_nil ?_
  intro _ hw'
  obtain ⟨iq, rfl⟩ := hw'
  clear hcl
  have E1 := Hb.mk (HB.out iq)
  go_wp2
  go_ret
  exact ⟨rfl, (by repeat (first | exact Below.refl _ _ | refine Below.on ?_ E1.out (by first | omega | (simp <;> omega)) | refine Below.drews ?_ | refine Below.drew ?_ | refine Below.alloc ?_ (by first | omega | (simp <;> omega)) _ | refine Below.setCell ?_ (by first | omega | (simp <;> omega)) _))⟩
end Go.Proofs.Ytcgmffpddahgoab
