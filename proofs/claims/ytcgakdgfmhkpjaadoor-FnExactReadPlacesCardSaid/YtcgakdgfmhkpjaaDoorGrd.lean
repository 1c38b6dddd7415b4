/-
  Grids: copied, compared, measured, marked, held, and whether one is valid, of the program and of the model. No premise beyond those named.
-/
import Derived.Test.YtcgakdgfmhkpjaaDoorLst
namespace Go.Proofs.YtcgakdgfmhkpjaaDoor
open Go Go.RowKit
set_option maxRecDepth 100000

abbrev gd (wd hg : Int) (s : Value) : Value := .agg #[.int .i64 wd, .int .i64 hg, s]
abbrev sl (g n k : Nat) : Value := .slice (some ⟨g, 0, none⟩) n k
theorem FRow.drw {w w' : World} {a : Option Addr} {xs : List Nat} (h : FRow w a xs) (d : Drew w w') : FRow w' a xs := by
  obtain ⟨n, rfl⟩ := d; exact h.drew n
theorem gb_of {w w' : World} {g : Option Nat} (h : Below w.heap.size w w') : w.grownBy w' g := ⟨h.os, h.tape, h.output, h.size, fun k hk _ => h.block k hk⟩
def sideB (wd hg : Int) : Bool := decide (2 ≤ wd ∧ wd ≤ 16 ∧ 2 ≤ hg ∧ hg ≤ 16)
def gridB (wd hg : Int) (n : Nat) (f : Nat → Nat) : Bool := sideB wd hg && (decide ((n : Int) = wd * hg) && finB n f)
theorem sideB_no {wd hg : Int} (h : ¬ (2 ≤ wd ∧ wd ≤ 16 ∧ 2 ≤ hg ∧ hg ≤ 16)) : sideB wd hg = false := by unfold sideB; rw [decide_eq_false_iff_not]; exact h
theorem sideB_yes {wd hg : Int} (h1 : 2 ≤ wd) (h2 : wd ≤ 16) (h3 : 2 ≤ hg) (h4 : hg ≤ 16) : sideB wd hg = true := by unfold sideB; rw [decide_eq_true_iff]; exact ⟨h1, h2, h3, h4⟩
/-- what a valid grid is -/
structure Gr (wd hg : Int) (n : Nat) (f : Nat → Nat) (W Hh : Nat) : Prop where
  w : wd = (W : Int)
  h : hg = (Hh : Int)
  w2 : 2 ≤ W
  w16 : W ≤ 16
  h2 : 2 ≤ Hh
  h16 : Hh ≤ 16
  nn : n = W * Hh
  fin : finB n f = true
theorem gridB_of {wd hg : Int} {n : Nat} {f : Nat → Nat} (h : gridB wd hg n f = true) : ∃ W Hh, Gr wd hg n f W Hh := by
  unfold gridB sideB at h
  simp only [Bool.and_eq_true, decide_eq_true_eq] at h
  obtain ⟨⟨h1, h2, h3, h4⟩, h5, h6⟩ := h
  refine ⟨wd.toNat, hg.toNat, ⟨by omega, by omega, by omega, by omega, by omega, by omega, ?_, h6⟩⟩
  have e1 : ((wd.toNat : Nat) : Int) = wd := Int.toNat_of_nonneg (by omega)
  have e2 : ((hg.toNat : Nat) : Int) = hg := Int.toNat_of_nonneg (by omega)
  have : (n : Int) = ((wd.toNat * hg.toNat : Nat) : Int) := by rw [h5, Int.natCast_mul, e1, e2]
  exact Int.ofNat.inj this
theorem Gr.n256 {wd hg : Int} {n : Nat} {f : Nat → Nat} {W Hh : Nat} (h : Gr wd hg n f W Hh) : n ≤ 256 := by rw [h.nn]; exact Nat.mul_le_mul h.w16 h.h16
theorem Gr.n4 {wd hg : Int} {n : Nat} {f : Nat → Nat} {W Hh : Nat} (h : Gr wd hg n f W Hh) : 4 ≤ n := by rw [h.nn]; exact Nat.mul_le_mul h.w2 h.h2
theorem l06Sides_any (wd hg : Int) (w : World) : Calls Tryd.prog 82 #[.int .i64 wd, .int .i64 hg] w (RB (sideB wd hg) w) := by
  by_cases h1 : wd < 2 ∨ 16 < wd
  · have KV := Keep.mk (sideB_no (wd := wd) (hg := hg) (by omega))
    go_enter Tryd.func82, Tryd.ntmps82
    go_wp2_with (first | (go_at_call 118; refine (l00In_no h1 _).mono ?_; rintro e w' ⟨rfl, n, rfl⟩))
    go_ret
    rw [KV.out]
    exact RB.any rfl (by repeat (first | exact Drew.refl _ | refine Drew.more ?_))
  · have a0 : 2 ≤ wd := by omega
    have a1 : wd ≤ 16 := by omega
    by_cases h2 : hg < 2 ∨ 16 < hg
    · have KV := Keep.mk (sideB_no (wd := wd) (hg := hg) (by omega))
      go_enter Tryd.func82, Tryd.ntmps82
      have tk_a : True := trivial; have tk_b : True := trivial
      go_wp2_with (first | (go_at_call 118; clear tk_a; refine (l00In_yes a0 a1 _).mono ?_; rintro e w' ⟨rfl, n, rfl⟩) | (go_at_call 118; clear tk_b; refine (l00In_no h2 _).mono ?_; rintro e w' ⟨rfl, n, rfl⟩))
      go_ret
      rw [KV.out]
      exact RB.any rfl (by repeat (first | exact Drew.refl _ | refine Drew.more ?_))
    · have b0 : 2 ≤ hg := by omega
      have b1 : hg ≤ 16 := by omega
      have KV := Keep.mk (sideB_yes a0 a1 b0 b1)
      go_enter Tryd.func82, Tryd.ntmps82
      have tk_a : True := trivial; have tk_b : True := trivial
      go_wp2_with (first | (go_at_call 118; clear tk_a; refine (l00In_yes a0 a1 _).mono ?_; rintro e w' ⟨rfl, n, rfl⟩) | (go_at_call 118; clear tk_b; refine (l00In_yes b0 b1 _).mono ?_; rintro e w' ⟨rfl, n, rfl⟩))
      go_ret
      rw [KV.out]
      exact RB.any rfl (by repeat (first | exact Drew.refl _ | refine Drew.more ?_))
theorem areValid_any (wd hg : Int) (w : World) : Calls Tryd.prog 86 #[.agg #[.int .i64 wd, .int .i64 hg]] w (RS (.bool (sideB wd hg)) w) := by
  go_enter Tryd.func86, Tryd.ntmps86
  go_wp2
  all_goals
    go_ret
    refine ⟨ret_b ?_, (by repeat (first | exact Below.refl _ _ | with_reducible assumption | refine Below.drews ?_ | refine Below.drew ?_ | refine Below.alloc ?_ (by simp <;> omega) _ | refine Below.setCell ?_ (by simp <;> omega) _))⟩
    unfold sideB
    rw [Bool.eq_iff_iff]
    simp
    try omega
theorem sides_any (wd hg : Int) (s : Value) (w : World) : Calls Tryd.prog 85 #[gd wd hg s] w (RS (.agg #[.int .i64 wd, .int .i64 hg]) w) := by
  go_enter Tryd.func85, Tryd.ntmps85
  go_wp2
  exact bodyPost_ret (v := .agg #[.int .i64 wd, .int .i64 hg]) (by simp [results, Tryd.results85, go_sem]) rfl ⟨rfl, (by repeat (first | exact Below.refl _ _ | with_reducible assumption | refine Below.drews ?_ | refine Below.drew ?_ | refine Below.alloc ?_ (by simp <;> omega) _ | refine Below.setCell ?_ (by simp <;> omega) _))⟩
theorem tGrid_any {a : Option Addr} {cap : Nat} {xs : List Nat} {wd hg : Int} (w : World) (hr : FRow w a xs) (hl : xs.length ≤ 1048576) : Calls Tryd.prog 21 #[gd wd hg (.slice a xs.length cap)] w (fun e w' => ∃ g, e = .returned (gd wd hg (sl g xs.length xs.length)) ∧ w'.ownsRow w.heap.size 58 1 (sl g xs.length xs.length) xs.length (fls xs) ∧ Below w.heap.size w w') := by
  have HR := Hf.mk hr
  clear hr
  go_enter Tryd.func21, Tryd.ntmps21
  go_wp2_with (first | (go_at_call 51; refine (toF_any _ (HR.out.below (by repeat (first | exact Below.refl _ _ | with_reducible assumption | refine Below.drews ?_ | refine Below.drew ?_ | refine Below.alloc ?_ (by simp <;> omega) _ | refine Below.setCell ?_ (by simp <;> omega) _))) hl).mono ?_; rintro e w1 ⟨rfl, o1, b1⟩; have O1 := Hf.mk o1; have E1 := Hb.mk b1; have r0 := Hb.mk (At.keep b1 (p := ⟨(w.heap.size + 1 + 1), 0, none⟩) (v := .int .i64 wd) (by simp [go_sem]) (by simp [go_sem])); obtain ⟨r0c, r0z, r0l⟩ := r0.out; have r1 := Hb.mk (At.keep b1 (p := ⟨(w.heap.size + 1 + 1), 1, none⟩) (v := .int .i64 hg) (by simp [go_sem]) (by simp [go_sem])); obtain ⟨r1c, r1z, r1l⟩ := r1.out; have r2 := Hb.mk (At.keep b1 (p := ⟨(w.heap.size + 1 + 1), 2, none⟩) (v := .slice none 0 0) (by simp [go_sem]) (by simp [go_sem])); obtain ⟨r2c, r2z, r2l⟩ := r2.out; have s0 := Hb.mk (At.keep b1 (p := ⟨(w.heap.size + 1), 0, none⟩) (v := .int .i64 0) (by simp [go_sem]) (by simp [go_sem])); obtain ⟨s0c, s0z, s0l⟩ := s0.out; have s1 := Hb.mk (At.keep b1 (p := ⟨(w.heap.size + 1), 1, none⟩) (v := .int .i64 0) (by simp [go_sem]) (by simp [go_sem])); obtain ⟨s1c, s1z, s1l⟩ := s1.out; have s2 := Hb.mk (At.keep b1 (p := ⟨(w.heap.size + 1), 2, none⟩) (v := .slice none 0 0) (by simp [go_sem]) (by simp [go_sem])); obtain ⟨s2c, s2z, s2l⟩ := s2.out; clear o1 b1))
  refine bodyPost_ret (v := gd wd hg (sl (w.heap.size + 1 + 1 + 1) xs.length xs.length)) (by simp [results, Tryd.results21, go_sem, s0c, s1c, s2c]) rfl ⟨_, rfl, ?_, (by repeat (first | with_reducible refine Below.setCell ?_ (by first | omega | (simp <;> omega)) _ | with_reducible refine Below.drews ?_ | with_reducible refine Below.drew ?_ | with_reducible refine Below.alloc ?_ (by first | omega | (simp <;> omega)) _ | with_reducible refine Below.on ?_ E1.out (by first | omega | (simp <;> omega)) | with_reducible exact Below.refl _ _))⟩
  have O2 : w1.ownsRow (w.heap.size + 1 + 1 + 1) 58 1 (sl (w.heap.size + 1 + 1 + 1) xs.length xs.length) xs.length (fls xs) := by
    have O3 := O1.out
    rw [World.size_alloc, World.size_alloc, World.size_alloc] at O3
    exact O3
  refine own_other (own_other (own_other (own_other (own_lower O2 ?_) ?_ _) ?_ _) ?_ _) ?_ _ <;> first | omega | (simp; done) | (simp; omega)
theorem szGrid_yes {a : Option Addr} {n cap : Nat} {wd hg : Int} (hl : n ≤ 1048576) (w : World) : Calls Tryd.prog 19 #[gd wd hg (.slice a n cap), .int .i64 1048576] w (RS (.int .i64 (1048576 - (n : Int))) w) := by
  go_enter Tryd.func19, Tryd.ntmps19
  go_wp2
  go_ret
  exact ⟨rfl, (by repeat (first | exact Below.refl _ _ | with_reducible assumption | refine Below.drews ?_ | refine Below.drew ?_ | refine Below.alloc ?_ (by simp <;> omega) _ | refine Below.setCell ?_ (by simp <;> omega) _))⟩
theorem szGrid_no {a : Option Addr} {n cap : Nat} {wd hg : Int} (hl : 1048576 < n) (hm : n ≤ 9223372036854775807) (w : World) : Calls Tryd.prog 19 #[gd wd hg (.slice a n cap), .int .i64 1048576] w (RS (.int .i64 (-1)) w) := by
  go_enter Tryd.func19, Tryd.ntmps19
  go_wp2
  go_ret
  exact ⟨rfl, (by repeat (first | exact Below.refl _ _ | with_reducible assumption | refine Below.drews ?_ | refine Below.drew ?_ | refine Below.alloc ?_ (by simp <;> omega) _ | refine Below.setCell ?_ (by simp <;> omega) _))⟩
/-- the second grid, behind a first one of m heights -/
theorem szGrid_yes2 {a : Option Addr} {n m cap : Nat} {wd hg : Int} (hl : n + m ≤ 1048576) (w : World) : Calls Tryd.prog 19 #[gd wd hg (.slice a n cap), .int .i64 (1048576 - (m : Int))] w (RS (.int .i64 (1048576 - (m : Int) - (n : Int))) w) := by
  go_enter Tryd.func19, Tryd.ntmps19
  go_wp2
  go_ret
  exact ⟨rfl, (by repeat (first | exact Below.refl _ _ | with_reducible assumption | refine Below.drews ?_ | refine Below.drew ?_ | refine Below.alloc ?_ (by simp <;> omega) _ | refine Below.setCell ?_ (by simp <;> omega) _))⟩
theorem szGrid_no2 {a : Option Addr} {n m cap : Nat} {wd hg : Int} (hl : 1048576 < n + m) (h1 : m ≤ 1048576) (hm : n ≤ 9223372036854775807) (w : World) : Calls Tryd.prog 19 #[gd wd hg (.slice a n cap), .int .i64 (1048576 - (m : Int))] w (RS (.int .i64 (-1)) w) := by
  go_enter Tryd.func19, Tryd.ntmps19
  go_wp2
  go_ret
  exact ⟨rfl, (by repeat (first | exact Below.refl _ _ | with_reducible assumption | refine Below.drews ?_ | refine Below.drew ?_ | refine Below.alloc ?_ (by simp <;> omega) _ | refine Below.setCell ?_ (by simp <;> omega) _))⟩
theorem eqGrid_any {g1 g2 n k1 k2 : Nat} {wd hg : Int} {f : Nat → Nat} (w : World) (h1 : Told w g1 n f) (h2 : Told w g2 n f) (hl : n ≤ 1048576) : Calls Tryd.prog 23 #[gd wd hg (sl g1 n k1), gd wd hg (sl g2 n k2)] w (RS (.bool true) w) := by
  have H1 := Hf.mk h1
  have H2 := Hf.mk h2
  clear h1 h2
  go_enter Tryd.func23, Tryd.ntmps23
  go_wp2_with (first | (go_at_call 54; refine (eqFT_any _ (H1.out.below (by repeat (first | exact Below.refl _ _ | with_reducible assumption | refine Below.drews ?_ | refine Below.drew ?_ | refine Below.alloc ?_ (by simp <;> omega) _ | refine Below.setCell ?_ (by simp <;> omega) _))) (H2.out.below (by repeat (first | exact Below.refl _ _ | with_reducible assumption | refine Below.drews ?_ | refine Below.drew ?_ | refine Below.alloc ?_ (by simp <;> omega) _ | refine Below.setCell ?_ (by simp <;> omega) _))) hl).mono ?_; rintro e w1 ⟨rfl, n1, rfl⟩))
  go_ret
  exact ⟨rfl, (by repeat (first | exact Below.refl _ _ | with_reducible assumption | refine Below.drews ?_ | refine Below.drew ?_ | refine Below.alloc ?_ (by simp <;> omega) _ | refine Below.setCell ?_ (by simp <;> omega) _))⟩
theorem eqGrid_nil (w : World) : Calls Tryd.prog 23 #[gd 0 0 (.slice none 0 0), gd 0 0 (.slice none 0 0)] w (RS (.bool true) w) := by
  go_enter Tryd.func23, Tryd.ntmps23
  go_wp2_with (first | (go_at_call 54; refine (eqF_nil _).mono ?_; rintro e w1 ⟨rfl, n1, rfl⟩))
  go_ret
  exact ⟨rfl, (by repeat (first | exact Below.refl _ _ | with_reducible assumption | refine Below.drews ?_ | refine Below.drew ?_ | refine Below.alloc ?_ (by simp <;> omega) _ | refine Below.setCell ?_ (by simp <;> omega) _))⟩
theorem markG_any {g n cap base : Nat} {cur : List Value} {wd hg k : Int} (w : World) (ho : w.ownsRow base 58 1 (sl g n cap) n cur) (hl : n ≤ 1048576) (hk0 : 0 ≤ k) (hk1 : k ≤ 2097152) : Calls Tryd.prog 26 #[gd wd hg (sl g n cap), .int .i64 k] w (fun e w' => e = .returned (.int .i64 (k + (n : Int))) ∧ Told w' g n (sqI k) ∧ w.grownBy w' (some g)) := by
  have HO := Hf.mk ho
  have HL := (own_lt ho).2
  clear ho
  go_enter Tryd.func26, Tryd.ntmps26
  go_wp2_with (first | (go_at_call 58; refine (markF_any _ (iown_below HO.out (by repeat (first | exact Below.refl _ _ | with_reducible assumption | refine Below.drews ?_ | refine Below.drew ?_ | refine Below.alloc ?_ (by simp <;> omega) _ | refine Below.setCell ?_ (by simp <;> omega) _))) hl hk0 hk1).mono ?_; rintro e w1 ⟨rfl, t1, g1⟩; have T1 := Hf.mk t1; have G1 := Hb.mk g1; clear t1 g1))
  go_ret
  exact ⟨rfl, T1.out, gb_trans (gb_of (by repeat (first | exact Below.refl _ _ | with_reducible assumption | refine Below.drews ?_ | refine Below.drew ?_ | refine Below.alloc ?_ (by simp <;> omega) _ | refine Below.setCell ?_ (by simp <;> omega) _))) G1.out⟩
theorem markG_nil {k : Int} (w : World) : Calls Tryd.prog 26 #[gd 0 0 (.slice none 0 0), .int .i64 k] w (RS (.int .i64 k) w) := by
  go_enter Tryd.func26, Tryd.ntmps26
  go_wp2_with (first | (go_at_call 58; refine (markF_nil _).mono ?_; rintro e w1 ⟨rfl, n1, rfl⟩))
  go_ret
  exact ⟨rfl, (by repeat (first | exact Below.refl _ _ | with_reducible assumption | refine Below.drews ?_ | refine Below.drew ?_ | refine Below.alloc ?_ (by simp <;> omega) _ | refine Below.setCell ?_ (by simp <;> omega) _))⟩
theorem heldG_any {g n cap : Nat} {wd hg k : Int} (w : World) (hr : Told w g n (sqI k)) (hl : n ≤ 1048576) (hk0 : 0 ≤ k) (hk1 : k ≤ 2097152) : Calls Tryd.prog 27 #[gd wd hg (sl g n cap), .int .i64 k] w (RS (.int .i64 (k + (n : Int))) w) := by
  have HR := Hf.mk hr
  clear hr
  go_enter Tryd.func27, Tryd.ntmps27
  go_wp2_with (first | (go_at_call 59; refine (heldF_any _ (HR.out.below (by repeat (first | exact Below.refl _ _ | with_reducible assumption | refine Below.drews ?_ | refine Below.drew ?_ | refine Below.alloc ?_ (by simp <;> omega) _ | refine Below.setCell ?_ (by simp <;> omega) _))) hl hk0 hk1).mono ?_; rintro e w1 ⟨rfl, n1, rfl⟩))
  go_ret
  exact ⟨rfl, (by repeat (first | exact Below.refl _ _ | with_reducible assumption | refine Below.drews ?_ | refine Below.drew ?_ | refine Below.alloc ?_ (by simp <;> omega) _ | refine Below.setCell ?_ (by simp <;> omega) _))⟩
theorem heldG_nil {k : Int} (hk0 : 0 ≤ k) (w : World) : Calls Tryd.prog 27 #[gd 0 0 (.slice none 0 0), .int .i64 k] w (RS (.int .i64 k) w) := by
  go_enter Tryd.func27, Tryd.ntmps27
  go_wp2_with (first | (go_at_call 59; refine (heldF_nil _).mono ?_; rintro e w1 ⟨rfl, n1, rfl⟩))
  go_ret
  exact ⟨rfl, (by repeat (first | exact Below.refl _ _ | with_reducible assumption | refine Below.drews ?_ | refine Below.drew ?_ | refine Below.alloc ?_ (by simp <;> omega) _ | refine Below.setCell ?_ (by simp <;> omega) _))⟩
theorem l06Is_any {b g n k : Nat} {wd hg : Int} {f : Nat → Nat} (w : World) (c0 : w.cell? ⟨b, 0, none⟩ = some (.int .i64 wd)) (c1 : w.cell? ⟨b, 1, none⟩ = some (.int .i64 hg)) (c2 : w.cell? ⟨b, 2, none⟩ = some (sl g n k)) (h : Told w g n f) (hl : n ≤ 1048576) : Calls Tryd.prog 49 #[.pointer (some ⟨b, 0, none⟩)] w (RB (gridB wd hg n f) w) := by
  have H := Hf.mk h
  clear h
  cases h1 : sideB wd hg
  · have KV := Keep.mk (show gridB wd hg n f = false by unfold gridB; rw [h1]; rfl)
    have H1 := Hf.mk h1
    clear h1
    go_enter Tryd.func49, Tryd.ntmps49
    go_wp2
    go_quiet ((first | (go_at_call 82; have KC := l06Sides_any wd hg; rw [H1.out] at KC; exact Calls.quiet_of (KC _))))
    go_wp2
    go_ret
    rw [KV.out]
    exact RB.any rfl (by repeat (first | exact Drew.refl _ | refine Drew.more ?_))
  · obtain ⟨s1, s2, s3, s4⟩ : 2 ≤ wd ∧ wd ≤ 16 ∧ 2 ≤ hg ∧ hg ≤ 16 := by unfold sideB at h1; exact of_decide_eq_true h1
    have H1 := Hf.mk h1
    have b0 : 0 ≤ wd * hg := Int.mul_nonneg (by omega) (by omega)
    have b1 : wd * hg ≤ 256 := by have := Int.mul_le_mul s2 s4 (by omega) (by omega); simpa using this
    obtain ⟨p, hp⟩ : ∃ p : Int, p = wd * hg := ⟨_, rfl⟩
    have hp' : wd * hg = p := hp.symm
    rw [hp'] at b0 b1
    clear hp
    cases h2 : decide ((n : Int) = p)
    · have KV := Keep.mk (show gridB wd hg n f = false by unfold gridB; rw [h1, hp', h2]; rfl)
      have h3 : ((n : Int) == p) = false := by rw [beq_eq_false_iff_ne]; exact of_decide_eq_false h2
      clear h1
      go_enter Tryd.func49, Tryd.ntmps49
      go_wp2
      go_quiet ((first | (go_at_call 82; have KC := l06Sides_any wd hg; rw [H1.out] at KC; exact Calls.quiet_of (KC _))))
      go_wp2
      go_ret
      rw [KV.out]
      exact RB.any rfl (by repeat (first | exact Drew.refl _ | refine Drew.more ?_))
    · have KV := Keep.mk (show gridB wd hg n f = finB n f by unfold gridB; rw [h1, hp', h2]; rfl)
      have h3 : ((n : Int) == p) = true := by rw [beq_iff_eq]; exact of_decide_eq_true h2
      clear h1
      go_enter Tryd.func49, Tryd.ntmps49
      go_wp2
      go_quiet ((first | (go_at_call 82; have KC := l06Sides_any wd hg; rw [H1.out] at KC; exact Calls.quiet_of (KC _)) | (go_at_call 83; exact Calls.quiet_of (l02Fin_any _ (H.out.drew _) hl))))
      go_wp2
      go_ret
      rw [KV.out]
      exact RB.any rfl (by repeat (first | exact Drew.refl _ | refine Drew.more ?_))
theorem iValid_any {g n k : Nat} {wd hg : Int} {f : Nat → Nat} (w : World) (h : Told w g n f) (hl : n ≤ 1048576) : Calls Tryd.prog 52 #[gd wd hg (sl g n k)] w (RS (.bool (gridB wd hg n f)) w) := by
  have H := Hf.mk h
  clear h
  have B0 := Hb.mk (Below.refl w.heap.size w)
  cases h1 : sideB wd hg
  · have KV := Keep.mk (show gridB wd hg n f = false by unfold gridB; rw [h1]; rfl)
    have H1 := Hf.mk h1
    clear h1
    go_enter Tryd.func52, Tryd.ntmps52
    go_wp2_with (first | (go_at_call 85; refine (sides_any _ _ _ _).mono ?_; rintro e w1 ⟨rfl, b1⟩; have B1 := Hb.mk (Below.on (B := w.heap.size) (a := w) (by repeat (first | exact B0.out | refine Below.drews ?_ | refine Below.drew ?_ | refine Below.alloc ?_ (by have hq_ := B0.out.size; first | omega | (simp <;> omega)) _ | refine Below.setCell ?_ (by have hq_ := B0.out.size; first | omega | (simp <;> omega)) _)) b1 (by have hq_ := B0.out.size; first | omega | (simp <;> omega))); have r0 := Hb.mk (At.keep b1 (p := ⟨(w.heap.size), 0, none⟩) (v := .int .i64 wd) (by simp [go_sem]) (by simp [go_sem])); obtain ⟨r0c, r0z, r0l⟩ := r0.out; have r1 := Hb.mk (At.keep b1 (p := ⟨(w.heap.size), 1, none⟩) (v := .int .i64 hg) (by simp [go_sem]) (by simp [go_sem])); obtain ⟨r1c, r1z, r1l⟩ := r1.out; have r2 := Hb.mk (At.keep b1 (p := ⟨(w.heap.size), 2, none⟩) (v := sl g n k) (by simp [go_sem]) (by simp [go_sem])); obtain ⟨r2c, r2z, r2l⟩ := r2.out; clear b1) | (go_at_call 86; refine (areValid_any _ _ _).mono ?_; rw [H1.out]; rintro e w2 ⟨rfl, b2⟩; have B2 := Hb.mk (Below.on (B := w.heap.size) (a := w) (by repeat (first | exact B1.out | refine Below.drews ?_ | refine Below.drew ?_ | refine Below.alloc ?_ (by have hq_ := B1.out.size; first | omega | (simp <;> omega)) _ | refine Below.setCell ?_ (by have hq_ := B1.out.size; first | omega | (simp <;> omega)) _)) b2 (by have hq_ := B1.out.size; first | omega | (simp <;> omega))); have r0 := Hb.mk (At.re r0.out b2 (by first | exact r0c | simp [go_sem, r0c, r0l]) (by first | exact r0z | simp [go_sem, r0z, r0l])); obtain ⟨r0c, r0z, r0l⟩ := r0.out; have r1 := Hb.mk (At.re r1.out b2 (by first | exact r1c | simp [go_sem, r1c, r1l]) (by first | exact r1z | simp [go_sem, r1z, r1l])); obtain ⟨r1c, r1z, r1l⟩ := r1.out; have r2 := Hb.mk (At.re r2.out b2 (by first | exact r2c | simp [go_sem, r2c, r2l]) (by first | exact r2z | simp [go_sem, r2z, r2l])); obtain ⟨r2c, r2z, r2l⟩ := r2.out; clear b2))
    go_ret
    rw [KV.out]
    exact ⟨rfl, B2.out⟩
  · obtain ⟨s1, s2, s3, s4⟩ : 2 ≤ wd ∧ wd ≤ 16 ∧ 2 ≤ hg ∧ hg ≤ 16 := by unfold sideB at h1; exact of_decide_eq_true h1
    have H1 := Hf.mk h1
    have b0 : 0 ≤ wd * hg := Int.mul_nonneg (by omega) (by omega)
    have b1 : wd * hg ≤ 256 := by have := Int.mul_le_mul s2 s4 (by omega) (by omega); simpa using this
    obtain ⟨p, hp⟩ : ∃ p : Int, p = wd * hg := ⟨_, rfl⟩
    have hp' : wd * hg = p := hp.symm
    rw [hp'] at b0 b1
    clear hp
    cases h2 : decide ((n : Int) = p)
    · have KV := Keep.mk (show gridB wd hg n f = false by unfold gridB; rw [h1, hp', h2]; rfl)
      have h3 : ((n : Int) == p) = false := by rw [beq_eq_false_iff_ne]; exact of_decide_eq_false h2
      clear h1
      go_enter Tryd.func52, Tryd.ntmps52
      go_wp2_with (first | (go_at_call 85; refine (sides_any _ _ _ _).mono ?_; rintro e w1 ⟨rfl, b1⟩; have B1 := Hb.mk (Below.on (B := w.heap.size) (a := w) (by repeat (first | exact B0.out | refine Below.drews ?_ | refine Below.drew ?_ | refine Below.alloc ?_ (by have hq_ := B0.out.size; first | omega | (simp <;> omega)) _ | refine Below.setCell ?_ (by have hq_ := B0.out.size; first | omega | (simp <;> omega)) _)) b1 (by have hq_ := B0.out.size; first | omega | (simp <;> omega))); have r0 := Hb.mk (At.keep b1 (p := ⟨(w.heap.size), 0, none⟩) (v := .int .i64 wd) (by simp [go_sem]) (by simp [go_sem])); obtain ⟨r0c, r0z, r0l⟩ := r0.out; have r1 := Hb.mk (At.keep b1 (p := ⟨(w.heap.size), 1, none⟩) (v := .int .i64 hg) (by simp [go_sem]) (by simp [go_sem])); obtain ⟨r1c, r1z, r1l⟩ := r1.out; have r2 := Hb.mk (At.keep b1 (p := ⟨(w.heap.size), 2, none⟩) (v := sl g n k) (by simp [go_sem]) (by simp [go_sem])); obtain ⟨r2c, r2z, r2l⟩ := r2.out; clear b1) | (go_at_call 86; refine (areValid_any _ _ _).mono ?_; rw [H1.out]; rintro e w2 ⟨rfl, b2⟩; have B2 := Hb.mk (Below.on (B := w.heap.size) (a := w) (by repeat (first | exact B1.out | refine Below.drews ?_ | refine Below.drew ?_ | refine Below.alloc ?_ (by have hq_ := B1.out.size; first | omega | (simp <;> omega)) _ | refine Below.setCell ?_ (by have hq_ := B1.out.size; first | omega | (simp <;> omega)) _)) b2 (by have hq_ := B1.out.size; first | omega | (simp <;> omega))); have r0 := Hb.mk (At.re r0.out b2 (by first | exact r0c | simp [go_sem, r0c, r0l]) (by first | exact r0z | simp [go_sem, r0z, r0l])); obtain ⟨r0c, r0z, r0l⟩ := r0.out; have r1 := Hb.mk (At.re r1.out b2 (by first | exact r1c | simp [go_sem, r1c, r1l]) (by first | exact r1z | simp [go_sem, r1z, r1l])); obtain ⟨r1c, r1z, r1l⟩ := r1.out; have r2 := Hb.mk (At.re r2.out b2 (by first | exact r2c | simp [go_sem, r2c, r2l]) (by first | exact r2z | simp [go_sem, r2z, r2l])); obtain ⟨r2c, r2z, r2l⟩ := r2.out; clear b2))
      go_ret
      rw [KV.out]
      exact ⟨rfl, B2.out⟩
    · have KV := Keep.mk (show gridB wd hg n f = finB n f by unfold gridB; rw [h1, hp', h2]; rfl)
      have h3 : ((n : Int) == p) = true := by rw [beq_iff_eq]; exact of_decide_eq_true h2
      clear h1
      go_enter Tryd.func52, Tryd.ntmps52
      go_wp2_with (first | (go_at_call 85; refine (sides_any _ _ _ _).mono ?_; rintro e w1 ⟨rfl, b1⟩; have B1 := Hb.mk (Below.on (B := w.heap.size) (a := w) (by repeat (first | exact B0.out | refine Below.drews ?_ | refine Below.drew ?_ | refine Below.alloc ?_ (by have hq_ := B0.out.size; first | omega | (simp <;> omega)) _ | refine Below.setCell ?_ (by have hq_ := B0.out.size; first | omega | (simp <;> omega)) _)) b1 (by have hq_ := B0.out.size; first | omega | (simp <;> omega))); have r0 := Hb.mk (At.keep b1 (p := ⟨(w.heap.size), 0, none⟩) (v := .int .i64 wd) (by simp [go_sem]) (by simp [go_sem])); obtain ⟨r0c, r0z, r0l⟩ := r0.out; have r1 := Hb.mk (At.keep b1 (p := ⟨(w.heap.size), 1, none⟩) (v := .int .i64 hg) (by simp [go_sem]) (by simp [go_sem])); obtain ⟨r1c, r1z, r1l⟩ := r1.out; have r2 := Hb.mk (At.keep b1 (p := ⟨(w.heap.size), 2, none⟩) (v := sl g n k) (by simp [go_sem]) (by simp [go_sem])); obtain ⟨r2c, r2z, r2l⟩ := r2.out; clear b1) | (go_at_call 86; refine (areValid_any _ _ _).mono ?_; rw [H1.out]; rintro e w2 ⟨rfl, b2⟩; have B2 := Hb.mk (Below.on (B := w.heap.size) (a := w) (by repeat (first | exact B1.out | refine Below.drews ?_ | refine Below.drew ?_ | refine Below.alloc ?_ (by have hq_ := B1.out.size; first | omega | (simp <;> omega)) _ | refine Below.setCell ?_ (by have hq_ := B1.out.size; first | omega | (simp <;> omega)) _)) b2 (by have hq_ := B1.out.size; first | omega | (simp <;> omega))); have r0 := Hb.mk (At.re r0.out b2 (by first | exact r0c | simp [go_sem, r0c, r0l]) (by first | exact r0z | simp [go_sem, r0z, r0l])); obtain ⟨r0c, r0z, r0l⟩ := r0.out; have r1 := Hb.mk (At.re r1.out b2 (by first | exact r1c | simp [go_sem, r1c, r1l]) (by first | exact r1z | simp [go_sem, r1z, r1l])); obtain ⟨r1c, r1z, r1l⟩ := r1.out; have r2 := Hb.mk (At.re r2.out b2 (by first | exact r2c | simp [go_sem, r2c, r2l]) (by first | exact r2z | simp [go_sem, r2z, r2l])); obtain ⟨r2c, r2z, r2l⟩ := r2.out; clear b2) | (go_at_call 87; refine (areF_any _ (H.out.below B2.out) hl).mono ?_; rintro e w3 ⟨rfl, q3, rfl⟩))
      go_ret
      rw [KV.out]
      exact ⟨rfl, (by repeat (first | with_reducible refine Below.setCell ?_ (by first | omega | (simp <;> omega)) _ | with_reducible refine Below.drews ?_ | with_reducible refine Below.drew ?_ | with_reducible refine Below.alloc ?_ (by first | omega | (simp <;> omega)) _ | with_reducible exact B2.out | with_reducible exact Below.refl _ _))⟩
/-- a float and whether there is one -/
def fT (ok : Bool) (c : Nat) : Value := if ok then .tuple #[.float .f32 c, .bool true] else .tuple #[.float .f32 0, .bool false]
end Go.Proofs.YtcgakdgfmhkpjaaDoor
