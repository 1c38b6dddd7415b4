/-
  FnExactPointOf: the law's own walk. No condition.
-/
import Derived.Test.YtenekhckmglobaaGreatPtO
namespace Go.Proofs.YtenekhckmglobaaGreat
open Go Go.RowKit
set_option maxRecDepth 100000

theorem own_word {a : Nat} (wa : (Lit.float .f32 a).wf = true) (h : fin .f32 (nrm .f32 a) = true) : Fl .f32 a a ∧ nrm .f32 a = a := by
  have h1 := (Fl.own wa).word (fin_notN h)
  have h2 := Fl.own wa
  rw [← h1] at h2
  exact ⟨h2, h1.symm⟩
theorem points_at {k : Int} {mn me f pn pe : Nat} (w1 : (Lit.float .f32 mn).wf = true) (w2 : (Lit.float .f32 me).wf = true) (w3 : (Lit.float .f32 f).wf = true) (w4 : (Lit.float .f32 pn).wf = true) (w5 : (Lit.float .f32 pe).wf = true) :
    ∃ r i ok, Fl .f32 r r ∧ Fl .f32 i i ∧ (∀ w, Calls Tryz.prog 8 #[mp k mn me f, pl pn pe] w (RS (cxT r i ok) w)) ∧ (∀ w, Calls Tryz.prog 11 #[mp k mn me f, pl pn pe] w (RS (cxT r i ok) w)) := by
  have h0 : Fl .f32 0 0 := Fl.not (by decide +kernel) (by decide +kernel)
  cases hv : validM k (nrm .f32 mn) (nrm .f32 me) (nrm .f32 f)
  · exact ⟨0, 0, false, h0, h0, fun w => sPointOf_no0 (Fl.own w1) (Fl.own w2) (Fl.own w3) (Fl.own w4) (Fl.own w5) hv w, fun w => iPointOf_no0 (Fl.own w1) (Fl.own w2) (Fl.own w3) (Fl.own w4) (Fl.own w5) hv w⟩
  · cases hp : validC (nrm .f32 pn) (nrm .f32 pe)
    · exact ⟨0, 0, false, h0, h0, fun w => sPointOf_no1 (Fl.own w1) (Fl.own w2) (Fl.own w3) (Fl.own w4) (Fl.own w5) hv hp w, fun w => iPointOf_no1 (Fl.own w1) (Fl.own w2) (Fl.own w3) (Fl.own w4) (Fl.own w5) hv hp w⟩
    · have hv' := hv
      unfold validM at hv'
      simp only [Bool.and_eq_true] at hv'
      obtain ⟨f1, e1⟩ := own_word w1 (valid_ab hv'.2.1).1.fin
      obtain ⟨f2, e2⟩ := own_word w2 (valid_ab hv'.2.1).2.fin
      obtain ⟨f3, e3⟩ := own_word w3 (first_turn hv'.2.2).ab.fin
      obtain ⟨f4, e4⟩ := own_word w4 (valid_ab hp).1.fin
      obtain ⟨f5, e5⟩ := own_word w5 (valid_ab hp).2.fin
      rw [e1, e2, e3] at hv
      rw [e4, e5] at hp
      obtain ⟨cr, ci, ok, wr, wi, hS, hI⟩ := points f1 f2 f3 f4 f5 hv hp
      obtain ⟨g1, g2⟩ := pt_fl wr ok wi
      exact ⟨_, _, _, g1, g2, hS, hI⟩
set_option maxHeartbeats 2000000 in
theorem law_PointOf {k : Int} {mn me f pn pe : Nat} (_wk : (Lit.int .i64 k).wf = true) (w1 : (Lit.float .f32 mn).wf = true) (w2 : (Lit.float .f32 me).wf = true) (w3 : (Lit.float .f32 f).wf = true) (w4 : (Lit.float .f32 pn).wf = true) (w5 : (Lit.float .f32 pe).wf = true) (w : World) : Calls Tryz.prog 3 #[mp k mn me f, pl pn pe] w (RS (.bool true) w) := by
  have B0 := Hb.mk (Below.refl w.heap.size w)
  obtain ⟨r, i, ok, fr, fi, hS, hI⟩ := points_at (k := k) w1 w2 w3 w4 w5
  have HS := Hb.mk hS
  have HI := Hb.mk hI
  clear hS hI w1 w2 w3 w4 w5 _wk
  go_enter Tryz.func3, Tryz.ntmps3
  go_wp2
  refine region_all (by kernel_rfl) (by kernel_rfl) (fun I1 F1 hne1 HB1 hcl => ?_)
  have m0_1 := keepF HB1 (p := ⟨w.heap.size, 0, none⟩) (v := .int .i64 k) (by simp [go_sem])
  have m1_1 := keepF HB1 (p := ⟨w.heap.size, 1, none⟩) (v := .float .f32 mn) (by simp [go_sem])
  have m2_1 := keepF HB1 (p := ⟨w.heap.size, 2, none⟩) (v := .float .f32 me) (by simp [go_sem])
  have m3_1 := keepF HB1 (p := ⟨w.heap.size, 3, none⟩) (v := .float .f32 f) (by simp [go_sem])
  have a0_1 := keepF HB1 (p := ⟨w.heap.size + 1, 0, none⟩) (v := .float .f32 pn) (by simp [go_sem])
  have a1_1 := keepF HB1 (p := ⟨w.heap.size + 1, 1, none⟩) (v := .float .f32 pe) (by simp [go_sem])
  repeat (quiet_step (first | (go_at_call 9; exact callS hcl (toMap_any _ _ _ _ _)) | (go_at_call 10; exact callS hcl (toPlace_any _ _ _)) | (go_at_call 8; exact callS hcl (HS.out _))))
  refine wpQuiet_nil ?_
  intro _ hw'
  obtain ⟨i1, rfl⟩ := hw'
  clear hcl
  have E1 := HB1.out i1
  have B1 := Hb.mk (Below.on (B := w.heap.size) (a := w) (by repeat (first | exact B0.out | refine Below.drews ?_ | refine Below.drew ?_ | refine Below.alloc ?_ (by have hq_ := B0.out.size; first | omega | (simp <;> omega)) _ | refine Below.setCell ?_ (by have hq_ := B0.out.size; first | omega | (simp <;> omega)) _)) E1 (by have hq_ := B0.out.size; first | omega | (simp <;> omega)))
  clear E1
  go_wp2
  refine region_all (by kernel_rfl) (by kernel_rfl) (fun I2 F2 hne2 HB2 hcl => ?_)
  have m0_2 := keepF HB2 (p := ⟨w.heap.size, 0, none⟩) (v := .int .i64 k) (by first | simp [(m0_1 i1), go_sem] | exact m0_1 i1)
  have m1_2 := keepF HB2 (p := ⟨w.heap.size, 1, none⟩) (v := .float .f32 mn) (by first | simp [(m1_1 i1), go_sem] | exact m1_1 i1)
  have m2_2 := keepF HB2 (p := ⟨w.heap.size, 2, none⟩) (v := .float .f32 me) (by first | simp [(m2_1 i1), go_sem] | exact m2_1 i1)
  have m3_2 := keepF HB2 (p := ⟨w.heap.size, 3, none⟩) (v := .float .f32 f) (by first | simp [(m3_1 i1), go_sem] | exact m3_1 i1)
  have a0_2 := keepF HB2 (p := ⟨w.heap.size + 1, 0, none⟩) (v := .float .f32 pn) (by first | simp [(a0_1 i1), go_sem] | exact a0_1 i1)
  have a1_2 := keepF HB2 (p := ⟨w.heap.size + 1, 1, none⟩) (v := .float .f32 pe) (by first | simp [(a1_1 i1), go_sem] | exact a1_1 i1)
  repeat (quiet_step (first | (go_at_call 9; exact callS hcl (toMap_any _ _ _ _ _)) | (go_at_call 10; exact callS hcl (toPlace_any _ _ _)) | (go_at_call 11; exact callS hcl (HI.out _))))
  refine wpQuiet_nil ?_
  intro _ hw'
  obtain ⟨i2, rfl⟩ := hw'
  clear hcl
  have E2 := HB2.out i2
  have B2 := Hb.mk (Below.on (B := w.heap.size) (a := w) (by repeat (first | exact B1.out | refine Below.drews ?_ | refine Below.drew ?_ | refine Below.alloc ?_ (by have hq_ := B1.out.size; first | omega | (simp <;> omega)) _ | refine Below.setCell ?_ (by have hq_ := B1.out.size; first | omega | (simp <;> omega)) _)) E2 (by have hq_ := B1.out.size; first | omega | (simp <;> omega)))
  clear E2
  have tk_a : True := trivial; have tk_b : True := trivial
  go_wp2_with (first
    | (clear tk_a; refine wpList_ccv rfl rfl rfl (by kernel_rfl) Tryz.underlying36 fr fi ?_; intro r3 i3 n gg2 kk2; simp only [Act.put, List.setIfInBounds_toArray, List.set_cons_succ, List.set_cons_zero])
    | (clear tk_b; refine wpList_ccv rfl rfl rfl (by kernel_rfl) Tryz.underlying36 fr fi ?_; intro r4 i4 n gg1 kk1; simp only [Act.put, List.setIfInBounds_toArray, List.set_cons_succ, List.set_cons_zero])
    | (go_at_call 12; refine (sameComplex_any gg2 kk2 gg1 kk1 _).mono ?_; rintro e w' ⟨rfl, n, rfl⟩))
  go_ret
  exact ⟨rfl, (by repeat (first | with_reducible refine Below.setCell ?_ (by first | omega | (simp <;> omega)) _ | with_reducible refine Below.drews ?_ | with_reducible refine Below.drew ?_ | with_reducible refine Below.alloc ?_ (by first | omega | (simp <;> omega)) _ | with_reducible exact B2.out | with_reducible exact Below.refl _ _))⟩
end Go.Proofs.YtenekhckmglobaaGreat
