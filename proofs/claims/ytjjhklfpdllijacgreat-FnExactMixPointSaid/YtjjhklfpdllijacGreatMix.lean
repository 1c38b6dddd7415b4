/-
  FnExactMixPoint: the program's and the model's walks, and the law's. No condition.
-/
import Derived.Test.YtjjhklfpdllijacGreatPtL
import Derived.Test.YtjjhklfpdllijacGreatMopn
namespace Go.Proofs.YtjjhklfpdllijacGreat
open Go Go.RowKit
set_option maxRecDepth 100000

theorem fop_mul_comm (k : FloatKind) (x y : Nat) : fop .mul k x y = fop .mul k y x := by
  unfold fop floatBits Ieee.Format.mul
  dsimp only
  have h : (k.format.read x).product (k.format.read y) = (k.format.read y).product (k.format.read x) := by
    cases k.format.read x <;> cases k.format.read y <;> simp [Ieee.Datum.product, Bool.xor_comm, Nat.mul_comm, Int.add_comm]
  rw [h]
def shareIn (c : Nat) : Bool := fcmp .geq .f32 c 0 && fcmp .leq .f32 c 1065353216
theorem l02Share_any {c x : Nat} (hx : Fl .f32 c x) (w : World) : Calls Tryz.prog 63 #[.float .f32 x] w (RB (shareIn c) w) := by
  unfold shareIn
  cases g1 : fcmp .geq .f32 c 0
  · go_enter Tryz.func63, Tryz.ntmps63
    go_wp2_with (first | (refine wpList_fcmp rfl rfl rfl rfl rfl (by first | (with_reducible assumption) | (with_reducible exact Fl.ofInt _ _) | exact Fl.not (by decide +kernel) (by decide +kernel)) (by first | (with_reducible assumption) | (with_reducible exact Fl.ofInt _ _) | exact Fl.not (by decide +kernel) (by decide +kernel)) ?_; simp only [Act.put, List.setIfInBounds_toArray, List.set_cons_succ, List.set_cons_zero, g1]))
    go_ret
    exact RB.any rfl (by repeat (first | exact Drew.refl _ | refine Drew.more ?_))
  · go_enter Tryz.func63, Tryz.ntmps63
    go_wp2_with (first | (refine wpList_fcmp rfl rfl rfl rfl rfl (by first | (with_reducible assumption) | (with_reducible exact Fl.ofInt _ _) | exact Fl.not (by decide +kernel) (by decide +kernel)) (by first | (with_reducible assumption) | (with_reducible exact Fl.ofInt _ _) | exact Fl.not (by decide +kernel) (by decide +kernel)) ?_; simp only [Act.put, List.setIfInBounds_toArray, List.set_cons_succ, List.set_cons_zero, g1]) | (refine wpList_fcmp_g rfl rfl rfl rfl rfl (by first | (with_reducible assumption) | (with_reducible exact Fl.ofInt _ _) | exact Fl.not (by decide +kernel) (by decide +kernel)) (by first | (with_reducible assumption) | (with_reducible exact Fl.ofInt _ _) | exact Fl.not (by decide +kernel) (by decide +kernel)) ?_; simp only [Act.put, List.setIfInBounds_toArray, List.set_cons_succ, List.set_cons_zero]))
    go_ret
    exact RB.any rfl (by repeat (first | exact Drew.refl _ | refine Drew.more ?_))
theorem lessPoint_any {cr ci dr di r i s j : Nat} (h1 : Fl .f32 cr r) (h2 : Fl .f32 ci i) (h3 : Fl .f32 dr s) (h4 : Fl .f32 di j) (w : World) : Calls Tryz.prog 68 #[.complex .f32 r i, .complex .f32 s j] w (RC (fop .sub .f32 cr dr) (fop .sub .f32 ci di) w) := by
  go_enter Tryz.func68, Tryz.ntmps68
  have tk_u : True := trivial; have tk_v : True := trivial
  go_wp2_with (first | (clear tk_u; refine wpList_fop rfl rfl rfl rfl rfl h1 h3 ?_; intro u n_u h_u; simp only [Act.put, List.setIfInBounds_toArray, List.set_cons_succ, List.set_cons_zero]) | (clear tk_v; refine wpList_fop rfl rfl rfl rfl rfl h2 h4 ?_; intro v n_v h_v; simp only [Act.put, List.setIfInBounds_toArray, List.set_cons_succ, List.set_cons_zero]))
  go_ret
  exact ⟨_, _, rfl, h_u, h_v, (by repeat (first | exact Drew.refl _ | refine Drew.more ?_))⟩
theorem addComplex_any {cr ci dr di r i s j : Nat} (h1 : Fl .f32 cr r) (h2 : Fl .f32 ci i) (h3 : Fl .f32 dr s) (h4 : Fl .f32 di j) (w : World) : Calls Tryz.prog 70 #[.complex .f32 r i, .complex .f32 s j] w (RC (fop .add .f32 cr dr) (fop .add .f32 ci di) w) := by
  go_enter Tryz.func70, Tryz.ntmps70
  have tk_u : True := trivial; have tk_v : True := trivial
  go_wp2_with (first | (clear tk_u; refine wpList_fop rfl rfl rfl rfl rfl h1 h3 ?_; intro u n_u h_u; simp only [Act.put, List.setIfInBounds_toArray, List.set_cons_succ, List.set_cons_zero]) | (clear tk_v; refine wpList_fop rfl rfl rfl rfl rfl h2 h4 ?_; intro v n_v h_v; simp only [Act.put, List.setIfInBounds_toArray, List.set_cons_succ, List.set_cons_zero]))
  go_ret
  exact ⟨_, _, rfl, h_u, h_v, (by repeat (first | exact Drew.refl _ | refine Drew.more ?_))⟩
/-- What the program's PointOf answers for any words; where it is valid the model's point is the same, where not it fails. -/
structure PtAns (k : Int) (mn me f pn pe r i : Nat) (ok : Bool) : Prop where
  fr : Fl .f32 r r
  fi : Fl .f32 i i
  prog : ∀ w, Calls Tryz.prog 66 #[mp k mn me f, pl pn pe] w (RS (cxT r i ok) w)
  model : validM k (nrm .f32 mn) (nrm .f32 me) (nrm .f32 f) = true → validC (nrm .f32 pn) (nrm .f32 pe) = true → ∀ g (w : World), g < w.heap.size → w.cell? ⟨g, 0, none⟩ = some (.int .i64 k) → w.cell? ⟨g, 1, none⟩ = some (.float .f32 mn) → w.cell? ⟨g, 2, none⟩ = some (.float .f32 me) → w.cell? ⟨g, 3, none⟩ = some (.float .f32 f) → Calls Tryz.prog 64 #[.pointer (some ⟨g, 0, none⟩), pl pn pe] w (RS (cxT r i ok) w)
  bad0 : validM k (nrm .f32 mn) (nrm .f32 me) (nrm .f32 f) = false → ok = false
  bad1 : validC (nrm .f32 pn) (nrm .f32 pe) = false → ok = false
theorem ptAns {k : Int} {mn me f pn pe : Nat} (w1 : (Lit.float .f32 mn).wf = true) (w2 : (Lit.float .f32 me).wf = true) (w3 : (Lit.float .f32 f).wf = true) (w4 : (Lit.float .f32 pn).wf = true) (w5 : (Lit.float .f32 pe).wf = true) :
    ∃ r i ok, PtAns k mn me f pn pe r i ok := by
  have h0 : Fl .f32 0 0 := Fl.not (by decide +kernel) (by decide +kernel)
  cases hv : validM k (nrm .f32 mn) (nrm .f32 me) (nrm .f32 f)
  · exact ⟨0, 0, false, h0, h0, fun w => iPointOf_no0 (Fl.own w1) (Fl.own w2) (Fl.own w3) (Fl.own w4) (Fl.own w5) hv w, (fun h => by rw [hv] at h; cases h), fun _ => rfl, fun _ => rfl⟩
  · cases hp : validC (nrm .f32 pn) (nrm .f32 pe)
    · exact ⟨0, 0, false, h0, h0, fun w => iPointOf_no1 (Fl.own w1) (Fl.own w2) (Fl.own w3) (Fl.own w4) (Fl.own w5) hv hp w, (fun _ h => by rw [hp] at h; cases h), fun _ => rfl, fun _ => rfl⟩
    · have hv' := hv
      have hv2 := hv
      have hp2 := hp
      unfold validM at hv'
      simp only [Bool.and_eq_true] at hv'
      obtain ⟨f1, e1⟩ := own_word w1 (valid_ab hv'.2.1).1.fin
      obtain ⟨f2, e2⟩ := own_word w2 (valid_ab hv'.2.1).2.fin
      obtain ⟨f3, e3⟩ := own_word w3 (first_turn hv'.2.2).ab.fin
      obtain ⟨f4, e4⟩ := own_word w4 (valid_ab hp).1.fin
      obtain ⟨f5, e5⟩ := own_word w5 (valid_ab hp).2.fin
      rw [e1, e2, e3] at hv2
      rw [e4, e5] at hp2
      obtain ⟨cr, ci, ok, wr, wi, hL, hI⟩ := lpoints f1 f2 f3 f4 f5 hv2 hp2
      obtain ⟨g1, g2⟩ := pt_fl wr ok wi
      exact ⟨_, _, _, g1, g2, hI, fun _ _ => hL, (fun h => by rw [hv] at h; cases h), (fun h => by rw [hp] at h; cases h)⟩
def mixC (a b s : Nat) : Nat := fop .add .f32 a (fop .mul .f32 (fop .sub .f32 b a) s)
set_option maxHeartbeats 1000000 in
theorem sMix_a {ka kb : Int} {na ea fa nb eb fb s cs pn pe : Nat} (w1 : (Lit.float .f32 na).wf = true) (w2 : (Lit.float .f32 ea).wf = true) (w3 : (Lit.float .f32 fa).wf = true) (w4 : (Lit.float .f32 nb).wf = true) (w5 : (Lit.float .f32 eb).wf = true) (w6 : (Lit.float .f32 fb).wf = true) (w7 : (Lit.float .f32 pn).wf = true) (w8 : (Lit.float .f32 pe).wf = true) (hs : Fl .f32 cs s) (va : validM ka (nrm .f32 na) (nrm .f32 ea) (nrm .f32 fa) = false) (w : World) : Calls Tryz.prog 28 #[mp ka na ea fa, mp kb nb eb fb, .float .f32 s, pl pn pe] w (RS (cxT 0 0 false) w) := by
  have B0 := Hb.mk (Below.refl w.heap.size w)
  have VA := Hb.mk va
  clear va
  go_enter Tryz.func28, Tryz.ntmps28
  have tk_a : True := trivial; have tk_b : True := trivial
  go_wp2_with (first | (go_at_call 50; clear tk_a; refine (l03Is_any (k := ka) (Fl.own w1) (Fl.own w2) (Fl.own w3) _ (by first | (simp; done) | (simp [go_sem]; done)) (by first | (simp; done) | (simp [go_sem]; done)) (by first | (simp; done) | (simp [go_sem]; done)) (by first | (simp; done) | (simp [go_sem]; done))).mono ?_; rw [VA.out]; rintro ex wq ⟨rfl, m1, rfl⟩))
  go_ret2
  exact ⟨rfl, (by repeat (first | with_reducible refine Below.setCell ?_ (by first | omega | (simp <;> omega)) _ | with_reducible refine Below.drews ?_ | with_reducible refine Below.drew ?_ | with_reducible refine Below.alloc ?_ (by first | omega | (simp <;> omega)) _ | with_reducible exact B0.out | with_reducible exact Below.refl _ _))⟩
set_option maxHeartbeats 1000000 in
theorem sMix_b {ka kb : Int} {na ea fa nb eb fb s cs pn pe : Nat} (w1 : (Lit.float .f32 na).wf = true) (w2 : (Lit.float .f32 ea).wf = true) (w3 : (Lit.float .f32 fa).wf = true) (w4 : (Lit.float .f32 nb).wf = true) (w5 : (Lit.float .f32 eb).wf = true) (w6 : (Lit.float .f32 fb).wf = true) (w7 : (Lit.float .f32 pn).wf = true) (w8 : (Lit.float .f32 pe).wf = true) (hs : Fl .f32 cs s) (va : validM ka (nrm .f32 na) (nrm .f32 ea) (nrm .f32 fa) = true) (vb : validM kb (nrm .f32 nb) (nrm .f32 eb) (nrm .f32 fb) = false) (w : World) : Calls Tryz.prog 28 #[mp ka na ea fa, mp kb nb eb fb, .float .f32 s, pl pn pe] w (RS (cxT 0 0 false) w) := by
  have B0 := Hb.mk (Below.refl w.heap.size w)
  have VA := Hb.mk va
  clear va
  have VB := Hb.mk vb
  clear vb
  go_enter Tryz.func28, Tryz.ntmps28
  have tk_a : True := trivial; have tk_b : True := trivial
  go_wp2_with (first | (go_at_call 50; clear tk_a; refine (l03Is_any (k := ka) (Fl.own w1) (Fl.own w2) (Fl.own w3) _ (by first | (simp; done) | (simp [go_sem]; done)) (by first | (simp; done) | (simp [go_sem]; done)) (by first | (simp; done) | (simp [go_sem]; done)) (by first | (simp; done) | (simp [go_sem]; done))).mono ?_; rw [VA.out]; rintro ex wq ⟨rfl, m1, rfl⟩) | (go_at_call 50; clear tk_b; refine (l03Is_any (k := kb) (Fl.own w4) (Fl.own w5) (Fl.own w6) _ (by first | (simp; done) | (simp [go_sem]; done)) (by first | (simp; done) | (simp [go_sem]; done)) (by first | (simp; done) | (simp [go_sem]; done)) (by first | (simp; done) | (simp [go_sem]; done))).mono ?_; rw [VB.out]; rintro ex wq ⟨rfl, m2, rfl⟩))
  go_ret2
  exact ⟨rfl, (by repeat (first | with_reducible refine Below.setCell ?_ (by first | omega | (simp <;> omega)) _ | with_reducible refine Below.drews ?_ | with_reducible refine Below.drew ?_ | with_reducible refine Below.alloc ?_ (by first | omega | (simp <;> omega)) _ | with_reducible exact B0.out | with_reducible exact Below.refl _ _))⟩
set_option maxHeartbeats 1000000 in
theorem sMix_s {ka kb : Int} {na ea fa nb eb fb s cs pn pe : Nat} (w1 : (Lit.float .f32 na).wf = true) (w2 : (Lit.float .f32 ea).wf = true) (w3 : (Lit.float .f32 fa).wf = true) (w4 : (Lit.float .f32 nb).wf = true) (w5 : (Lit.float .f32 eb).wf = true) (w6 : (Lit.float .f32 fb).wf = true) (w7 : (Lit.float .f32 pn).wf = true) (w8 : (Lit.float .f32 pe).wf = true) (hs : Fl .f32 cs s) (va : validM ka (nrm .f32 na) (nrm .f32 ea) (nrm .f32 fa) = true) (vb : validM kb (nrm .f32 nb) (nrm .f32 eb) (nrm .f32 fb) = true) (vs : shareIn cs = false) (w : World) : Calls Tryz.prog 28 #[mp ka na ea fa, mp kb nb eb fb, .float .f32 s, pl pn pe] w (RS (cxT 0 0 false) w) := by
  have B0 := Hb.mk (Below.refl w.heap.size w)
  have VA := Hb.mk va
  clear va
  have VB := Hb.mk vb
  clear vb
  have VS := Hb.mk vs
  clear vs
  go_enter Tryz.func28, Tryz.ntmps28
  have tk_a : True := trivial; have tk_b : True := trivial
  go_wp2_with (first | (go_at_call 50; clear tk_a; refine (l03Is_any (k := ka) (Fl.own w1) (Fl.own w2) (Fl.own w3) _ (by first | (simp; done) | (simp [go_sem]; done)) (by first | (simp; done) | (simp [go_sem]; done)) (by first | (simp; done) | (simp [go_sem]; done)) (by first | (simp; done) | (simp [go_sem]; done))).mono ?_; rw [VA.out]; rintro ex wq ⟨rfl, m1, rfl⟩) | (go_at_call 50; clear tk_b; refine (l03Is_any (k := kb) (Fl.own w4) (Fl.own w5) (Fl.own w6) _ (by first | (simp; done) | (simp [go_sem]; done)) (by first | (simp; done) | (simp [go_sem]; done)) (by first | (simp; done) | (simp [go_sem]; done)) (by first | (simp; done) | (simp [go_sem]; done))).mono ?_; rw [VB.out]; rintro ex wq ⟨rfl, m2, rfl⟩) | (go_at_call 63; refine (l02Share_any hs _).mono ?_; rw [VS.out]; rintro ex wq ⟨rfl, m3, rfl⟩))
  go_ret2
  exact ⟨rfl, (by repeat (first | with_reducible refine Below.setCell ?_ (by first | omega | (simp <;> omega)) _ | with_reducible refine Below.drews ?_ | with_reducible refine Below.drew ?_ | with_reducible refine Below.alloc ?_ (by first | omega | (simp <;> omega)) _ | with_reducible exact B0.out | with_reducible exact Below.refl _ _))⟩
set_option maxHeartbeats 1000000 in
theorem sMix_p {ka kb : Int} {na ea fa nb eb fb s cs pn pe : Nat} (w1 : (Lit.float .f32 na).wf = true) (w2 : (Lit.float .f32 ea).wf = true) (w3 : (Lit.float .f32 fa).wf = true) (w4 : (Lit.float .f32 nb).wf = true) (w5 : (Lit.float .f32 eb).wf = true) (w6 : (Lit.float .f32 fb).wf = true) (w7 : (Lit.float .f32 pn).wf = true) (w8 : (Lit.float .f32 pe).wf = true) (hs : Fl .f32 cs s) (va : validM ka (nrm .f32 na) (nrm .f32 ea) (nrm .f32 fa) = true) (vb : validM kb (nrm .f32 nb) (nrm .f32 eb) (nrm .f32 fb) = true) (vs : shareIn cs = true) (vp : validC (nrm .f32 pn) (nrm .f32 pe) = false) (w : World) : Calls Tryz.prog 28 #[mp ka na ea fa, mp kb nb eb fb, .float .f32 s, pl pn pe] w (RS (cxT 0 0 false) w) := by
  have B0 := Hb.mk (Below.refl w.heap.size w)
  have VA := Hb.mk va
  clear va
  have VB := Hb.mk vb
  clear vb
  have VS := Hb.mk vs
  clear vs
  have VP := Hb.mk vp
  clear vp
  go_enter Tryz.func28, Tryz.ntmps28
  have tk_a : True := trivial; have tk_b : True := trivial
  go_wp2_with (first | (go_at_call 50; clear tk_a; refine (l03Is_any (k := ka) (Fl.own w1) (Fl.own w2) (Fl.own w3) _ (by first | (simp; done) | (simp [go_sem]; done)) (by first | (simp; done) | (simp [go_sem]; done)) (by first | (simp; done) | (simp [go_sem]; done)) (by first | (simp; done) | (simp [go_sem]; done))).mono ?_; rw [VA.out]; rintro ex wq ⟨rfl, m1, rfl⟩) | (go_at_call 50; clear tk_b; refine (l03Is_any (k := kb) (Fl.own w4) (Fl.own w5) (Fl.own w6) _ (by first | (simp; done) | (simp [go_sem]; done)) (by first | (simp; done) | (simp [go_sem]; done)) (by first | (simp; done) | (simp [go_sem]; done)) (by first | (simp; done) | (simp [go_sem]; done))).mono ?_; rw [VB.out]; rintro ex wq ⟨rfl, m2, rfl⟩) | (go_at_call 63; refine (l02Share_any hs _).mono ?_; rw [VS.out]; rintro ex wq ⟨rfl, m3, rfl⟩) | (go_at_call 51; refine (l02Is_any (Fl.own w7) (Fl.own w8) _ (by first | (simp; done) | (simp [go_sem]; done)) (by first | (simp; done) | (simp [go_sem]; done))).mono ?_; rw [VP.out]; rintro ex wq ⟨rfl, m4, rfl⟩))
  go_ret2
  exact ⟨rfl, (by repeat (first | with_reducible refine Below.setCell ?_ (by first | omega | (simp <;> omega)) _ | with_reducible refine Below.drews ?_ | with_reducible refine Below.drew ?_ | with_reducible refine Below.alloc ?_ (by first | omega | (simp <;> omega)) _ | with_reducible exact B0.out | with_reducible exact Below.refl _ _))⟩
set_option maxHeartbeats 2000000 in
theorem sMix_yes {ka kb : Int} {na ea fa nb eb fb s cs pn pe ra ia rb ib : Nat} {oka okb : Bool} (w1 : (Lit.float .f32 na).wf = true) (w2 : (Lit.float .f32 ea).wf = true) (w3 : (Lit.float .f32 fa).wf = true) (w4 : (Lit.float .f32 nb).wf = true) (w5 : (Lit.float .f32 eb).wf = true) (w6 : (Lit.float .f32 fb).wf = true) (w7 : (Lit.float .f32 pn).wf = true) (w8 : (Lit.float .f32 pe).wf = true) (hs : Fl .f32 cs s) (va : validM ka (nrm .f32 na) (nrm .f32 ea) (nrm .f32 fa) = true) (vb : validM kb (nrm .f32 nb) (nrm .f32 eb) (nrm .f32 fb) = true) (vs : shareIn cs = true) (vp : validC (nrm .f32 pn) (nrm .f32 pe) = true) (HA : PtAns ka na ea fa pn pe ra ia oka) (HB : PtAns kb nb eb fb pn pe rb ib okb) (w : World) : Calls Tryz.prog 28 #[mp ka na ea fa, mp kb nb eb fb, .float .f32 s, pl pn pe] w (RS (ptT (mixC ra rb cs) (mixC ia ib cs) (oka && okb)) w) := by
  have B0 := Hb.mk (Below.refl w.heap.size w)
  have KA := Hb.mk (HA.model va vp)
  have KB := Hb.mk (HB.model vb vp)
  have a1 := HA.fr
  have a2 := HA.fi
  have c1 := HB.fr
  have c2 := HB.fi
  have VA := Hb.mk va
  have VB := Hb.mk vb
  have VS := Hb.mk vs
  have VP := Hb.mk vp
  clear va vb vs vp HA HB
  cases oka
  · rw [ptT_no (by rfl)]
    go_enter Tryz.func28, Tryz.ntmps28
    have tk_a : True := trivial; have tk_b : True := trivial; have tk_c : True := trivial; have tk_d : True := trivial
    go_wp2_with (first | (go_at_call 50; clear tk_a; refine (l03Is_any (k := ka) (Fl.own w1) (Fl.own w2) (Fl.own w3) _ (by first | (simp; done) | (simp [go_sem]; done)) (by first | (simp; done) | (simp [go_sem]; done)) (by first | (simp; done) | (simp [go_sem]; done)) (by first | (simp; done) | (simp [go_sem]; done))).mono ?_; rw [VA.out]; rintro ex wq ⟨rfl, m1, rfl⟩) | (go_at_call 50; clear tk_b; refine (l03Is_any (k := kb) (Fl.own w4) (Fl.own w5) (Fl.own w6) _ (by first | (simp; done) | (simp [go_sem]; done)) (by first | (simp; done) | (simp [go_sem]; done)) (by first | (simp; done) | (simp [go_sem]; done)) (by first | (simp; done) | (simp [go_sem]; done))).mono ?_; rw [VB.out]; rintro ex wq ⟨rfl, m2, rfl⟩) | (go_at_call 63; refine (l02Share_any hs _).mono ?_; rw [VS.out]; rintro ex wq ⟨rfl, m3, rfl⟩) | (go_at_call 51; refine (l02Is_any (Fl.own w7) (Fl.own w8) _ (by first | (simp; done) | (simp [go_sem]; done)) (by first | (simp; done) | (simp [go_sem]; done))).mono ?_; rw [VP.out]; rintro ex wq ⟨rfl, m4, rfl⟩) | (go_at_call 64; clear tk_c; refine (KA.out _ _ (by first | omega | (simp <;> omega)) (by first | (simp; done) | (simp [go_sem]; done)) (by first | (simp; done) | (simp [go_sem]; done)) (by first | (simp; done) | (simp [go_sem]; done)) (by first | (simp; done) | (simp [go_sem]; done))).mono ?_; rintro ex wa ⟨rfl, b1⟩; have B1 := Hb.mk (Below.on (B := w.heap.size) (a := w) (by repeat (first | exact B0.out | refine Below.drews ?_ | refine Below.drew ?_ | refine Below.alloc ?_ (by have hq_ := B0.out.size; first | omega | (simp <;> omega)) _ | refine Below.setCell ?_ (by have hq_ := B0.out.size; first | omega | (simp <;> omega)) _)) b1 (by have hq_ := B0.out.size; first | omega | (simp <;> omega))); have y0 := Hb.mk (At.keep b1 (p := ⟨w.heap.size + 1, 0, none⟩) (v := .int .i64 kb) (by simp [go_sem]) (by simp [go_sem])); obtain ⟨y0c, y0z, y0l⟩ := y0.out; have y1 := Hb.mk (At.keep b1 (p := ⟨w.heap.size + 1, 1, none⟩) (v := .float .f32 nb) (by simp [go_sem]) (by simp [go_sem])); obtain ⟨y1c, y1z, y1l⟩ := y1.out; have y2 := Hb.mk (At.keep b1 (p := ⟨w.heap.size + 1, 2, none⟩) (v := .float .f32 eb) (by simp [go_sem]) (by simp [go_sem])); obtain ⟨y2c, y2z, y2l⟩ := y2.out; have y3 := Hb.mk (At.keep b1 (p := ⟨w.heap.size + 1, 3, none⟩) (v := .float .f32 fb) (by simp [go_sem]) (by simp [go_sem])); obtain ⟨y3c, y3z, y3l⟩ := y3.out; have p0 := Hb.mk (At.keep b1 (p := ⟨w.heap.size + 2, 0, none⟩) (v := .float .f32 pn) (by simp [go_sem]) (by simp [go_sem])); obtain ⟨p0c, p0z, p0l⟩ := p0.out; have p1 := Hb.mk (At.keep b1 (p := ⟨w.heap.size + 2, 1, none⟩) (v := .float .f32 pe) (by simp [go_sem]) (by simp [go_sem])); obtain ⟨p1c, p1z, p1l⟩ := p1.out; clear b1) | (go_at_call 64; clear tk_d; refine (KB.out _ _ (by first | omega | (simp <;> omega)) (by first | assumption | (simp; done) | (simp [go_sem]; done) | (simp [go_sem, y0c, y1c, y2c, y3c, p0c, p1c]; done)) (by first | assumption | (simp; done) | (simp [go_sem]; done) | (simp [go_sem, y0c, y1c, y2c, y3c, p0c, p1c]; done)) (by first | assumption | (simp; done) | (simp [go_sem]; done) | (simp [go_sem, y0c, y1c, y2c, y3c, p0c, p1c]; done)) (by first | assumption | (simp; done) | (simp [go_sem]; done) | (simp [go_sem, y0c, y1c, y2c, y3c, p0c, p1c]; done))).mono ?_; rintro ex wb ⟨rfl, b2⟩; have B2 := Hb.mk (Below.on (B := w.heap.size) (a := w) (by repeat (first | exact B1.out | refine Below.drews ?_ | refine Below.drew ?_ | refine Below.alloc ?_ (by have hq_ := B1.out.size; first | omega | (simp <;> omega)) _ | refine Below.setCell ?_ (by have hq_ := B1.out.size; first | omega | (simp <;> omega)) _)) b2 (by have hq_ := B1.out.size; first | omega | (simp <;> omega))); clear b2))
    go_ret2
    exact ⟨rfl, (by repeat (first | with_reducible refine Below.setCell ?_ (by first | omega | (simp <;> omega)) _ | with_reducible refine Below.drews ?_ | with_reducible refine Below.drew ?_ | with_reducible refine Below.alloc ?_ (by first | omega | (simp <;> omega)) _ | with_reducible exact B2.out | with_reducible exact Below.refl _ _))⟩
  · cases okb
    · rw [ptT_no (by rfl)]
      go_enter Tryz.func28, Tryz.ntmps28
      have tk_a : True := trivial; have tk_b : True := trivial; have tk_c : True := trivial; have tk_d : True := trivial
      go_wp2_with (first | (go_at_call 50; clear tk_a; refine (l03Is_any (k := ka) (Fl.own w1) (Fl.own w2) (Fl.own w3) _ (by first | (simp; done) | (simp [go_sem]; done)) (by first | (simp; done) | (simp [go_sem]; done)) (by first | (simp; done) | (simp [go_sem]; done)) (by first | (simp; done) | (simp [go_sem]; done))).mono ?_; rw [VA.out]; rintro ex wq ⟨rfl, m1, rfl⟩) | (go_at_call 50; clear tk_b; refine (l03Is_any (k := kb) (Fl.own w4) (Fl.own w5) (Fl.own w6) _ (by first | (simp; done) | (simp [go_sem]; done)) (by first | (simp; done) | (simp [go_sem]; done)) (by first | (simp; done) | (simp [go_sem]; done)) (by first | (simp; done) | (simp [go_sem]; done))).mono ?_; rw [VB.out]; rintro ex wq ⟨rfl, m2, rfl⟩) | (go_at_call 63; refine (l02Share_any hs _).mono ?_; rw [VS.out]; rintro ex wq ⟨rfl, m3, rfl⟩) | (go_at_call 51; refine (l02Is_any (Fl.own w7) (Fl.own w8) _ (by first | (simp; done) | (simp [go_sem]; done)) (by first | (simp; done) | (simp [go_sem]; done))).mono ?_; rw [VP.out]; rintro ex wq ⟨rfl, m4, rfl⟩) | (go_at_call 64; clear tk_c; refine (KA.out _ _ (by first | omega | (simp <;> omega)) (by first | (simp; done) | (simp [go_sem]; done)) (by first | (simp; done) | (simp [go_sem]; done)) (by first | (simp; done) | (simp [go_sem]; done)) (by first | (simp; done) | (simp [go_sem]; done))).mono ?_; rintro ex wa ⟨rfl, b1⟩; have B1 := Hb.mk (Below.on (B := w.heap.size) (a := w) (by repeat (first | exact B0.out | refine Below.drews ?_ | refine Below.drew ?_ | refine Below.alloc ?_ (by have hq_ := B0.out.size; first | omega | (simp <;> omega)) _ | refine Below.setCell ?_ (by have hq_ := B0.out.size; first | omega | (simp <;> omega)) _)) b1 (by have hq_ := B0.out.size; first | omega | (simp <;> omega))); have y0 := Hb.mk (At.keep b1 (p := ⟨w.heap.size + 1, 0, none⟩) (v := .int .i64 kb) (by simp [go_sem]) (by simp [go_sem])); obtain ⟨y0c, y0z, y0l⟩ := y0.out; have y1 := Hb.mk (At.keep b1 (p := ⟨w.heap.size + 1, 1, none⟩) (v := .float .f32 nb) (by simp [go_sem]) (by simp [go_sem])); obtain ⟨y1c, y1z, y1l⟩ := y1.out; have y2 := Hb.mk (At.keep b1 (p := ⟨w.heap.size + 1, 2, none⟩) (v := .float .f32 eb) (by simp [go_sem]) (by simp [go_sem])); obtain ⟨y2c, y2z, y2l⟩ := y2.out; have y3 := Hb.mk (At.keep b1 (p := ⟨w.heap.size + 1, 3, none⟩) (v := .float .f32 fb) (by simp [go_sem]) (by simp [go_sem])); obtain ⟨y3c, y3z, y3l⟩ := y3.out; have p0 := Hb.mk (At.keep b1 (p := ⟨w.heap.size + 2, 0, none⟩) (v := .float .f32 pn) (by simp [go_sem]) (by simp [go_sem])); obtain ⟨p0c, p0z, p0l⟩ := p0.out; have p1 := Hb.mk (At.keep b1 (p := ⟨w.heap.size + 2, 1, none⟩) (v := .float .f32 pe) (by simp [go_sem]) (by simp [go_sem])); obtain ⟨p1c, p1z, p1l⟩ := p1.out; clear b1) | (go_at_call 64; clear tk_d; refine (KB.out _ _ (by first | omega | (simp <;> omega)) (by first | assumption | (simp; done) | (simp [go_sem]; done) | (simp [go_sem, y0c, y1c, y2c, y3c, p0c, p1c]; done)) (by first | assumption | (simp; done) | (simp [go_sem]; done) | (simp [go_sem, y0c, y1c, y2c, y3c, p0c, p1c]; done)) (by first | assumption | (simp; done) | (simp [go_sem]; done) | (simp [go_sem, y0c, y1c, y2c, y3c, p0c, p1c]; done)) (by first | assumption | (simp; done) | (simp [go_sem]; done) | (simp [go_sem, y0c, y1c, y2c, y3c, p0c, p1c]; done))).mono ?_; rintro ex wb ⟨rfl, b2⟩; have B2 := Hb.mk (Below.on (B := w.heap.size) (a := w) (by repeat (first | exact B1.out | refine Below.drews ?_ | refine Below.drew ?_ | refine Below.alloc ?_ (by have hq_ := B1.out.size; first | omega | (simp <;> omega)) _ | refine Below.setCell ?_ (by have hq_ := B1.out.size; first | omega | (simp <;> omega)) _)) b2 (by have hq_ := B1.out.size; first | omega | (simp <;> omega))); clear b2))
      go_ret2
      exact ⟨rfl, (by repeat (first | with_reducible refine Below.setCell ?_ (by first | omega | (simp <;> omega)) _ | with_reducible refine Below.drews ?_ | with_reducible refine Below.drew ?_ | with_reducible refine Below.alloc ?_ (by first | omega | (simp <;> omega)) _ | with_reducible exact B2.out | with_reducible exact Below.refl _ _))⟩
    · rw [Bool.and_self]
      go_enter Tryz.func28, Tryz.ntmps28
      have tk_a : True := trivial; have tk_b : True := trivial; have tk_c : True := trivial; have tk_d : True := trivial; have tk_u : True := trivial; have tk_v : True := trivial; have tk_x : True := trivial; have tk_y : True := trivial; have tk_z : True := trivial; have tk_t : True := trivial
      go_wp2_with (first | (go_at_call 50; clear tk_a; refine (l03Is_any (k := ka) (Fl.own w1) (Fl.own w2) (Fl.own w3) _ (by first | (simp; done) | (simp [go_sem]; done)) (by first | (simp; done) | (simp [go_sem]; done)) (by first | (simp; done) | (simp [go_sem]; done)) (by first | (simp; done) | (simp [go_sem]; done))).mono ?_; rw [VA.out]; rintro ex wq ⟨rfl, m1, rfl⟩) | (go_at_call 50; clear tk_b; refine (l03Is_any (k := kb) (Fl.own w4) (Fl.own w5) (Fl.own w6) _ (by first | (simp; done) | (simp [go_sem]; done)) (by first | (simp; done) | (simp [go_sem]; done)) (by first | (simp; done) | (simp [go_sem]; done)) (by first | (simp; done) | (simp [go_sem]; done))).mono ?_; rw [VB.out]; rintro ex wq ⟨rfl, m2, rfl⟩) | (go_at_call 63; refine (l02Share_any hs _).mono ?_; rw [VS.out]; rintro ex wq ⟨rfl, m3, rfl⟩) | (go_at_call 51; refine (l02Is_any (Fl.own w7) (Fl.own w8) _ (by first | (simp; done) | (simp [go_sem]; done)) (by first | (simp; done) | (simp [go_sem]; done))).mono ?_; rw [VP.out]; rintro ex wq ⟨rfl, m4, rfl⟩) | (go_at_call 64; clear tk_c; refine (KA.out _ _ (by first | omega | (simp <;> omega)) (by first | (simp; done) | (simp [go_sem]; done)) (by first | (simp; done) | (simp [go_sem]; done)) (by first | (simp; done) | (simp [go_sem]; done)) (by first | (simp; done) | (simp [go_sem]; done))).mono ?_; rintro ex wa ⟨rfl, b1⟩; have B1 := Hb.mk (Below.on (B := w.heap.size) (a := w) (by repeat (first | exact B0.out | refine Below.drews ?_ | refine Below.drew ?_ | refine Below.alloc ?_ (by have hq_ := B0.out.size; first | omega | (simp <;> omega)) _ | refine Below.setCell ?_ (by have hq_ := B0.out.size; first | omega | (simp <;> omega)) _)) b1 (by have hq_ := B0.out.size; first | omega | (simp <;> omega))); have y0 := Hb.mk (At.keep b1 (p := ⟨w.heap.size + 1, 0, none⟩) (v := .int .i64 kb) (by simp [go_sem]) (by simp [go_sem])); obtain ⟨y0c, y0z, y0l⟩ := y0.out; have y1 := Hb.mk (At.keep b1 (p := ⟨w.heap.size + 1, 1, none⟩) (v := .float .f32 nb) (by simp [go_sem]) (by simp [go_sem])); obtain ⟨y1c, y1z, y1l⟩ := y1.out; have y2 := Hb.mk (At.keep b1 (p := ⟨w.heap.size + 1, 2, none⟩) (v := .float .f32 eb) (by simp [go_sem]) (by simp [go_sem])); obtain ⟨y2c, y2z, y2l⟩ := y2.out; have y3 := Hb.mk (At.keep b1 (p := ⟨w.heap.size + 1, 3, none⟩) (v := .float .f32 fb) (by simp [go_sem]) (by simp [go_sem])); obtain ⟨y3c, y3z, y3l⟩ := y3.out; have p0 := Hb.mk (At.keep b1 (p := ⟨w.heap.size + 2, 0, none⟩) (v := .float .f32 pn) (by simp [go_sem]) (by simp [go_sem])); obtain ⟨p0c, p0z, p0l⟩ := p0.out; have p1 := Hb.mk (At.keep b1 (p := ⟨w.heap.size + 2, 1, none⟩) (v := .float .f32 pe) (by simp [go_sem]) (by simp [go_sem])); obtain ⟨p1c, p1z, p1l⟩ := p1.out; clear b1) | (go_at_call 64; clear tk_d; refine (KB.out _ _ (by first | omega | (simp <;> omega)) (by first | assumption | (simp; done) | (simp [go_sem]; done) | (simp [go_sem, y0c, y1c, y2c, y3c, p0c, p1c]; done)) (by first | assumption | (simp; done) | (simp [go_sem]; done) | (simp [go_sem, y0c, y1c, y2c, y3c, p0c, p1c]; done)) (by first | assumption | (simp; done) | (simp [go_sem]; done) | (simp [go_sem, y0c, y1c, y2c, y3c, p0c, p1c]; done)) (by first | assumption | (simp; done) | (simp [go_sem]; done) | (simp [go_sem, y0c, y1c, y2c, y3c, p0c, p1c]; done))).mono ?_; rintro ex wb ⟨rfl, b2⟩; have B2 := Hb.mk (Below.on (B := w.heap.size) (a := w) (by repeat (first | exact B1.out | refine Below.drews ?_ | refine Below.drew ?_ | refine Below.alloc ?_ (by have hq_ := B1.out.size; first | omega | (simp <;> omega)) _ | refine Below.setCell ?_ (by have hq_ := B1.out.size; first | omega | (simp <;> omega)) _)) b2 (by have hq_ := B1.out.size; first | omega | (simp <;> omega))); clear b2) | (clear tk_u; refine wpList_fop rfl rfl rfl rfl rfl c1 a1 ?_; intro r_u n_u h_u; simp only [Act.put, List.setIfInBounds_toArray, List.set_cons_succ, List.set_cons_zero]) | (clear tk_v; refine wpList_fop rfl rfl rfl rfl rfl hs h_u ?_; intro r_v n_v h_v; rw [fop_mul_comm] at h_v; simp only [Act.put, List.setIfInBounds_toArray, List.set_cons_succ, List.set_cons_zero]) | (clear tk_x; refine wpList_fop rfl rfl rfl rfl rfl a1 h_v ?_; intro r_x n_x h_x; simp only [Act.put, List.setIfInBounds_toArray, List.set_cons_succ, List.set_cons_zero]) | (clear tk_y; refine wpList_fop rfl rfl rfl rfl rfl c2 a2 ?_; intro r_y n_y h_y; simp only [Act.put, List.setIfInBounds_toArray, List.set_cons_succ, List.set_cons_zero]) | (clear tk_z; refine wpList_fop rfl rfl rfl rfl rfl hs h_y ?_; intro r_z n_z h_z; rw [fop_mul_comm] at h_z; simp only [Act.put, List.setIfInBounds_toArray, List.set_cons_succ, List.set_cons_zero]) | (clear tk_t; refine wpList_fop rfl rfl rfl rfl rfl a2 h_z ?_; intro r_t n_t h_t; simp only [Act.put, List.setIfInBounds_toArray, List.set_cons_succ, List.set_cons_zero]) | (go_at_call 65; refine (l03Number_any h_x h_t _).mono ?_; rintro ee ww ⟨rfl, nn, rfl⟩))
      go_ret2
      exact ⟨rfl, (by repeat (first | with_reducible refine Below.setCell ?_ (by first | omega | (simp <;> omega)) _ | with_reducible refine Below.drews ?_ | with_reducible refine Below.drew ?_ | with_reducible refine Below.alloc ?_ (by first | omega | (simp <;> omega)) _ | with_reducible exact B2.out | with_reducible exact Below.refl _ _))⟩
set_option maxHeartbeats 4000000 in
theorem iMix_any {ka kb : Int} {na ea fa nb eb fb s cs pn pe ra ia rb ib : Nat} {oka okb : Bool} (hs : Fl .f32 cs s) (HA : PtAns ka na ea fa pn pe ra ia oka) (HB : PtAns kb nb eb fb pn pe rb ib okb) (w : World) : Calls Tryz.prog 29 #[mp ka na ea fa, mp kb nb eb fb, .float .f32 s, pl pn pe] w (RS (ptT (mixC ra rb cs) (mixC ia ib cs) (oka && okb && shareIn cs)) w) := by
  have B0 := Hb.mk (Below.refl w.heap.size w)
  have KA := Hb.mk HA.prog
  have KB := Hb.mk HB.prog
  have a1 := HA.fr
  have a2 := HA.fi
  have c1 := HB.fr
  have c2 := HB.fi
  clear HA HB
  cases g1 : fcmp .geq .f32 cs 0
  · rw [show shareIn cs = false by unfold shareIn; rw [g1]; rfl]
    cases oka <;> cases okb <;>
    ( go_enter Tryz.func29, Tryz.ntmps29
      have tk_a : True := trivial; have tk_b : True := trivial
      go_wp2_with (first | (go_at_call 66; clear tk_a; refine (KA.out _).mono ?_; rintro ex wa ⟨rfl, b1⟩; have B1 := Hb.mk (Below.on (B := w.heap.size) (a := w) (by repeat (first | exact B0.out | refine Below.drews ?_ | refine Below.drew ?_ | refine Below.alloc ?_ (by have hq_ := B0.out.size; first | omega | (simp <;> omega)) _ | refine Below.setCell ?_ (by have hq_ := B0.out.size; first | omega | (simp <;> omega)) _)) b1 (by have hq_ := B0.out.size; first | omega | (simp <;> omega))); have y0 := Hb.mk (At.keep b1 (p := ⟨w.heap.size + 1, 0, none⟩) (v := .int .i64 kb) (by simp [go_sem]) (by simp [go_sem])); obtain ⟨y0c, y0z, y0l⟩ := y0.out; have y1 := Hb.mk (At.keep b1 (p := ⟨w.heap.size + 1, 1, none⟩) (v := .float .f32 nb) (by simp [go_sem]) (by simp [go_sem])); obtain ⟨y1c, y1z, y1l⟩ := y1.out; have y2 := Hb.mk (At.keep b1 (p := ⟨w.heap.size + 1, 2, none⟩) (v := .float .f32 eb) (by simp [go_sem]) (by simp [go_sem])); obtain ⟨y2c, y2z, y2l⟩ := y2.out; have y3 := Hb.mk (At.keep b1 (p := ⟨w.heap.size + 1, 3, none⟩) (v := .float .f32 fb) (by simp [go_sem]) (by simp [go_sem])); obtain ⟨y3c, y3z, y3l⟩ := y3.out; have p0 := Hb.mk (At.keep b1 (p := ⟨w.heap.size + 2, 0, none⟩) (v := .float .f32 pn) (by simp [go_sem]) (by simp [go_sem])); obtain ⟨p0c, p0z, p0l⟩ := p0.out; have p1 := Hb.mk (At.keep b1 (p := ⟨w.heap.size + 2, 1, none⟩) (v := .float .f32 pe) (by simp [go_sem]) (by simp [go_sem])); obtain ⟨p1c, p1z, p1l⟩ := p1.out; clear b1) | (go_at_call 66; clear tk_b; refine (KB.out _).mono ?_; rintro ex wb ⟨rfl, b2⟩; have B2 := Hb.mk (Below.on (B := w.heap.size) (a := w) (by repeat (first | exact B1.out | refine Below.drews ?_ | refine Below.drew ?_ | refine Below.alloc ?_ (by have hq_ := B1.out.size; first | omega | (simp <;> omega)) _ | refine Below.setCell ?_ (by have hq_ := B1.out.size; first | omega | (simp <;> omega)) _)) b2 (by have hq_ := B1.out.size; first | omega | (simp <;> omega))); clear b2) | (refine wpList_fcmp rfl rfl rfl rfl rfl (by first | (with_reducible assumption) | (with_reducible exact Fl.ofInt _ _) | exact Fl.not (by decide +kernel) (by decide +kernel)) (by first | (with_reducible assumption) | (with_reducible exact Fl.ofInt _ _) | exact Fl.not (by decide +kernel) (by decide +kernel)) ?_; simp only [Act.put, List.setIfInBounds_toArray, List.set_cons_succ, List.set_cons_zero, g1]) | (go_at_call 68; refine (lessPoint_any c1 c2 a1 a2 _).mono ?_; rintro ex wq ⟨r_u, i_u, rfl, h_u, k_u, n_u, rfl⟩) | (go_at_call 67; refine (iScale_any h_u k_u hs _).mono ?_; rintro ex wq ⟨r_v, i_v, rfl, h_v, k_v, n_v, rfl⟩) | (go_at_call 70; refine (addComplex_any a1 a2 h_v k_v _).mono ?_; rintro ex wq ⟨r_x, i_x, rfl, h_x, k_x, n_x, rfl⟩) | (go_at_call 69; refine (finitePoint_any h_x k_x _).mono ?_; rintro ee ww ⟨rfl, nn, rfl⟩))
      go_ret2
      exact ⟨rfl, (by repeat (first | with_reducible refine Below.setCell ?_ (by first | omega | (simp <;> omega)) _ | with_reducible refine Below.drews ?_ | with_reducible refine Below.drew ?_ | with_reducible refine Below.alloc ?_ (by first | omega | (simp <;> omega)) _ | with_reducible exact B2.out | with_reducible exact Below.refl _ _))⟩ )
  · cases g2 : fcmp .leq .f32 cs 1065353216
    · rw [show shareIn cs = false by unfold shareIn; rw [g1, g2]; rfl]
      cases oka <;> cases okb <;>
      ( go_enter Tryz.func29, Tryz.ntmps29
        have tk_a : True := trivial; have tk_b : True := trivial
        go_wp2_with (first | (go_at_call 66; clear tk_a; refine (KA.out _).mono ?_; rintro ex wa ⟨rfl, b1⟩; have B1 := Hb.mk (Below.on (B := w.heap.size) (a := w) (by repeat (first | exact B0.out | refine Below.drews ?_ | refine Below.drew ?_ | refine Below.alloc ?_ (by have hq_ := B0.out.size; first | omega | (simp <;> omega)) _ | refine Below.setCell ?_ (by have hq_ := B0.out.size; first | omega | (simp <;> omega)) _)) b1 (by have hq_ := B0.out.size; first | omega | (simp <;> omega))); have y0 := Hb.mk (At.keep b1 (p := ⟨w.heap.size + 1, 0, none⟩) (v := .int .i64 kb) (by simp [go_sem]) (by simp [go_sem])); obtain ⟨y0c, y0z, y0l⟩ := y0.out; have y1 := Hb.mk (At.keep b1 (p := ⟨w.heap.size + 1, 1, none⟩) (v := .float .f32 nb) (by simp [go_sem]) (by simp [go_sem])); obtain ⟨y1c, y1z, y1l⟩ := y1.out; have y2 := Hb.mk (At.keep b1 (p := ⟨w.heap.size + 1, 2, none⟩) (v := .float .f32 eb) (by simp [go_sem]) (by simp [go_sem])); obtain ⟨y2c, y2z, y2l⟩ := y2.out; have y3 := Hb.mk (At.keep b1 (p := ⟨w.heap.size + 1, 3, none⟩) (v := .float .f32 fb) (by simp [go_sem]) (by simp [go_sem])); obtain ⟨y3c, y3z, y3l⟩ := y3.out; have p0 := Hb.mk (At.keep b1 (p := ⟨w.heap.size + 2, 0, none⟩) (v := .float .f32 pn) (by simp [go_sem]) (by simp [go_sem])); obtain ⟨p0c, p0z, p0l⟩ := p0.out; have p1 := Hb.mk (At.keep b1 (p := ⟨w.heap.size + 2, 1, none⟩) (v := .float .f32 pe) (by simp [go_sem]) (by simp [go_sem])); obtain ⟨p1c, p1z, p1l⟩ := p1.out; clear b1) | (go_at_call 66; clear tk_b; refine (KB.out _).mono ?_; rintro ex wb ⟨rfl, b2⟩; have B2 := Hb.mk (Below.on (B := w.heap.size) (a := w) (by repeat (first | exact B1.out | refine Below.drews ?_ | refine Below.drew ?_ | refine Below.alloc ?_ (by have hq_ := B1.out.size; first | omega | (simp <;> omega)) _ | refine Below.setCell ?_ (by have hq_ := B1.out.size; first | omega | (simp <;> omega)) _)) b2 (by have hq_ := B1.out.size; first | omega | (simp <;> omega))); clear b2) | (refine wpList_fcmp rfl rfl rfl rfl rfl (by first | (with_reducible assumption) | (with_reducible exact Fl.ofInt _ _) | exact Fl.not (by decide +kernel) (by decide +kernel)) (by first | (with_reducible assumption) | (with_reducible exact Fl.ofInt _ _) | exact Fl.not (by decide +kernel) (by decide +kernel)) ?_; simp only [Act.put, List.setIfInBounds_toArray, List.set_cons_succ, List.set_cons_zero, g1]) | (refine wpList_fcmp_g rfl rfl rfl rfl rfl (by first | (with_reducible assumption) | (with_reducible exact Fl.ofInt _ _) | exact Fl.not (by decide +kernel) (by decide +kernel)) (by first | (with_reducible assumption) | (with_reducible exact Fl.ofInt _ _) | exact Fl.not (by decide +kernel) (by decide +kernel)) ?_; simp only [Act.put, List.setIfInBounds_toArray, List.set_cons_succ, List.set_cons_zero, g2]) | (go_at_call 68; refine (lessPoint_any c1 c2 a1 a2 _).mono ?_; rintro ex wq ⟨r_u, i_u, rfl, h_u, k_u, n_u, rfl⟩) | (go_at_call 67; refine (iScale_any h_u k_u hs _).mono ?_; rintro ex wq ⟨r_v, i_v, rfl, h_v, k_v, n_v, rfl⟩) | (go_at_call 70; refine (addComplex_any a1 a2 h_v k_v _).mono ?_; rintro ex wq ⟨r_x, i_x, rfl, h_x, k_x, n_x, rfl⟩) | (go_at_call 69; refine (finitePoint_any h_x k_x _).mono ?_; rintro ee ww ⟨rfl, nn, rfl⟩))
        go_ret2
        exact ⟨rfl, (by repeat (first | with_reducible refine Below.setCell ?_ (by first | omega | (simp <;> omega)) _ | with_reducible refine Below.drews ?_ | with_reducible refine Below.drew ?_ | with_reducible refine Below.alloc ?_ (by first | omega | (simp <;> omega)) _ | with_reducible exact B2.out | with_reducible exact Below.refl _ _))⟩ )
    · rw [show shareIn cs = true by unfold shareIn; rw [g1, g2]; rfl]
      cases oka <;> cases okb <;>
      ( go_enter Tryz.func29, Tryz.ntmps29
        have tk_a : True := trivial; have tk_b : True := trivial
        go_wp2_with (first | (go_at_call 66; clear tk_a; refine (KA.out _).mono ?_; rintro ex wa ⟨rfl, b1⟩; have B1 := Hb.mk (Below.on (B := w.heap.size) (a := w) (by repeat (first | exact B0.out | refine Below.drews ?_ | refine Below.drew ?_ | refine Below.alloc ?_ (by have hq_ := B0.out.size; first | omega | (simp <;> omega)) _ | refine Below.setCell ?_ (by have hq_ := B0.out.size; first | omega | (simp <;> omega)) _)) b1 (by have hq_ := B0.out.size; first | omega | (simp <;> omega))); have y0 := Hb.mk (At.keep b1 (p := ⟨w.heap.size + 1, 0, none⟩) (v := .int .i64 kb) (by simp [go_sem]) (by simp [go_sem])); obtain ⟨y0c, y0z, y0l⟩ := y0.out; have y1 := Hb.mk (At.keep b1 (p := ⟨w.heap.size + 1, 1, none⟩) (v := .float .f32 nb) (by simp [go_sem]) (by simp [go_sem])); obtain ⟨y1c, y1z, y1l⟩ := y1.out; have y2 := Hb.mk (At.keep b1 (p := ⟨w.heap.size + 1, 2, none⟩) (v := .float .f32 eb) (by simp [go_sem]) (by simp [go_sem])); obtain ⟨y2c, y2z, y2l⟩ := y2.out; have y3 := Hb.mk (At.keep b1 (p := ⟨w.heap.size + 1, 3, none⟩) (v := .float .f32 fb) (by simp [go_sem]) (by simp [go_sem])); obtain ⟨y3c, y3z, y3l⟩ := y3.out; have p0 := Hb.mk (At.keep b1 (p := ⟨w.heap.size + 2, 0, none⟩) (v := .float .f32 pn) (by simp [go_sem]) (by simp [go_sem])); obtain ⟨p0c, p0z, p0l⟩ := p0.out; have p1 := Hb.mk (At.keep b1 (p := ⟨w.heap.size + 2, 1, none⟩) (v := .float .f32 pe) (by simp [go_sem]) (by simp [go_sem])); obtain ⟨p1c, p1z, p1l⟩ := p1.out; clear b1) | (go_at_call 66; clear tk_b; refine (KB.out _).mono ?_; rintro ex wb ⟨rfl, b2⟩; have B2 := Hb.mk (Below.on (B := w.heap.size) (a := w) (by repeat (first | exact B1.out | refine Below.drews ?_ | refine Below.drew ?_ | refine Below.alloc ?_ (by have hq_ := B1.out.size; first | omega | (simp <;> omega)) _ | refine Below.setCell ?_ (by have hq_ := B1.out.size; first | omega | (simp <;> omega)) _)) b2 (by have hq_ := B1.out.size; first | omega | (simp <;> omega))); clear b2) | (refine wpList_fcmp rfl rfl rfl rfl rfl (by first | (with_reducible assumption) | (with_reducible exact Fl.ofInt _ _) | exact Fl.not (by decide +kernel) (by decide +kernel)) (by first | (with_reducible assumption) | (with_reducible exact Fl.ofInt _ _) | exact Fl.not (by decide +kernel) (by decide +kernel)) ?_; simp only [Act.put, List.setIfInBounds_toArray, List.set_cons_succ, List.set_cons_zero, g1]) | (refine wpList_fcmp_g rfl rfl rfl rfl rfl (by first | (with_reducible assumption) | (with_reducible exact Fl.ofInt _ _) | exact Fl.not (by decide +kernel) (by decide +kernel)) (by first | (with_reducible assumption) | (with_reducible exact Fl.ofInt _ _) | exact Fl.not (by decide +kernel) (by decide +kernel)) ?_; simp only [Act.put, List.setIfInBounds_toArray, List.set_cons_succ, List.set_cons_zero, g2]) | (go_at_call 68; refine (lessPoint_any c1 c2 a1 a2 _).mono ?_; rintro ex wq ⟨r_u, i_u, rfl, h_u, k_u, n_u, rfl⟩) | (go_at_call 67; refine (iScale_any h_u k_u hs _).mono ?_; rintro ex wq ⟨r_v, i_v, rfl, h_v, k_v, n_v, rfl⟩) | (go_at_call 70; refine (addComplex_any a1 a2 h_v k_v _).mono ?_; rintro ex wq ⟨r_x, i_x, rfl, h_x, k_x, n_x, rfl⟩) | (go_at_call 69; refine (finitePoint_any h_x k_x _).mono ?_; rintro ee ww ⟨rfl, nn, rfl⟩))
        go_ret2
        exact ⟨rfl, (by repeat (first | with_reducible refine Below.setCell ?_ (by first | omega | (simp <;> omega)) _ | with_reducible refine Below.drews ?_ | with_reducible refine Below.drew ?_ | with_reducible refine Below.alloc ?_ (by first | omega | (simp <;> omega)) _ | with_reducible exact B2.out | with_reducible exact Below.refl _ _))⟩ )
theorem mixes {ka kb : Int} {na ea fa nb eb fb s pn pe : Nat} (w1 : (Lit.float .f32 na).wf = true) (w2 : (Lit.float .f32 ea).wf = true) (w3 : (Lit.float .f32 fa).wf = true) (w4 : (Lit.float .f32 nb).wf = true) (w5 : (Lit.float .f32 eb).wf = true) (w6 : (Lit.float .f32 fb).wf = true) (w7 : (Lit.float .f32 pn).wf = true) (w8 : (Lit.float .f32 pe).wf = true) (ws : (Lit.float .f32 s).wf = true) : ∃ r i ok, Fl .f32 r r ∧ Fl .f32 i i ∧ (∀ w, Calls Tryz.prog 28 #[mp ka na ea fa, mp kb nb eb fb, .float .f32 s, pl pn pe] w (RS (cxT r i ok) w)) ∧ (∀ w, Calls Tryz.prog 29 #[mp ka na ea fa, mp kb nb eb fb, .float .f32 s, pl pn pe] w (RS (cxT r i ok) w)) := by
  obtain ⟨ra, ia, oka, HA⟩ := ptAns (k := ka) w1 w2 w3 w7 w8
  obtain ⟨rb, ib, okb, HB⟩ := ptAns (k := kb) w4 w5 w6 w7 w8
  have hs := Fl.own ws
  obtain ⟨g1, g2⟩ := pt_fl (cr := mixC ra rb (nrm .f32 s)) (ci := mixC ia ib (nrm .f32 s)) (wf_fop _ _ _ _) (oka && okb && shareIn (nrm .f32 s)) (wf_fop _ _ _ _)
  refine ⟨_, _, _, g1, g2, fun w => ?_, fun w => iMix_any hs HA HB w⟩
  show Calls _ _ _ w (RS (ptT _ _ _) w)
  cases va : validM ka (nrm .f32 na) (nrm .f32 ea) (nrm .f32 fa)
  · rw [show oka = false from HA.bad0 va, ptT_no (by rfl)]
    exact sMix_a w1 w2 w3 w4 w5 w6 w7 w8 hs va w
  · cases vb : validM kb (nrm .f32 nb) (nrm .f32 eb) (nrm .f32 fb)
    · rw [show okb = false from HB.bad0 vb, ptT_no (by rw [Bool.and_false]; rfl)]
      exact sMix_b w1 w2 w3 w4 w5 w6 w7 w8 hs va vb w
    · cases vs : shareIn (nrm .f32 s)
      · rw [ptT_no (by rw [Bool.and_false]; rfl)]
        exact sMix_s w1 w2 w3 w4 w5 w6 w7 w8 hs va vb vs w
      · cases vp : validC (nrm .f32 pn) (nrm .f32 pe)
        · rw [show oka = false from HA.bad1 vp, ptT_no (by rfl)]
          exact sMix_p w1 w2 w3 w4 w5 w6 w7 w8 hs va vb vs vp w
        · rw [Bool.and_true]
          exact sMix_yes w1 w2 w3 w4 w5 w6 w7 w8 hs va vb vs vp HA HB w
set_option maxHeartbeats 4000000 in
theorem law_MixPoint {ka kb : Int} {na ea fa nb eb fb s pn pe : Nat} (_wk : (Lit.int .i64 ka).wf = true) (w1 : (Lit.float .f32 na).wf = true) (w2 : (Lit.float .f32 ea).wf = true) (w3 : (Lit.float .f32 fa).wf = true) (_wl : (Lit.int .i64 kb).wf = true) (w4 : (Lit.float .f32 nb).wf = true) (w5 : (Lit.float .f32 eb).wf = true) (w6 : (Lit.float .f32 fb).wf = true) (ws : (Lit.float .f32 s).wf = true) (w7 : (Lit.float .f32 pn).wf = true) (w8 : (Lit.float .f32 pe).wf = true) (w : World) : Calls Tryz.prog 5 #[mp ka na ea fa, mp kb nb eb fb, .float .f32 s, pl pn pe] w (RS (.bool true) w) := by
  have B0 := Hb.mk (Below.refl w.heap.size w)
  obtain ⟨r, i, ok, fr, fi, hS, hI⟩ := mixes (ka := ka) (kb := kb) w1 w2 w3 w4 w5 w6 w7 w8 ws
  have HS := Hb.mk hS
  have HI := Hb.mk hI
  clear hS hI w1 w2 w3 w4 w5 w6 w7 w8 ws _wk _wl
  go_enter Tryz.func5, Tryz.ntmps5
  go_wp2
  refine region_all (by kernel_rfl) (by kernel_rfl) (fun I1 F1 hne1 HB1 hcl => ?_)
  have x0_1 := keepF HB1 (p := ⟨w.heap.size, 0, none⟩) (v := .int .i64 ka) (by simp [go_sem])
  have x1_1 := keepF HB1 (p := ⟨w.heap.size, 1, none⟩) (v := .float .f32 na) (by simp [go_sem])
  have x2_1 := keepF HB1 (p := ⟨w.heap.size, 2, none⟩) (v := .float .f32 ea) (by simp [go_sem])
  have x3_1 := keepF HB1 (p := ⟨w.heap.size, 3, none⟩) (v := .float .f32 fa) (by simp [go_sem])
  have y0_1 := keepF HB1 (p := ⟨w.heap.size + 1, 0, none⟩) (v := .int .i64 kb) (by simp [go_sem])
  have y1_1 := keepF HB1 (p := ⟨w.heap.size + 1, 1, none⟩) (v := .float .f32 nb) (by simp [go_sem])
  have y2_1 := keepF HB1 (p := ⟨w.heap.size + 1, 2, none⟩) (v := .float .f32 eb) (by simp [go_sem])
  have y3_1 := keepF HB1 (p := ⟨w.heap.size + 1, 3, none⟩) (v := .float .f32 fb) (by simp [go_sem])
  have a0_1 := keepF HB1 (p := ⟨w.heap.size + 2, 0, none⟩) (v := .float .f32 pn) (by simp [go_sem])
  have a1_1 := keepF HB1 (p := ⟨w.heap.size + 2, 1, none⟩) (v := .float .f32 pe) (by simp [go_sem])
  repeat (quiet_step (first | (go_at_call 16; exact callS hcl (toMap_any _ _ _ _ _)) | (go_at_call 17; exact callS hcl (toPlace_any _ _ _)) | (go_at_call 28; exact callS hcl (HS.out _))))
  refine wpQuiet_nil ?_
  intro _ hw'
  obtain ⟨i1, rfl⟩ := hw'
  clear hcl
  have E1 := HB1.out i1
  have B1 := Hb.mk (Below.on (B := w.heap.size) (a := w) (by repeat (first | exact B0.out | refine Below.drews ?_ | refine Below.drew ?_ | refine Below.alloc ?_ (by have hq_ := B0.out.size; first | omega | (simp <;> omega)) _ | refine Below.setCell ?_ (by have hq_ := B0.out.size; first | omega | (simp <;> omega)) _)) E1 (by have hq_ := B0.out.size; first | omega | (simp <;> omega)))
  clear E1
  go_wp2
  refine region_all (by kernel_rfl) (by kernel_rfl) (fun I2 F2 hne2 HB2 hcl => ?_)
  have x0_2 := keepF HB2 (p := ⟨w.heap.size, 0, none⟩) (v := .int .i64 ka) (by first | simp [(x0_1 i1), go_sem] | exact x0_1 i1)
  have x1_2 := keepF HB2 (p := ⟨w.heap.size, 1, none⟩) (v := .float .f32 na) (by first | simp [(x1_1 i1), go_sem] | exact x1_1 i1)
  have x2_2 := keepF HB2 (p := ⟨w.heap.size, 2, none⟩) (v := .float .f32 ea) (by first | simp [(x2_1 i1), go_sem] | exact x2_1 i1)
  have x3_2 := keepF HB2 (p := ⟨w.heap.size, 3, none⟩) (v := .float .f32 fa) (by first | simp [(x3_1 i1), go_sem] | exact x3_1 i1)
  have y0_2 := keepF HB2 (p := ⟨w.heap.size + 1, 0, none⟩) (v := .int .i64 kb) (by first | simp [(y0_1 i1), go_sem] | exact y0_1 i1)
  have y1_2 := keepF HB2 (p := ⟨w.heap.size + 1, 1, none⟩) (v := .float .f32 nb) (by first | simp [(y1_1 i1), go_sem] | exact y1_1 i1)
  have y2_2 := keepF HB2 (p := ⟨w.heap.size + 1, 2, none⟩) (v := .float .f32 eb) (by first | simp [(y2_1 i1), go_sem] | exact y2_1 i1)
  have y3_2 := keepF HB2 (p := ⟨w.heap.size + 1, 3, none⟩) (v := .float .f32 fb) (by first | simp [(y3_1 i1), go_sem] | exact y3_1 i1)
  have a0_2 := keepF HB2 (p := ⟨w.heap.size + 2, 0, none⟩) (v := .float .f32 pn) (by first | simp [(a0_1 i1), go_sem] | exact a0_1 i1)
  have a1_2 := keepF HB2 (p := ⟨w.heap.size + 2, 1, none⟩) (v := .float .f32 pe) (by first | simp [(a1_1 i1), go_sem] | exact a1_1 i1)
  repeat (quiet_step (first | (go_at_call 16; exact callS hcl (toMap_any _ _ _ _ _)) | (go_at_call 17; exact callS hcl (toPlace_any _ _ _)) | (go_at_call 29; exact callS hcl (HI.out _))))
  refine wpQuiet_nil ?_
  intro _ hw'
  obtain ⟨i2, rfl⟩ := hw'
  clear hcl
  have E2 := HB2.out i2
  have B2 := Hb.mk (Below.on (B := w.heap.size) (a := w) (by repeat (first | exact B1.out | refine Below.drews ?_ | refine Below.drew ?_ | refine Below.alloc ?_ (by have hq_ := B1.out.size; first | omega | (simp <;> omega)) _ | refine Below.setCell ?_ (by have hq_ := B1.out.size; first | omega | (simp <;> omega)) _)) E2 (by have hq_ := B1.out.size; first | omega | (simp <;> omega)))
  clear E2
  have tk_a : True := trivial; have tk_b : True := trivial
  go_wp2_with (first
    | (clear tk_a; refine wpList_ccv rfl rfl rfl (by kernel_rfl) Tryz.underlying46 fr fi ?_; intro r3 i3 n gg2 kk2; simp only [Act.put, List.setIfInBounds_toArray, List.set_cons_succ, List.set_cons_zero])
    | (clear tk_b; refine wpList_ccv rfl rfl rfl (by kernel_rfl) Tryz.underlying46 fr fi ?_; intro r4 i4 n gg1 kk1; simp only [Act.put, List.setIfInBounds_toArray, List.set_cons_succ, List.set_cons_zero])
    | (go_at_call 26; refine (sameComplex_any gg2 kk2 gg1 kk1 _).mono ?_; rintro e w' ⟨rfl, n, rfl⟩))
  go_ret
  exact ⟨rfl, (by repeat (first | with_reducible refine Below.setCell ?_ (by first | omega | (simp <;> omega)) _ | with_reducible refine Below.drews ?_ | with_reducible refine Below.drew ?_ | with_reducible refine Below.alloc ?_ (by first | omega | (simp <;> omega)) _ | with_reducible exact B2.out | with_reducible exact Below.refl _ _))⟩
end Go.Proofs.YtjjhklfpdllijacGreat
