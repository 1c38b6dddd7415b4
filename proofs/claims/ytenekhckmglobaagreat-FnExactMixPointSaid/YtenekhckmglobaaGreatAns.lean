/-
  What PointOf answers for any words, of the program and of its model, and how great its parts are. No condition.
-/
import Derived.Test.YtenekhckmglobaaGreatPtL
import Derived.Test.YtenekhckmglobaaGreatBou
namespace Go.Proofs.YtenekhckmglobaaGreat
open Go Go.RowKit
set_option maxRecDepth 100000

theorem fop_mul_comm (k : FloatKind) (x y : Nat) : fop .mul k x y = fop .mul k y x := by
  unfold fop floatBits Ieee.Format.mul
  dsimp only
  have h : (k.format.read x).product (k.format.read y) = (k.format.read y).product (k.format.read x) := by
    cases k.format.read x <;> cases k.format.read y <;> simp [Ieee.Datum.product, Bool.xor_comm, Nat.mul_comm, Int.add_comm]
  rw [h]
theorem lessPoint_any {cr ci dr di r i s j : Nat} (h1 : Fl .f32 cr r) (h2 : Fl .f32 ci i) (h3 : Fl .f32 dr s) (h4 : Fl .f32 di j) (w : World) : Calls Tryz.prog 46 #[.complex .f32 r i, .complex .f32 s j] w (RC (fop .sub .f32 cr dr) (fop .sub .f32 ci di) w) := by
  go_enter Tryz.func46, Tryz.ntmps46
  have tk_u : True := trivial; have tk_v : True := trivial
  go_wp2_with (first | (clear tk_u; refine wpList_fop rfl rfl rfl rfl rfl h1 h3 ?_; intro u n_u h_u; simp only [Act.put, List.setIfInBounds_toArray, List.set_cons_succ, List.set_cons_zero]) | (clear tk_v; refine wpList_fop rfl rfl rfl rfl rfl h2 h4 ?_; intro v n_v h_v; simp only [Act.put, List.setIfInBounds_toArray, List.set_cons_succ, List.set_cons_zero]))
  go_ret
  exact ⟨_, _, rfl, h_u, h_v, (by repeat (first | exact Drew.refl _ | refine Drew.more ?_))⟩
theorem dividePoint_any {cr ci c r i x : Nat} (h1 : Fl .f32 cr r) (h2 : Fl .f32 ci i) (h3 : Fl .f32 c x) (w : World) : Calls Tryz.prog 136 #[.complex .f32 r i, .float .f32 x] w (RC (fop .quo .f32 cr c) (fop .quo .f32 ci c) w) := by
  go_enter Tryz.func136, Tryz.ntmps136
  have tk_u : True := trivial; have tk_v : True := trivial
  go_wp2_with (first | (clear tk_u; refine wpList_fop rfl rfl rfl rfl rfl h1 h3 ?_; intro ru n_u h_u; simp only [Act.put, List.setIfInBounds_toArray, List.set_cons_succ, List.set_cons_zero]) | (clear tk_v; refine wpList_fop rfl rfl rfl rfl rfl h2 h3 ?_; intro rv n_v h_v; simp only [Act.put, List.setIfInBounds_toArray, List.set_cons_succ, List.set_cons_zero]))
  go_ret
  exact ⟨_, _, rfl, h_u, h_v, (by repeat (first | exact Drew.refl _ | refine Drew.more ?_))⟩
theorem addComplex_any {cr ci dr di r i s j : Nat} (h1 : Fl .f32 cr r) (h2 : Fl .f32 ci i) (h3 : Fl .f32 dr s) (h4 : Fl .f32 di j) (w : World) : Calls Tryz.prog 50 #[.complex .f32 r i, .complex .f32 s j] w (RC (fop .add .f32 cr dr) (fop .add .f32 ci di) w) := by
  go_enter Tryz.func50, Tryz.ntmps50
  have tk_u : True := trivial; have tk_v : True := trivial
  go_wp2_with (first | (clear tk_u; refine wpList_fop rfl rfl rfl rfl rfl h1 h3 ?_; intro u n_u h_u; simp only [Act.put, List.setIfInBounds_toArray, List.set_cons_succ, List.set_cons_zero]) | (clear tk_v; refine wpList_fop rfl rfl rfl rfl rfl h2 h4 ?_; intro v n_v h_v; simp only [Act.put, List.setIfInBounds_toArray, List.set_cons_succ, List.set_cons_zero]))
  go_ret
  exact ⟨_, _, rfl, h_u, h_v, (by repeat (first | exact Drew.refl _ | refine Drew.more ?_))⟩
theorem zero_big : Ab .f32 0 big46 := ⟨by decide +kernel, big_fin⟩
theorem pt_big {cr ci : Nat} {ok : Bool} (h : Small cr ci ok) : Ab .f32 (ptR cr ci ok) big46 ∧ Ab .f32 (ptI cr ci ok) big46 := by
  unfold ptR ptI
  by_cases g : ptOk cr ci ok = true
  · rw [if_pos g, if_pos g]
    unfold ptOk at g
    rw [Bool.and_eq_true] at g
    exact h g.1
  · rw [if_neg g, if_neg g]; exact ⟨zero_big, zero_big⟩
/-- What the program's PointOf answers for any words; where it is valid the model's point is the same, where not it fails. -/
structure PtAns (k : Int) (mn me f pn pe r i : Nat) (ok : Bool) : Prop where
  fr : Fl .f32 r r
  fi : Fl .f32 i i
  prog : ∀ w, Calls Tryz.prog 11 #[mp k mn me f, pl pn pe] w (RS (cxT r i ok) w)
  model : validM k (nrm .f32 mn) (nrm .f32 me) (nrm .f32 f) = true → validC (nrm .f32 pn) (nrm .f32 pe) = true → ∀ g (w : World), g < w.heap.size → w.cell? ⟨g, 0, none⟩ = some (.int .i64 k) → w.cell? ⟨g, 1, none⟩ = some (.float .f32 mn) → w.cell? ⟨g, 2, none⟩ = some (.float .f32 me) → w.cell? ⟨g, 3, none⟩ = some (.float .f32 f) → Calls Tryz.prog 24 #[.pointer (some ⟨g, 0, none⟩), pl pn pe] w (RS (cxT r i ok) w)
  bad0 : validM k (nrm .f32 mn) (nrm .f32 me) (nrm .f32 f) = false → ok = false
  bad1 : validC (nrm .f32 pn) (nrm .f32 pe) = false → ok = false
  br : Ab .f32 r big46
  bi : Ab .f32 i big46
theorem ptAns {k : Int} {mn me f pn pe : Nat} (w1 : (Lit.float .f32 mn).wf = true) (w2 : (Lit.float .f32 me).wf = true) (w3 : (Lit.float .f32 f).wf = true) (w4 : (Lit.float .f32 pn).wf = true) (w5 : (Lit.float .f32 pe).wf = true) :
    ∃ r i ok, PtAns k mn me f pn pe r i ok := by
  have h0 : Fl .f32 0 0 := Fl.not (by decide +kernel) (by decide +kernel)
  cases hv : validM k (nrm .f32 mn) (nrm .f32 me) (nrm .f32 f)
  · exact ⟨0, 0, false, h0, h0, fun w => iPointOf_no0 (Fl.own w1) (Fl.own w2) (Fl.own w3) (Fl.own w4) (Fl.own w5) hv w, (fun h => by rw [hv] at h; cases h), fun _ => rfl, fun _ => rfl, zero_big, zero_big⟩
  · cases hp : validC (nrm .f32 pn) (nrm .f32 pe)
    · exact ⟨0, 0, false, h0, h0, fun w => iPointOf_no1 (Fl.own w1) (Fl.own w2) (Fl.own w3) (Fl.own w4) (Fl.own w5) hv hp w, (fun _ h => by rw [hp] at h; cases h), fun _ => rfl, fun _ => rfl, zero_big, zero_big⟩
    · have hv' := hv
      have hv2 := hv
      have hp2 := hp
      unfold validM at hv'
      simp only [Bool.and_eq_true] at hv'
      obtain ⟨f1, e1⟩ := own_word w1 (valid_ab hv'.2.1).1.fin
      obtain ⟨f2, e2⟩ := own_word w2 (valid_ab hv'.2.1).2.fin
      obtain ⟨f3, e3⟩ := own_word w3 (first_turn hv'.2.2).ab.fin
      obtain ⟨f4, e4⟩ := own_word w4 (valid_ab hp).1.fin
      obtain ⟨f5, e5⟩ := own_word w5 (valid_ab hp).2.fin
      rw [e1, e2, e3] at hv2
      rw [e4, e5] at hp2
      obtain ⟨cr, ci, ok, wr, wi, hB, hL, hI⟩ := lpointsB f1 f2 f3 f4 f5 hv2 hp2
      obtain ⟨g1, g2⟩ := pt_fl wr ok wi
      exact ⟨_, _, _, g1, g2, hI, fun _ _ => hL, (fun h => by rw [hv] at h; cases h), (fun h => by rw [hp] at h; cases h), (pt_big hB).1, (pt_big hB).2⟩
end Go.Proofs.YtenekhckmglobaaGreat
