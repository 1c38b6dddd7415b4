/-
  The middle of two places, of the program and of its model; the exact law MidwayOf. No condition.
-/
import Derived.Test.YtfmhbmehidlhiaaApt
import Derived.Test.YtfmhbmehidlhiaaPla
import Derived.Test.YtfmhbmehidlhiaaLat0
namespace Go.Proofs.Ytfmhbmehidlhiaa
open Go Go.RowKit
set_option maxRecDepth 100000
theorem extract_pure {P : Program} {ops : Array Oper} {o : Oper} {x : Operand} {j : Nat} (ho : o.op = .extract x j) (C : World → Prop) (R : World → World → Prop) (a : Act) (v : Value) (hC : ∃ w, C w) (hy : YR P ops C R o v a) : Yields P ops o v a := by
  obtain ⟨dst, op, ty, pos, af, gd⟩ := o
  change op = .extract x j at ho
  subst ho
  rcases hy with ⟨h1, h2⟩ | h
  · obtain ⟨w0, hw0⟩ := hC
    refine .inl ⟨h1, fun w => ?_⟩
    have h3 := h2 w0 hw0
    revert h3
    simp only [execOp]
    generalize a.eval x = y
    unfold Instr.extract
    cases y
    case tuple vs =>
      cases hv : vs[j]?
      · simp [Oper.quietUpon, stuck, hv, Result.andThen, go_sem]
      · simp [Oper.quietUpon, hv, go_sem]
    all_goals simp [Oper.quietUpon, stuck, Result.andThen, go_sem]
  · exact .inr h
theorem wayPlus_any {x y z a b c x' y' z' a' b' c' : Nat} (h1 : Fl .f32 x a) (h2 : Fl .f32 y b) (h3 : Fl .f32 z c) (h4 : Fl .f32 x' a') (h5 : Fl .f32 y' b') (h6 : Fl .f32 z' c') (w : World) : Calls Try.prog 71 #[wy a b c, wy a' b' c'] w (RWB (fop .add .f32 x x') (fop .add .f32 y y') (fop .add .f32 z z') w) := by
  go_enter Try.func71, Try.ntmps71
  have tk_m1 : True := trivial; have tk_m2 : True := trivial; have tk_m3 : True := trivial
  go_wp2_with (first | (clear tk_m1; refine wpList_fop rfl rfl rfl rfl rfl h1 h4 ?_; intro m1 n_m1 h_m1; simp only [Act.put, List.setIfInBounds_toArray, List.set_cons_succ, List.set_cons_zero]) | (clear tk_m2; refine wpList_fop rfl rfl rfl rfl rfl h2 h5 ?_; intro m2 n_m2 h_m2; simp only [Act.put, List.setIfInBounds_toArray, List.set_cons_succ, List.set_cons_zero]) | (clear tk_m3; refine wpList_fop rfl rfl rfl rfl rfl h3 h6 ?_; intro m3 n_m3 h_m3; simp only [Act.put, List.setIfInBounds_toArray, List.set_cons_succ, List.set_cons_zero]))
  exact bodyPost_ret (v := wy m1 m2 m3) (by simp [results, Try.results71, go_sem]) rfl ⟨_, _, _, rfl, h_m1, h_m2, h_m3, (by repeat (first | exact Below.refl _ _ | with_reducible assumption | refine Below.drews ?_ | refine Below.drew ?_ | refine Below.alloc ?_ (by simp <;> omega) _ | refine Below.setCell ?_ (by simp <;> omega) _))⟩
theorem l02Add_any {x y z a b c x' y' z' a' b' c' : Nat} (h1 : Fl .f32 x a) (h2 : Fl .f32 y b) (h3 : Fl .f32 z c) (h4 : Fl .f32 x' a') (h5 : Fl .f32 y' b') (h6 : Fl .f32 z' c') (w : World) : Calls Try.prog 64 #[wy a b c, wy a' b' c'] w (RWB (fop .add .f32 x x') (fop .add .f32 y y') (fop .add .f32 z z') w) := by
  go_enter Try.func64, Try.ntmps64
  have tk_m1 : True := trivial; have tk_m2 : True := trivial; have tk_m3 : True := trivial
  go_wp2_with (first | (clear tk_m1; refine wpList_fop rfl rfl rfl rfl rfl h1 h4 ?_; intro m1 n_m1 h_m1; simp only [Act.put, List.setIfInBounds_toArray, List.set_cons_succ, List.set_cons_zero]) | (clear tk_m2; refine wpList_fop rfl rfl rfl rfl rfl h2 h5 ?_; intro m2 n_m2 h_m2; simp only [Act.put, List.setIfInBounds_toArray, List.set_cons_succ, List.set_cons_zero]) | (clear tk_m3; refine wpList_fop rfl rfl rfl rfl rfl h3 h6 ?_; intro m3 n_m3 h_m3; simp only [Act.put, List.setIfInBounds_toArray, List.set_cons_succ, List.set_cons_zero]))
  exact bodyPost_ret (v := wy m1 m2 m3) (by simp [results, Try.results64, go_sem]) rfl ⟨_, _, _, rfl, h_m1, h_m2, h_m3, (by repeat (first | exact Below.refl _ _ | with_reducible assumption | refine Below.drews ?_ | refine Below.drew ?_ | refine Below.alloc ?_ (by simp <;> omega) _ | refine Below.setCell ?_ (by simp <;> omega) _))⟩
theorem Wb.plus {x y z x' y' z' : Nat} (h : Wb x y z 1082130432) (g : Wb x' y' z' 1082130432) : Wb (fop .add .f32 x x') (fop .add .f32 y y') (fop .add .f32 z z') 1090519040 := by
  have a1 : Ab .f32 (fop .add .f32 x x') 1090519040 := add_ab h.ax g.ax (by decide +kernel) (by decide +kernel)
  have a2 : Ab .f32 (fop .add .f32 y y') 1090519040 := add_ab h.ay g.ay (by decide +kernel) (by decide +kernel)
  have a3 : Ab .f32 (fop .add .f32 z z') 1090519040 := add_ab h.az g.az (by decide +kernel) (by decide +kernel)
  exact ⟨a1, a2, a3, fop_fl (op := .add) a1.fin, fop_fl (op := .add) a2.fin, fop_fl (op := .add) a3.fin⟩
end Go.Proofs.Ytfmhbmehidlhiaa
