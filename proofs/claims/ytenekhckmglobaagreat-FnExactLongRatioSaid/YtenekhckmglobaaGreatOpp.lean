/-
  The opposite place, of the program and of its model; the exact law OppositeOf. No condition.
-/
import Derived.Test.YtenekhckmglobaaGreatWay
namespace Go.Proofs.YtenekhckmglobaaGreat
open Go Go.RowKit
set_option maxRecDepth 100000

theorem wrap_ab {c : Nat} (hc : Ab .f32 c 1148846080) : Ab .f32 (wrapC c) 1174405120 := by
  have h1 := wide_ab (sum_ab hc)
  have hb : Bd .f64 (fcv .f32 .f64 (sumC c)) (11 : Nat) := bd_of_ab h1 (by decide +kernel) (by decide) (by decide)
  have hf := ((ffloor_bd hb (by decide)).fits (by decide) (by decide)).2
  have ha : Ab .f32 (floorC c) 1166016512 := ab_of_bd hf (by decide +kernel) (by decide +kernel)
  have hd : Ab .f32 (wrapD c) 1174405120 := sub_ab hc ha (by decide +kernel) (by decide +kernel)
  unfold wrapC
  split
  · exact ⟨by decide +kernel, by decide +kernel⟩
  · exact hd
theorem wrap_fl {c : Nat} (hc : Ab .f32 c 1148846080) : Fl .f32 (wrapC c) (wrapC c) := by
  refine Fl.not (fin_notN (wrap_ab hc).fin) ?_
  unfold wrapC
  split
  · decide +kernel
  · exact wf_fop _ _ _ _
theorem neg_fl {n : Nat} (h : Ab .f32 n 1056964608) (hf : Fl .f32 n n) : Fl .f32 (Op.negFloat .f32 n) (Op.negFloat .f32 n) := by
  have := hf.neg
  unfold fneg at this
  rw [nrm_not (by rw [isN_neg]; exact fin_notN h.fin)] at this
  exact this
def oppE (e : Nat) : Nat := wrapC (sumC e)
theorem opp_ab {e : Nat} (h : Ab .f32 e 1056964608) : Ab .f32 (sumC e) 1148846080 := (add_ab (c := 1065353216) h (ab_self (c := 1056964608) (by decide +kernel)) (by decide +kernel) (by decide +kernel)).mono (by decide +kernel) (by decide +kernel)
end Go.Proofs.YtenekhckmglobaaGreat
