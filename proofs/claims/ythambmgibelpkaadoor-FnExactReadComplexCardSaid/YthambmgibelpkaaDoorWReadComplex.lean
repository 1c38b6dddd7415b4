/-
ReadComplex: the law.
-/
import Derived.Test.YthambmgibelpkaaDoorCqr
namespace Go.Proofs.YthambmgibelpkaaDoor
open Go Go.RowKit
set_option maxRecDepth 100000
set_option maxHeartbeats 500000 in
theorem law_ReadComplex {s : ByteArray} (_ : s.size ≤ maxLen) (w : World) (hv0 : ∃ mx, MlIs w mx) : Calls Tryd.prog 3 #[.string s] w (RS (.bool true) w) := by
  obtain ⟨mx, hv⟩ := hv0
  have B0 := Hb.mk (Below.refl w.heap.size w)
  by_cases hs : s.size ≤ 1048576
  · have KS := Hf.mk (fun w => sRclist_any (s := s) hs w)
    have KI := Hf.mk (fun w hv => iRc_any (s := s) (mx := mx) hs w hv)
    have hF0 := rcX_len s.data.toList
    generalize rcO s.data.toList = O at KS KI
    have hFl := rcX_fl s.data.toList
    generalize rcX s.data.toList = F at KS KI hF0 hFl
    have HFl := Hf.mk hFl
    clear hFl
    have hF : F.length ≤ 1048576 := by omega
    have hG : (cxs F).length ≤ 256 := by rw [cxs_len]; exact hF0
    have HV := Hf.mk hv
    clear hv
    cases O
    all_goals
      go_enter Tryd.func3, Tryd.ntmps3
      have tk_s : True := trivial; have tk_i : True := trivial; have tk_e : True := trivial; have tk_m : True := trivial; have tk_h : True := trivial; have tk_j : True := trivial; have tk_f : True := trivial; have tk_k : True := trivial
      go_wp2_with (first
        | (go_at_call 4; clear tk_s; refine (KS.out _).mono ?_; rintro e w1 ⟨⟨vW, rfl, oW⟩, b⟩; have S1 := b.size; have B1 := Hb.mk (Below.on (B := w.heap.size) (a := w) (by repeat (first | exact B0.out | refine Below.drews ?_ | refine Below.drew ?_ | refine Below.alloc ?_ (by have hq_ := B0.out.size; first | omega | (simp <;> omega)) _ | refine Below.setCell ?_ (by have hq_ := B0.out.size; first | omega | (simp <;> omega)) _)) b (by have hq_ := B0.out.size; first | omega | (simp <;> omega))); have OW := Hf.mk oW; have LW := Hf.mk oW.lt; clear oW b)
        | (go_at_call 5; clear tk_i; refine (KI.out _ (HV.out.on (by repeat (first | with_reducible refine Below.setCell ?_ (by first | omega | (simp <;> omega)) _ | with_reducible refine Below.drews ?_ | with_reducible refine Below.drew ?_ | with_reducible refine Below.alloc ?_ (by first | omega | (simp <;> omega)) _ | with_reducible exact B1.out | with_reducible exact Below.refl _ _)))).mono ?_; rintro e w2 ⟨⟨vG, rfl, oG⟩, b⟩; have S2 := b.size; have OW2 := Hf.mk (cu_below OW.out b); have B2 := Hb.mk (Below.on (B := w.heap.size) (a := w) (by repeat (first | exact B1.out | refine Below.drews ?_ | refine Below.drew ?_ | refine Below.alloc ?_ (by have hq_ := B1.out.size; first | omega | (simp <;> omega)) _ | refine Below.setCell ?_ (by have hq_ := B1.out.size; first | omega | (simp <;> omega)) _)) b (by have hq_ := B1.out.size; first | omega | (simp <;> omega))); have OG := Hf.mk oG; have LG := Hf.mk oG.lt; clear oG b)
        | (go_at_call 6; clear tk_e; refine (eqC_own _ OG.out OW2.out HFl.out hF).mono ?_; rintro e w' ⟨rfl, q_, rfl⟩)
        | (go_at_call 7; clear tk_m; refine (markC_own _ (cu_below OG.out (by repeat (first | exact Below.refl _ _ | with_reducible assumption | refine Below.drews ?_ | refine Below.drew ?_ | refine Below.alloc ?_ (by simp <;> omega) _ | refine Below.setCell ?_ (by simp <;> omega) _))) (by omega) (by omega)).mono ?_; rintro e w4 ⟨rfl, t_, g_⟩; have Q := Hf.mk t_; have S4 : w2.heap.size ≤ w4.heap.size := g_.size; have OW4 := Hf.mk (own_g3 (cu_below OW2.out (by repeat (first | exact Below.refl _ _ | with_reducible assumption | refine Below.drews ?_ | refine Below.drew ?_ | refine Below.alloc ?_ (by simp <;> omega) _ | refine Below.setCell ?_ (by simp <;> omega) _))) g_ LW.out LG.out (.inl (Nat.le_refl _))); have B4 := Hb.mk (below_gv (B := w.heap.size) (w := w) (by repeat (first | exact B2.out | refine Below.drews ?_ | refine Below.drew ?_ | refine Below.alloc ?_ (by have hq_ := B2.out.size; first | omega | (simp <;> omega)) _ | refine Below.setCell ?_ (by have hq_ := B2.out.size; first | omega | (simp <;> omega)) _)) g_ (by simp; omega) LG.out S1); clear t_ g_)
        | (go_at_call 8; clear tk_h; refine (heldC_own _ (Q.out.below (by repeat (first | exact Below.refl _ _ | with_reducible assumption | refine Below.drews ?_ | refine Below.drew ?_ | refine Below.alloc ?_ (by simp <;> omega) _ | refine Below.setCell ?_ (by simp <;> omega) _))) (by omega) (by omega)).mono ?_; rintro e w' ⟨rfl, q5, rfl⟩)
        | (go_at_call 5; clear tk_j; refine (KI.out _ (HV.out.on (by repeat (first | with_reducible refine Below.setCell ?_ (by first | omega | (simp <;> omega)) _ | with_reducible refine Below.drews ?_ | with_reducible refine Below.drew ?_ | with_reducible refine Below.alloc ?_ (by first | omega | (simp <;> omega)) _ | with_reducible exact B4.out | with_reducible exact Below.refl _ _)))).mono ?_; rintro e w6 ⟨⟨vH, rfl, oH⟩, b⟩; have OW6 := Hf.mk (cu_below (cu_below OW4.out (by repeat (first | exact Below.refl _ _ | with_reducible assumption | refine Below.drews ?_ | refine Below.drew ?_ | refine Below.alloc ?_ (by simp <;> omega) _ | refine Below.setCell ?_ (by simp <;> omega) _))) b); have Q6 := Hf.mk ((Q.out.below (by repeat (first | exact Below.refl _ _ | with_reducible assumption | refine Below.drews ?_ | refine Below.drew ?_ | refine Below.alloc ?_ (by simp <;> omega) _ | refine Below.setCell ?_ (by simp <;> omega) _))).below b); have B6 := Hb.mk (Below.on (B := w.heap.size) (a := w) (by repeat (first | exact B4.out | refine Below.drews ?_ | refine Below.drew ?_ | refine Below.alloc ?_ (by have hq_ := B4.out.size; first | omega | (simp <;> omega)) _ | refine Below.setCell ?_ (by have hq_ := B4.out.size; first | omega | (simp <;> omega)) _)) b (by have hq_ := B4.out.size; first | omega | (simp <;> omega))); have OH := Hf.mk oH; clear oH b)
        | (go_at_call 6; clear tk_f; refine (eqC_own _ OH.out OW6.out HFl.out hF).mono ?_; rintro e w' ⟨rfl, q7, rfl⟩)
        | (go_at_call 8; clear tk_k; refine (heldC_own _ (Q6.out.below (by repeat (first | exact Below.refl _ _ | with_reducible assumption | refine Below.drews ?_ | refine Below.drew ?_ | refine Below.alloc ?_ (by simp <;> omega) _ | refine Below.setCell ?_ (by simp <;> omega) _))) (by omega) (by omega)).mono ?_; rintro e w' ⟨rfl, q8, rfl⟩))
      go_ret
      exact ⟨rfl, (by repeat (first | exact B6.out | refine Below.drews ?_ | refine Below.drew ?_ | refine Below.alloc ?_ (by have hq_ := B6.out.size; first | omega | (simp <;> omega)) _ | refine Below.setCell ?_ (by have hq_ := B6.out.size; first | omega | (simp <;> omega)) _))⟩
  · have h9 : (1048576 : Int) < (s.size : Int) := by omega
    go_enter Tryd.func3, Tryd.ntmps3
    go_wp2
    go_ret
    exact ⟨rfl, (by repeat (first | exact B0.out | refine Below.drews ?_ | refine Below.drew ?_ | refine Below.alloc ?_ (by have hq_ := B0.out.size; first | omega | (simp <;> omega)) _ | refine Below.setCell ?_ (by have hq_ := B0.out.size; first | omega | (simp <;> omega)) _))⟩
end Go.Proofs.YthambmgibelpkaaDoor
