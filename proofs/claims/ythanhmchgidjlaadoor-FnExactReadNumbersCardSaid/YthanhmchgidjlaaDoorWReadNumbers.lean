/-
ReadNumbers: the law.
-/
import Derived.Test.YthanhmchgidjlaaDoorLrf
namespace Go.Proofs.YthanhmchgidjlaaDoor
open Go Go.RowKit
set_option maxRecDepth 100000
set_option maxHeartbeats 2000000 in
theorem law_ReadNumbers {s : ByteArray} (_ : s.size ≤ maxLen) (w : World) (hv0 : ∃ mx, MlIs w mx) : Calls Tryd.prog 8 #[.string s] w (RS (.bool true) w) := by
  obtain ⟨mx, hv⟩ := hv0
  have B0 := Hb.mk (Below.refl w.heap.size w)
  by_cases hs : s.size ≤ 1048576
  · have KS := Hf.mk (fun w => sRnlist_any (s := s) hs w)
    have KI := Hf.mk (fun w hv => iRn_any (s := s) (mx := mx) hs w hv)
    have hF0 := rnX_len s.data.toList
    generalize rnO s.data.toList = O at KS KI
    have hFl := rnX_fl s.data.toList
    generalize rnX s.data.toList = F at KS KI hF0 hFl
    have HFl := Hf.mk hFl
    clear hFl
    have hF : F.length ≤ 1048576 := by omega
    have hG : (fls F).length ≤ 1048576 := by rw [fls_len]; exact hF
    have HV := Hf.mk hv
    clear hv
    cases O
    all_goals
      go_enter Tryd.func8, Tryd.ntmps8
      have tk_s : True := trivial; have tk_i : True := trivial; have tk_e : True := trivial; have tk_m : True := trivial; have tk_h : True := trivial; have tk_j : True := trivial; have tk_f : True := trivial; have tk_k : True := trivial
      go_wp2_with (first
        | (go_at_call 25; clear tk_s; refine (KS.out _).mono ?_; rintro e w1 ⟨⟨vW, rfl, oW⟩, b⟩; have S1 := b.size; have B1 := Hb.mk (Below.on (B := w.heap.size) (a := w) (by repeat (first | exact B0.out | refine Below.drews ?_ | refine Below.drew ?_ | refine Below.alloc ?_ (by have hq_ := B0.out.size; first | omega | (simp <;> omega)) _ | refine Below.setCell ?_ (by have hq_ := B0.out.size; first | omega | (simp <;> omega)) _)) b (by have hq_ := B0.out.size; first | omega | (simp <;> omega))); have OW := Hf.mk oW; have LW := Hf.mk oW.lt; clear oW b)
        | (go_at_call 26; clear tk_i; refine (KI.out _ (HV.out.on (by repeat (first | with_reducible refine Below.setCell ?_ (by first | omega | (simp <;> omega)) _ | with_reducible refine Below.drews ?_ | with_reducible refine Below.drew ?_ | with_reducible refine Below.alloc ?_ (by first | omega | (simp <;> omega)) _ | with_reducible exact B1.out | with_reducible exact Below.refl _ _)))).mono ?_; rintro e w2 ⟨⟨vG, rfl, oG⟩, b⟩; have S2 := b.size; have OW2 := Hf.mk (cu_below OW.out b); have B2 := Hb.mk (Below.on (B := w.heap.size) (a := w) (by repeat (first | exact B1.out | refine Below.drews ?_ | refine Below.drew ?_ | refine Below.alloc ?_ (by have hq_ := B1.out.size; first | omega | (simp <;> omega)) _ | refine Below.setCell ?_ (by have hq_ := B1.out.size; first | omega | (simp <;> omega)) _)) b (by have hq_ := B1.out.size; first | omega | (simp <;> omega))); have OG := Hf.mk oG; have LG := Hf.mk oG.lt; clear oG b)
        | (go_at_call 24; clear tk_e; refine (eqF_own _ OG.out OW2.out HFl.out hF).mono ?_; rintro e w' ⟨rfl, q_, rfl⟩)
        | (go_at_call 27; clear tk_m; refine (markF_own _ (cu_below OG.out (by repeat (first | exact Below.refl _ _ | with_reducible assumption | refine Below.drews ?_ | refine Below.drew ?_ | refine Below.alloc ?_ (by simp <;> omega) _ | refine Below.setCell ?_ (by simp <;> omega) _))) hG (by omega) (by omega)).mono ?_; rintro e w4 ⟨rfl, t_, g_⟩; have Q := Hf.mk t_; have S4 : w2.heap.size ≤ w4.heap.size := g_.size; have OW4 := Hf.mk (own_g3 (cu_below OW2.out (by repeat (first | exact Below.refl _ _ | with_reducible assumption | refine Below.drews ?_ | refine Below.drew ?_ | refine Below.alloc ?_ (by simp <;> omega) _ | refine Below.setCell ?_ (by simp <;> omega) _))) g_ LW.out LG.out (.inl (Nat.le_refl _))); have B4 := Hb.mk (below_gv (B := w.heap.size) (w := w) (by repeat (first | exact B2.out | refine Below.drews ?_ | refine Below.drew ?_ | refine Below.alloc ?_ (by have hq_ := B2.out.size; first | omega | (simp <;> omega)) _ | refine Below.setCell ?_ (by have hq_ := B2.out.size; first | omega | (simp <;> omega)) _)) g_ (by simp; omega) LG.out S1); clear t_ g_)
        | (go_at_call 28; clear tk_h; refine (heldF_own _ (Q.out.below (by repeat (first | exact Below.refl _ _ | with_reducible assumption | refine Below.drews ?_ | refine Below.drew ?_ | refine Below.alloc ?_ (by simp <;> omega) _ | refine Below.setCell ?_ (by simp <;> omega) _))) hG (by omega) (by omega)).mono ?_; rintro e w' ⟨rfl, q5, rfl⟩)
        | (go_at_call 26; clear tk_j; refine (KI.out _ (HV.out.on (by repeat (first | with_reducible refine Below.setCell ?_ (by first | omega | (simp <;> omega)) _ | with_reducible refine Below.drews ?_ | with_reducible refine Below.drew ?_ | with_reducible refine Below.alloc ?_ (by first | omega | (simp <;> omega)) _ | with_reducible exact B4.out | with_reducible exact Below.refl _ _)))).mono ?_; rintro e w6 ⟨⟨vH, rfl, oH⟩, b⟩; have OW6 := Hf.mk (cu_below (cu_below OW4.out (by repeat (first | exact Below.refl _ _ | with_reducible assumption | refine Below.drews ?_ | refine Below.drew ?_ | refine Below.alloc ?_ (by simp <;> omega) _ | refine Below.setCell ?_ (by simp <;> omega) _))) b); have Q6 := Hf.mk ((Q.out.below (by repeat (first | exact Below.refl _ _ | with_reducible assumption | refine Below.drews ?_ | refine Below.drew ?_ | refine Below.alloc ?_ (by simp <;> omega) _ | refine Below.setCell ?_ (by simp <;> omega) _))).below b); have B6 := Hb.mk (Below.on (B := w.heap.size) (a := w) (by repeat (first | exact B4.out | refine Below.drews ?_ | refine Below.drew ?_ | refine Below.alloc ?_ (by have hq_ := B4.out.size; first | omega | (simp <;> omega)) _ | refine Below.setCell ?_ (by have hq_ := B4.out.size; first | omega | (simp <;> omega)) _)) b (by have hq_ := B4.out.size; first | omega | (simp <;> omega))); have OH := Hf.mk oH; clear oH b)
        | (go_at_call 24; clear tk_f; refine (eqF_own _ OH.out OW6.out HFl.out hF).mono ?_; rintro e w' ⟨rfl, q7, rfl⟩)
        | (go_at_call 28; clear tk_k; refine (heldF_own _ (Q6.out.below (by repeat (first | exact Below.refl _ _ | with_reducible assumption | refine Below.drews ?_ | refine Below.drew ?_ | refine Below.alloc ?_ (by simp <;> omega) _ | refine Below.setCell ?_ (by simp <;> omega) _))) hG (by omega) (by omega)).mono ?_; rintro e w' ⟨rfl, q8, rfl⟩))
      go_ret
      exact ⟨rfl, (by repeat (first | exact B6.out | refine Below.drews ?_ | refine Below.drew ?_ | refine Below.alloc ?_ (by have hq_ := B6.out.size; first | omega | (simp <;> omega)) _ | refine Below.setCell ?_ (by have hq_ := B6.out.size; first | omega | (simp <;> omega)) _))⟩
  · have h9 : (1048576 : Int) < (s.size : Int) := by omega
    go_enter Tryd.func8, Tryd.ntmps8
    go_wp2
    go_ret
    exact ⟨rfl, (by repeat (first | exact B0.out | refine Below.drews ?_ | refine Below.drew ?_ | refine Below.alloc ?_ (by have hq_ := B0.out.size; first | omega | (simp <;> omega)) _ | refine Below.setCell ?_ (by have hq_ := B0.out.size; first | omega | (simp <;> omega)) _))⟩
end Go.Proofs.YthanhmchgidjlaaDoor
