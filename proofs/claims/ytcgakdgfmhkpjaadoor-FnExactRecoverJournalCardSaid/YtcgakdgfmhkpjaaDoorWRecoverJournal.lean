/-
RecoverJournal: the law.
-/
import Derived.Test.YtcgakdgfmhkpjaaDoorRjp
import Derived.Test.YtcgakdgfmhkpjaaDoorSlw
namespace Go.Proofs.YtcgakdgfmhkpjaaDoor
open Go Go.RowKit
set_option maxRecDepth 100000
def rjMA (s : ByteArray) : List (List UInt8) := if s.size ≤ 16000 then rjM s.data.toList else []
def rjNA (s : ByteArray) : Nat := if s.size ≤ 16000 then rjN s.data.toList else 0
theorem rjMA_len (s : ByteArray) : (rjMA s).length ≤ 16000 := by
  unfold rjMA
  split
  · have := rjM_len s.data.toList
    have h : s.data.toList.length = s.size := rfl
    omega
  · simp
theorem sRj_all {s : ByteArray} (hs : s.size ≤ 1048576) (w : World) : Calls Tryd.prog 35 #[.string s] w (RJy 9 (rjMA s) (rjNA s) (decide (s.size ≤ 16000)) w) := by
  unfold rjMA rjNA
  by_cases h : s.size ≤ 16000
  · rw [if_pos h, if_pos h, decide_eq_true h]; exact sRj_any h w
  · rw [if_neg h, if_neg h, decide_eq_false h]; exact sRj_no hs (by omega) w
theorem iRj_all {s : ByteArray} {mx : Int} (hs : s.size ≤ 1048576) (w : World) (ht : P10 w) (hv : MlJ w mx) : Calls Tryd.prog 36 #[.string s] w (RJy 9 (rjMA s) (rjNA s) (decide (s.size ≤ 16000)) w) := by
  unfold rjMA rjNA
  by_cases h : s.size ≤ 16000
  · rw [if_pos h, if_pos h, decide_eq_true h]; exact iRj_any h w ht hv
  · rw [if_neg h, if_neg h, decide_eq_false h]; exact iRj_no hs (by omega) w
set_option maxHeartbeats 2000000 in
theorem law_RecoverJournal {s : ByteArray} (_ : s.size ≤ maxLen) (w : World) (ht : P10 w) (hv0 : ∃ mx, MlJ w mx) : Calls Tryd.prog 9 #[.string s] w (RS (.bool true) w) := by
  obtain ⟨mx, hv⟩ := hv0
  have B0 := Hb.mk (Below.refl w.heap.size w)
  by_cases hs : s.size ≤ 1048576
  · have KS := Hf.mk (fun w => sRj_all (s := s) hs w)
    have KI := Hf.mk (fun w ht hv => iRj_all (s := s) (mx := mx) hs w ht hv)
    have hF := rjMA_len s
    generalize rjMA s = M at KS KI hF
    generalize rjNA s = N at KS KI
    generalize decide (s.size ≤ 16000) = O at KS KI
    have hM : M.length ≤ 1048576 := by omega
    clear hF
    have HV := Hf.mk hv
    have HT := Hf.mk ht
    clear hv ht
    cases O
    all_goals
      go_enter Tryd.func9, Tryd.ntmps9
      have tk_s : True := trivial; have tk_i : True := trivial; have tk_e : True := trivial; have tk_m : True := trivial; have tk_h : True := trivial; have tk_j : True := trivial; have tk_f : True := trivial; have tk_k : True := trivial
      go_wp2_with (first
        | (go_at_call 35; clear tk_s; refine (KS.out _).mono ?_; rintro e w1 ⟨⟨vW, rfl, oW⟩, b⟩; have S1 := b.size; have B1 := Hb.mk (Below.on (B := w.heap.size) (a := w) (by repeat (first | exact B0.out | refine Below.drews ?_ | refine Below.drew ?_ | refine Below.alloc ?_ (by have hq_ := B0.out.size; first | omega | (simp <;> omega)) _ | refine Below.setCell ?_ (by have hq_ := B0.out.size; first | omega | (simp <;> omega)) _)) b (by have hq_ := B0.out.size; first | omega | (simp <;> omega))); have OW := Hf.mk oW; have LW := Hf.mk oW.lt; clear oW b)
        | (go_at_call 36; clear tk_i; refine (KI.out _ (HT.out.on (by repeat (first | with_reducible refine Below.setCell ?_ (by first | omega | (simp <;> omega)) _ | with_reducible refine Below.drews ?_ | with_reducible refine Below.drew ?_ | with_reducible refine Below.alloc ?_ (by first | omega | (simp <;> omega)) _ | with_reducible exact B1.out | with_reducible exact Below.refl _ _))) (HV.out.on (by repeat (first | with_reducible refine Below.setCell ?_ (by first | omega | (simp <;> omega)) _ | with_reducible refine Below.drews ?_ | with_reducible refine Below.drew ?_ | with_reducible refine Below.alloc ?_ (by first | omega | (simp <;> omega)) _ | with_reducible exact B1.out | with_reducible exact Below.refl _ _)))).mono ?_; rintro e w2 ⟨⟨vG, rfl, oG⟩, b⟩; have S2 := b.size; have OW2 := Hf.mk (cu_below OW.out b); have B2 := Hb.mk (Below.on (B := w.heap.size) (a := w) (by repeat (first | exact B1.out | refine Below.drews ?_ | refine Below.drew ?_ | refine Below.alloc ?_ (by have hq_ := B1.out.size; first | omega | (simp <;> omega)) _ | refine Below.setCell ?_ (by have hq_ := B1.out.size; first | omega | (simp <;> omega)) _)) b (by have hq_ := B1.out.size; first | omega | (simp <;> omega))); have OG := Hf.mk oG; have LG := Hf.mk oG.lt; clear oG b)
        | (go_at_call 34; clear tk_e; refine (eqS_own _ OG.out OW2.out hM).mono ?_; rintro e w' ⟨rfl, q_, rfl⟩)
        | (go_at_call 37; clear tk_m; refine (markS_own _ (cu_below OG.out (by repeat (first | exact Below.refl _ _ | with_reducible assumption | refine Below.drews ?_ | refine Below.drew ?_ | refine Below.alloc ?_ (by simp <;> omega) _ | refine Below.setCell ?_ (by simp <;> omega) _))) hM (by omega) (by omega)).mono ?_; rintro e w4 ⟨rfl, t_, g_⟩; have Q := Hf.mk t_; have S4 : w2.heap.size ≤ w4.heap.size := g_.size; have OW4 := Hf.mk (own_g3 (cu_below OW2.out (by repeat (first | exact Below.refl _ _ | with_reducible assumption | refine Below.drews ?_ | refine Below.drew ?_ | refine Below.alloc ?_ (by simp <;> omega) _ | refine Below.setCell ?_ (by simp <;> omega) _))) g_ LW.out LG.out (.inl (Nat.le_refl _))); have B4 := Hb.mk (below_gv (B := w.heap.size) (w := w) (by repeat (first | exact B2.out | refine Below.drews ?_ | refine Below.drew ?_ | refine Below.alloc ?_ (by have hq_ := B2.out.size; first | omega | (simp <;> omega)) _ | refine Below.setCell ?_ (by have hq_ := B2.out.size; first | omega | (simp <;> omega)) _)) g_ (by simp; omega) LG.out S1); clear t_ g_)
        | (go_at_call 38; clear tk_h; refine (heldS_own _ (Q.out.below (by repeat (first | exact Below.refl _ _ | with_reducible assumption | refine Below.drews ?_ | refine Below.drew ?_ | refine Below.alloc ?_ (by simp <;> omega) _ | refine Below.setCell ?_ (by simp <;> omega) _))) hM (by omega) (by omega)).mono ?_; rintro e w5 ⟨rfl, b5⟩; have S5 : w4.heap.size ≤ w5.heap.size := b5.size; have B5 := Hb.mk (Below.on (B := w.heap.size) (a := w) (by repeat (first | exact B4.out | refine Below.drews ?_ | refine Below.drew ?_ | refine Below.alloc ?_ (by have hq_ := B4.out.size; first | omega | (simp <;> omega)) _ | refine Below.setCell ?_ (by have hq_ := B4.out.size; first | omega | (simp <;> omega)) _)) b5 (by have hq_ := B4.out.size; first | omega | (simp <;> omega))); have Q5 := Hf.mk ((Q.out.below (by repeat (first | exact Below.refl _ _ | with_reducible assumption | refine Below.drews ?_ | refine Below.drew ?_ | refine Below.alloc ?_ (by simp <;> omega) _ | refine Below.setCell ?_ (by simp <;> omega) _))).below b5); have OW5 := Hf.mk (cu_below (cu_below OW4.out (by repeat (first | exact Below.refl _ _ | with_reducible assumption | refine Below.drews ?_ | refine Below.drew ?_ | refine Below.alloc ?_ (by simp <;> omega) _ | refine Below.setCell ?_ (by simp <;> omega) _))) b5); clear b5)
        | (go_at_call 36; clear tk_j; refine (KI.out _ (HT.out.on (by repeat (first | with_reducible refine Below.setCell ?_ (by first | omega | (simp <;> omega)) _ | with_reducible refine Below.drews ?_ | with_reducible refine Below.drew ?_ | with_reducible refine Below.alloc ?_ (by first | omega | (simp <;> omega)) _ | with_reducible exact B5.out | with_reducible exact Below.refl _ _))) (HV.out.on (by repeat (first | with_reducible refine Below.setCell ?_ (by first | omega | (simp <;> omega)) _ | with_reducible refine Below.drews ?_ | with_reducible refine Below.drew ?_ | with_reducible refine Below.alloc ?_ (by first | omega | (simp <;> omega)) _ | with_reducible exact B5.out | with_reducible exact Below.refl _ _)))).mono ?_; rintro e w6 ⟨⟨vH, rfl, oH⟩, b⟩; have OW6 := Hf.mk (cu_below (cu_below OW5.out (by repeat (first | exact Below.refl _ _ | with_reducible assumption | refine Below.drews ?_ | refine Below.drew ?_ | refine Below.alloc ?_ (by simp <;> omega) _ | refine Below.setCell ?_ (by simp <;> omega) _))) b); have Q6 := Hf.mk ((Q5.out.below (by repeat (first | exact Below.refl _ _ | with_reducible assumption | refine Below.drews ?_ | refine Below.drew ?_ | refine Below.alloc ?_ (by simp <;> omega) _ | refine Below.setCell ?_ (by simp <;> omega) _))).below b); have B6 := Hb.mk (Below.on (B := w.heap.size) (a := w) (by repeat (first | exact B5.out | refine Below.drews ?_ | refine Below.drew ?_ | refine Below.alloc ?_ (by have hq_ := B5.out.size; first | omega | (simp <;> omega)) _ | refine Below.setCell ?_ (by have hq_ := B5.out.size; first | omega | (simp <;> omega)) _)) b (by have hq_ := B5.out.size; first | omega | (simp <;> omega))); have OH := Hf.mk oH; clear oH b)
        | (go_at_call 34; clear tk_f; refine (eqS_own _ OH.out OW6.out hM).mono ?_; rintro e w' ⟨rfl, q7, rfl⟩)
        | (go_at_call 38; clear tk_k; refine (heldS_own _ (Q6.out.below (by repeat (first | exact Below.refl _ _ | with_reducible assumption | refine Below.drews ?_ | refine Below.drew ?_ | refine Below.alloc ?_ (by simp <;> omega) _ | refine Below.setCell ?_ (by simp <;> omega) _))) hM (by omega) (by omega)).mono ?_; rintro e w8 ⟨rfl, b8⟩; have B8 := Hb.mk (Below.on (B := w.heap.size) (a := w) (by repeat (first | exact B6.out | refine Below.drews ?_ | refine Below.drew ?_ | refine Below.alloc ?_ (by have hq_ := B6.out.size; first | omega | (simp <;> omega)) _ | refine Below.setCell ?_ (by have hq_ := B6.out.size; first | omega | (simp <;> omega)) _)) b8 (by have hq_ := B6.out.size; first | omega | (simp <;> omega))); clear b8))
      go_ret
      exact ⟨rfl, (by repeat (first | exact B8.out | refine Below.drews ?_ | refine Below.drew ?_ | refine Below.alloc ?_ (by have hq_ := B8.out.size; first | omega | (simp <;> omega)) _ | refine Below.setCell ?_ (by have hq_ := B8.out.size; first | omega | (simp <;> omega)) _))⟩
  · have h9 : (1048576 : Int) < (s.size : Int) := by omega
    go_enter Tryd.func9, Tryd.ntmps9
    go_wp2
    go_ret
    exact ⟨rfl, (by repeat (first | exact B0.out | refine Below.drews ?_ | refine Below.drew ?_ | refine Below.alloc ?_ (by have hq_ := B0.out.size; first | omega | (simp <;> omega)) _ | refine Below.setCell ?_ (by have hq_ := B0.out.size; first | omega | (simp <;> omega)) _))⟩
theorem tab_RecoverJournal {W : World} (h : laidMetH Tryd.prog Rows.fnExactRecoverJournalRow.laid W) : P10 W := by
  rw [MakeChecks.laidMetH_plain _ _ _ (by kernel_rfl)] at h
  have e : (Rows.laid_internal_strconv_uint64pow10 : DataW Unit) = Lib.tabData .u64 Lib.pow10Tab := by kernel_rfl
  have h2 := laidMet.tail (laidMet.tail h)
  rw [e] at h2
  exact Lib.tabIs_of_head (g := 2) (t := 184) (e := 167) (n := 20) (by kernel_rfl) (by kernel_rfl) (by kernel_rfl) Tryd.underlying167 (by kernel_rfl) (by kernel_rfl) h2
end Go.Proofs.YtcgakdgfmhkpjaaDoor
