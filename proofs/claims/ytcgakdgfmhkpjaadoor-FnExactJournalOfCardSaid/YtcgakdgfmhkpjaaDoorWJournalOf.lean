/-
JournalOf: the law.
-/
import Derived.Test.YtcgakdgfmhkpjaaDoorJri
import Derived.Test.YtcgakdgfmhkpjaaDoorSlw
namespace Go.Proofs.YtcgakdgfmhkpjaaDoor
open Go Go.RowKit
set_option maxRecDepth 100000
theorem tl_at {L : List (List UInt8)} {k : Nat} (hk : k < L.length) : (L.getD k []).length ≤ tlN L L.length := by
  have h1 := tl_mono L (show k + 1 ≤ L.length by omega)
  have h2 : tlN L (k + 1) = tlN L k + (L.getD k []).length := rfl
  omega
set_option maxHeartbeats 800000 in
theorem law_JournalOf {a : Option Addr} {cap : Nat} {L : List (List UInt8)} (w : World) (hr : SAr w a L) (hs : Sm L) (ht : P10 w) : Calls Tryd.prog 8 #[.slice a L.length cap] w (RS (.bool true) w) := by
  have B0 := Hb.mk (Below.refl w.heap.size w)
  have KZ := Hf.mk (szS_any (cap := cap) w hr hs)
  by_cases hb : (L.length : Int) + (tlN L L.length : Int) ≤ 1048576
  · have hw := wg_yes hb
    have hnn : 0 ≤ wgN L 1048576 := by omega
    have hl : L.length ≤ 1048576 := by omega
    have hm : ∀ k, k < L.length → (L.getD k []).length ≤ 1048576 := fun k hk => by have := tl_at hk; omega
    have HR := Hf.mk hr
    have KT := Hf.mk (fun w (hr : SAr w a L) => toS_any (a := a) (cap := cap) w hr hl)
    have KS := Hf.mk (fun g w hT => sJr_any (g := g) (cap := L.length) (L := L) w hT hl hm)
    have KI := Hf.mk (fun g w hT ht => iJr_any (g := g) (cap := L.length) (L := L) w hT hl hm ht)
    have HP := Hf.mk ht
    clear hr hs ht hw hb hm
    generalize wgN L 1048576 = z at *
    generalize jTx L = t at *
    generalize jOk L = ok at *
    cases ok
    all_goals
      go_enter Tryd.func8, Tryd.ntmps8
      have tk_z : True := trivial; have tk_a : True := trivial; have tk_s : True := trivial; have tk_b : True := trivial; have tk_i : True := trivial; have tk_c : True := trivial; have tk_e : True := trivial
      go_wp2_with (first
        | (go_at_call 30; clear tk_z; refine KZ.out.mono ?_; rintro e w' ⟨rfl, q0, rfl⟩)
        | (go_at_call 32; clear tk_a; refine (KT.out _ (HR.out.below (by repeat (first | exact Below.refl _ _ | with_reducible assumption | refine Below.drews ?_ | refine Below.drew ?_ | refine Below.alloc ?_ (by simp <;> omega) _ | refine Below.setCell ?_ (by simp <;> omega) _)))).mono ?_; rintro e w1 ⟨rfl, o1, b1⟩; have S1 := b1.size; have B1 := Hb.mk (Below.on (B := w.heap.size) (a := w) (by repeat (first | exact B0.out | refine Below.drews ?_ | refine Below.drew ?_ | refine Below.alloc ?_ (by have hq_ := B0.out.size; first | omega | (simp <;> omega)) _ | refine Below.setCell ?_ (by have hq_ := B0.out.size; first | omega | (simp <;> omega)) _)) b1 (by have hq_ := B0.out.size; first | omega | (simp <;> omega))); have T1 := Hf.mk (trow_own o1); clear o1 b1)
        | (go_at_call 31; clear tk_s; refine (KS.out _ _ (T1.out.below (by repeat (first | exact Below.refl _ _ | with_reducible assumption | refine Below.drews ?_ | refine Below.drew ?_ | refine Below.alloc ?_ (by simp <;> omega) _ | refine Below.setCell ?_ (by simp <;> omega) _)))).mono ?_; rintro e w2 ⟨rfl, b2⟩; have B2 := Hb.mk (Below.on (B := w.heap.size) (a := w) (by repeat (first | exact B1.out | refine Below.drews ?_ | refine Below.drew ?_ | refine Below.alloc ?_ (by have hq_ := B1.out.size; first | omega | (simp <;> omega)) _ | refine Below.setCell ?_ (by have hq_ := B1.out.size; first | omega | (simp <;> omega)) _)) b2 (by have hq_ := B1.out.size; first | omega | (simp <;> omega))); clear b2)
        | (go_at_call 32; clear tk_b; refine (KT.out _ (HR.out.below (by repeat (first | with_reducible refine Below.setCell ?_ (by first | omega | (simp <;> omega)) _ | with_reducible refine Below.drews ?_ | with_reducible refine Below.drew ?_ | with_reducible refine Below.alloc ?_ (by first | omega | (simp <;> omega)) _ | with_reducible exact B2.out | with_reducible exact Below.refl _ _)))).mono ?_; rintro e w3 ⟨rfl, o3, b3⟩; have B3 := Hb.mk (Below.on (B := w.heap.size) (a := w) (by repeat (first | exact B2.out | refine Below.drews ?_ | refine Below.drew ?_ | refine Below.alloc ?_ (by have hq_ := B2.out.size; first | omega | (simp <;> omega)) _ | refine Below.setCell ?_ (by have hq_ := B2.out.size; first | omega | (simp <;> omega)) _)) b3 (by have hq_ := B2.out.size; first | omega | (simp <;> omega))); have O3 := Hf.mk o3; clear o3 b3)
        | (go_at_call 33; clear tk_i; refine (KI.out _ _ (trow_own (cu_below O3.out (by repeat (first | exact Below.refl _ _ | with_reducible assumption | refine Below.drews ?_ | refine Below.drew ?_ | refine Below.alloc ?_ (by simp <;> omega) _ | refine Below.setCell ?_ (by simp <;> omega) _)))) (HP.out.on (by repeat (first | with_reducible refine Below.setCell ?_ (by first | omega | (simp <;> omega)) _ | with_reducible refine Below.drews ?_ | with_reducible refine Below.drew ?_ | with_reducible refine Below.alloc ?_ (by first | omega | (simp <;> omega)) _ | with_reducible exact B3.out | with_reducible exact Below.refl _ _)))).mono ?_; rintro e w4 ⟨rfl, b4⟩; have B4 := Hb.mk (Below.on (B := w.heap.size) (a := w) (by repeat (first | exact B3.out | refine Below.drews ?_ | refine Below.drew ?_ | refine Below.alloc ?_ (by have hq_ := B3.out.size; first | omega | (simp <;> omega)) _ | refine Below.setCell ?_ (by have hq_ := B3.out.size; first | omega | (simp <;> omega)) _)) b4 (by have hq_ := B3.out.size; first | omega | (simp <;> omega))); have O4 := Hf.mk (cu_below (cu_below O3.out (by repeat (first | exact Below.refl _ _ | with_reducible assumption | refine Below.drews ?_ | refine Below.drew ?_ | refine Below.alloc ?_ (by simp <;> omega) _ | refine Below.setCell ?_ (by simp <;> omega) _))) b4); clear b4)
        | (go_at_call 32; clear tk_c; refine (KT.out _ (HR.out.below (by repeat (first | with_reducible refine Below.setCell ?_ (by first | omega | (simp <;> omega)) _ | with_reducible refine Below.drews ?_ | with_reducible refine Below.drew ?_ | with_reducible refine Below.alloc ?_ (by first | omega | (simp <;> omega)) _ | with_reducible exact B4.out | with_reducible exact Below.refl _ _)))).mono ?_; rintro e w5 ⟨rfl, o5, b5⟩; have B5 := Hb.mk (Below.on (B := w.heap.size) (a := w) (by repeat (first | exact B4.out | refine Below.drews ?_ | refine Below.drew ?_ | refine Below.alloc ?_ (by have hq_ := B4.out.size; first | omega | (simp <;> omega)) _ | refine Below.setCell ?_ (by have hq_ := B4.out.size; first | omega | (simp <;> omega)) _)) b5 (by have hq_ := B4.out.size; first | omega | (simp <;> omega))); have O5 := Hf.mk o5; have O6 := Hf.mk (cu_below (cu_below O4.out (by repeat (first | exact Below.refl _ _ | with_reducible assumption | refine Below.drews ?_ | refine Below.drew ?_ | refine Below.alloc ?_ (by simp <;> omega) _ | refine Below.setCell ?_ (by simp <;> omega) _))) b5); clear o5 b5)
        | (go_at_call 34; clear tk_e; refine (eqS_own _ (cu_below O6.out (by repeat (first | exact Below.refl _ _ | with_reducible assumption | refine Below.drews ?_ | refine Below.drew ?_ | refine Below.alloc ?_ (by simp <;> omega) _ | refine Below.setCell ?_ (by simp <;> omega) _))) (cu_below O5.out (by repeat (first | exact Below.refl _ _ | with_reducible assumption | refine Below.drews ?_ | refine Below.drew ?_ | refine Below.alloc ?_ (by simp <;> omega) _ | refine Below.setCell ?_ (by simp <;> omega) _))) hl).mono ?_; rintro e w' ⟨rfl, q7, rfl⟩))
      go_ret
      exact ⟨rfl, (by repeat (first | exact B5.out | refine Below.drews ?_ | refine Below.drew ?_ | refine Below.alloc ?_ (by have hq_ := B5.out.size; first | omega | (simp <;> omega)) _ | refine Below.setCell ?_ (by have hq_ := B5.out.size; first | omega | (simp <;> omega)) _))⟩
  · have hw : wgN L 1048576 = -1 := wg_no (Nat.le_refl _) (by omega)
    rw [hw] at KZ
    go_enter Tryd.func8, Tryd.ntmps8
    go_wp2_with (go_at_call 30; refine KZ.out.mono ?_; rintro e w' ⟨rfl, q0, rfl⟩)
    go_ret
    exact ⟨rfl, (by repeat (first | exact Below.refl _ _ | with_reducible assumption | refine Below.drews ?_ | refine Below.drew ?_ | refine Below.alloc ?_ (by simp <;> omega) _ | refine Below.setCell ?_ (by simp <;> omega) _))⟩
theorem tab_JournalOf {W : World} (h : laidMetH Tryd.prog Rows.fnExactJournalOfRow.laid W) : P10 W := by
  rw [MakeChecks.laidMetH_plain _ _ _ (by kernel_rfl)] at h
  have e : (Rows.laid_internal_strconv_uint64pow10 : DataW Unit) = Lib.tabData .u64 Lib.pow10Tab := by kernel_rfl
  have h2 := laidMet.tail (laidMet.tail h)
  rw [e] at h2
  exact Lib.tabIs_of_head (g := 2) (t := 184) (e := 167) (n := 20) (by kernel_rfl) (by kernel_rfl) (by kernel_rfl) Tryd.underlying167 (by kernel_rfl) (by kernel_rfl) h2
end Go.Proofs.YtcgakdgfmhkpjaaDoor
