/-
NumbersText: the law.
-/
import Derived.Test.YthanhmchgidjlaaDoorNtx
import Derived.Test.YthanhmchgidjlaaDoorSumL
namespace Go.Proofs.YthanhmchgidjlaaDoor
open Go Go.RowKit
set_option maxRecDepth 100000
theorem law_NumbersText {a : Option Addr} {cap : Nat} {xs : List Nat} (w : World) (hr : FRow w a xs) (hw : Wf xs) (ht : Db4 w) : Calls Tryd.prog 7 #[.slice a xs.length cap] w (RS (.bool true) w) := by
  have B0 := Hb.mk (Below.refl w.heap.size w)
  by_cases hl : xs.length ≤ 1048576
  · have KS := Hf.mk (fun g w hr => sNumbersText_any (a := some ⟨g, 0, none⟩) (cap := xs.length) (xs := xs) w hr hw hl)
    have KI := Hf.mk (fun g w hr ht => iNumbersText_any (a := some ⟨g, 0, none⟩) (cap := xs.length) (xs := xs) w hr hw hl ht)
    unfold nfV txV at KS KI
    generalize (if nfOk xs = true then ofL (txtW (hexW xs)) else ⟨#[]⟩) = A at KS KI
    generalize nfOk xs = b at KS KI
    have HR := Hf.mk hr
    have HT := Hf.mk ht
    clear hr ht
    go_enter Tryd.func7, Tryd.ntmps7
    have tk_a : True := trivial; have tk_b : True := trivial; have tk_c : True := trivial
    go_wp2_with (first
      | (go_at_call 22; clear tk_a; refine (toF_any _ HR.out hl).mono ?_; rintro e w1 ⟨rfl, ho, hb⟩; have HO1 := Hf.mk (frow_own rfl ho); have B1 := Hb.mk (Below.on (B := w.heap.size) (a := w) (by repeat (first | exact B0.out | refine Below.drews ?_ | refine Below.drew ?_ | refine Below.alloc ?_ (by have hq_ := B0.out.size; first | omega | (simp <;> omega)) _ | refine Below.setCell ?_ (by have hq_ := B0.out.size; first | omega | (simp <;> omega)) _)) hb (by have hq_ := B0.out.size; first | omega | (simp <;> omega))); clear ho hb)
      | (go_at_call 21; refine (KS.out _ _ HO1.out).mono ?_; rintro e w2 ⟨rfl, hb⟩; have B2 := Hb.mk (Below.on (B := w.heap.size) (a := w) (by repeat (first | exact B1.out | refine Below.drews ?_ | refine Below.drew ?_ | refine Below.alloc ?_ (by have hq_ := B1.out.size; first | omega | (simp <;> omega)) _ | refine Below.setCell ?_ (by have hq_ := B1.out.size; first | omega | (simp <;> omega)) _)) hb (by have hq_ := B1.out.size; first | omega | (simp <;> omega))); clear hb)
      | (go_at_call 22; clear tk_b; refine (toF_any _ (HR.out.below (by repeat (first | with_reducible refine Below.setCell ?_ (by first | omega | (simp <;> omega)) _ | with_reducible refine Below.drews ?_ | with_reducible refine Below.drew ?_ | with_reducible refine Below.alloc ?_ (by first | omega | (simp <;> omega)) _ | with_reducible exact B2.out | with_reducible exact Below.refl _ _))) hl).mono ?_; rintro e w3 ⟨rfl, ho, hb⟩; have HO3 := Hf.mk (frow_own rfl ho); have B3 := Hb.mk (Below.on (B := w.heap.size) (a := w) (by repeat (first | exact B2.out | refine Below.drews ?_ | refine Below.drew ?_ | refine Below.alloc ?_ (by have hq_ := B2.out.size; first | omega | (simp <;> omega)) _ | refine Below.setCell ?_ (by have hq_ := B2.out.size; first | omega | (simp <;> omega)) _)) hb (by have hq_ := B2.out.size; first | omega | (simp <;> omega))); clear ho hb)
      | (go_at_call 23; refine (KI.out _ _ HO3.out (HT.out.on (by repeat (first | with_reducible refine Below.setCell ?_ (by first | omega | (simp <;> omega)) _ | with_reducible refine Below.drews ?_ | with_reducible refine Below.drew ?_ | with_reducible refine Below.alloc ?_ (by first | omega | (simp <;> omega)) _ | with_reducible exact B3.out | with_reducible exact Below.refl _ _)))).mono ?_; rintro e w4 ⟨rfl, hb⟩; have HO4 := Hf.mk (HO3.out.below hb); have B4 := Hb.mk (Below.on (B := w.heap.size) (a := w) (by repeat (first | exact B3.out | refine Below.drews ?_ | refine Below.drew ?_ | refine Below.alloc ?_ (by have hq_ := B3.out.size; first | omega | (simp <;> omega)) _ | refine Below.setCell ?_ (by have hq_ := B3.out.size; first | omega | (simp <;> omega)) _)) hb (by have hq_ := B3.out.size; first | omega | (simp <;> omega))); clear hb)
      | (go_at_call 22; clear tk_c; refine (toF_any _ (HR.out.below (by repeat (first | with_reducible refine Below.setCell ?_ (by first | omega | (simp <;> omega)) _ | with_reducible refine Below.drews ?_ | with_reducible refine Below.drew ?_ | with_reducible refine Below.alloc ?_ (by first | omega | (simp <;> omega)) _ | with_reducible exact B4.out | with_reducible exact Below.refl _ _))) hl).mono ?_; rintro e w5 ⟨rfl, ho, hb⟩; have HO5 := Hf.mk (frow_own rfl ho); have HO6 := Hf.mk ((HO4.out.drews (by repeat (first | exact Drew.refl _ | refine Drew.more ?_))).below hb); have B5 := Hb.mk (Below.on (B := w.heap.size) (a := w) (by repeat (first | exact B4.out | refine Below.drews ?_ | refine Below.drew ?_ | refine Below.alloc ?_ (by have hq_ := B4.out.size; first | omega | (simp <;> omega)) _ | refine Below.setCell ?_ (by have hq_ := B4.out.size; first | omega | (simp <;> omega)) _)) hb (by have hq_ := B4.out.size; first | omega | (simp <;> omega))); clear ho hb)
      | (go_at_call 24; refine (eqF_any _ rfl HO6.out HO5.out hw hl).mono ?_; rintro e w6 ⟨rfl, n6, rfl⟩))
    go_ret
    exact ⟨rfl, (by repeat (first | exact B5.out | refine Below.drews ?_ | refine Below.drew ?_ | refine Below.alloc ?_ (by have hq_ := B5.out.size; first | omega | (simp <;> omega)) _ | refine Below.setCell ?_ (by have hq_ := B5.out.size; first | omega | (simp <;> omega)) _))⟩
  · have h9 : (1048576 : Int) < (xs.length : Int) := by omega
    go_enter Tryd.func7, Tryd.ntmps7
    go_wp2
    go_ret
    exact ⟨rfl, (by repeat (first | exact B0.out | refine Below.drews ?_ | refine Below.drew ?_ | refine Below.alloc ?_ (by have hq_ := B0.out.size; first | omega | (simp <;> omega)) _ | refine Below.setCell ?_ (by have hq_ := B0.out.size; first | omega | (simp <;> omega)) _))⟩
/-- What a laid table tells. -/
def untab : DataW Unit → List Int
  | .agg l => l.map fun | .lit (.int _ z) => z | _ => 0
  | _ => []
theorem tab_NumbersText {W : World} (h : laidMetH Tryd.prog Rows.fnExactNumbersTextRow.laid W) : Db4 W := by
  rw [MakeChecks.laidMetH_plain _ _ _ (by kernel_rfl)] at h
  have e : (Rows.laid_math_bits_deBruijn64tab : DataW Unit) = Lib.tabData .u8 (untab Rows.laid_math_bits_deBruijn64tab) := by kernel_rfl
  have h2 := laidMet.tail h
  rw [e] at h2
  have h3 := Lib.tabIs_of_head (g := 3) (t := 118) (e := 5) (n := 64) (by kernel_rfl) (by kernel_rfl) Tryd.underlying118 Tryd.underlying5 (by kernel_rfl) (by kernel_rfl) h2
  have h4 := Lib.TabIs.cell h3 (g := 3) (by kernel_rfl) 15 (of_decide_eq_true (by kernel_rfl))
  rw [show (untab Rows.laid_math_bits_deBruijn64tab).getD 15 0 = 4 by kernel_rfl] at h4
  exact h4
end Go.Proofs.YthanhmchgidjlaaDoor
