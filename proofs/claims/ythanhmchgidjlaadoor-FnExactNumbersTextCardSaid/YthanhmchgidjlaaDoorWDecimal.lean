/-
Decimal: the law. The library's table of powers of ten reads as its text lays it.
-/
import Derived.Test.YthanhmchgidjlaaDoorDec
import Derived.Test.YthanhmchgidjlaaDoorShf
import Derived.Lib.AppendIntMem
import Derived.LaidMore
import Derived.Stop.LaidErr
namespace Go.Proofs.YthanhmchgidjlaaDoor
open Go Go.RowKit
set_option maxRecDepth 100000

abbrev P10 (w : World) : Prop := Lib.TabIs Tryd.prog w "internal/strconv.uint64pow10" .u64 Lib.pow10Tab
theorem P10.on {w w' : World} (h : P10 w) (b : Below w.heap.size w w') : P10 w' := Lib.tabBelow_of_tabIs h w' b
theorem iDec_any {n : Int} (h0 : -9223372036854775808 ≤ n) (h1 : n ≤ 9223372036854775807) (w : World) (ht : P10 w) : Calls Tryd.prog 10 #[.int .i64 n] w (RS (.string ⟨(Lib.itoa n).toArray⟩) w) := by
  have K := Hf.mk (fun w ht => Tryd.strconv_FormatInt_10 n h0 h1 w ht)
  go_enter Tryd.func10, Tryd.ntmps10
  go_wp2_with (go_at_call 30; refine (K.out _ (ht.on (by repeat (first | exact Below.refl _ _ | with_reducible assumption | refine Below.drews ?_ | refine Below.drew ?_ | refine Below.alloc ?_ (by simp <;> omega) _ | refine Below.setCell ?_ (by simp <;> omega) _)))).mono ?_; rintro e w' ⟨rfl, k, os, rfl⟩; have B1 := Hb.mk (Lib.below_grow w.heap.size w (Nat.le_refl _) k os))
  go_ret
  exact ⟨rfl, B1.out⟩
theorem law_Decimal {n : Int} (wn : (Lit.int .i64 n).wf = true) (w : World) (ht : P10 w) : Calls Tryd.prog 3 #[.int .i64 n] w (RS (.bool true) w) := by
  have hb : -9223372036854775808 ≤ n ∧ n ≤ 9223372036854775807 := by
    have h := wn
    simp [Lit.wf, IntKind.min, IntKind.max, IntKind.signed, IntKind.bits] at h
    exact h
  have KS := Hf.mk (fun w => l01Dec_any hb.1 hb.2 w)
  have KI := Hf.mk (fun w ht => iDec_any hb.1 hb.2 w ht)
  have HT := Hf.mk ht
  have B0 := Hb.mk (Below.refl w.heap.size w)
  clear ht
  go_enter Tryd.func3, Tryd.ntmps3
  go_wp2_with (first | (go_at_call 29; refine (KS.out _).mono ?_; rintro e w1 ⟨rfl, b1⟩; have B1 := Hb.mk (Below.on (B := w.heap.size) (a := w) (by repeat (first | exact B0.out | refine Below.drews ?_ | refine Below.drew ?_ | refine Below.alloc ?_ (by have hq_ := B0.out.size; first | omega | (simp <;> omega)) _ | refine Below.setCell ?_ (by have hq_ := B0.out.size; first | omega | (simp <;> omega)) _)) b1 (by have hq_ := B0.out.size; first | omega | (simp <;> omega))); clear b1) | (go_at_call 10; refine (KI.out _ (HT.out.on (by repeat (first | with_reducible refine Below.setCell ?_ (by first | omega | (simp <;> omega)) _ | with_reducible refine Below.drews ?_ | with_reducible refine Below.drew ?_ | with_reducible refine Below.alloc ?_ (by first | omega | (simp <;> omega)) _ | with_reducible exact B1.out | with_reducible exact Below.refl _ _)))).mono ?_; rintro e w2 ⟨rfl, b2⟩; have B2 := Hb.mk (Below.on (B := w.heap.size) (a := w) (by repeat (first | exact B1.out | refine Below.drews ?_ | refine Below.drew ?_ | refine Below.alloc ?_ (by have hq_ := B1.out.size; first | omega | (simp <;> omega)) _ | refine Below.setCell ?_ (by have hq_ := B1.out.size; first | omega | (simp <;> omega)) _)) b2 (by have hq_ := B1.out.size; first | omega | (simp <;> omega))); clear b2) | go_in)
  go_ret
  exact ⟨rfl, (by repeat (first | exact B2.out | refine Below.drews ?_ | refine Below.drew ?_ | refine Below.alloc ?_ (by have hq_ := B2.out.size; first | omega | (simp <;> omega)) _ | refine Below.setCell ?_ (by have hq_ := B2.out.size; first | omega | (simp <;> omega)) _))⟩
theorem tab_Decimal {W : World} (h : laidMetH Tryd.prog Rows.fnExactDecimalRow.laid W) : P10 W := by
  rw [MakeChecks.laidMetH_plain _ _ _ (by kernel_rfl)] at h
  have e : (Rows.laid_internal_strconv_uint64pow10 : DataW Unit) = Lib.tabData .u64 Lib.pow10Tab := by kernel_rfl
  have h2 := laidMet.tail (laidMet.tail h)
  rw [e] at h2
  exact Lib.tabIs_of_head (g := 0) (t := 98) (e := 72) (n := 20) (by kernel_rfl) (by kernel_rfl) (by kernel_rfl) Tryd.underlying72 (by kernel_rfl) (by kernel_rfl) h2
end Go.Proofs.YthanhmchgidjlaaDoor
