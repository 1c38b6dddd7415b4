/-
ReadDecimal: the law.
-/
import Derived.Test.YthanhmchgidjlaaDoorRdd
namespace Go.Proofs.YthanhmchgidjlaaDoor
open Go Go.RowKit
set_option maxRecDepth 100000
theorem sRead_any (s : ByteArray) (w : World) : Calls Tryd.prog 11 #[.string s] w (RS (rdV s) w) := by
  have K0 := fun w => l01Value_any s w
  unfold rdV at K0 ⊢
  generalize (if rdOk s.data.toList then rdN s.data.toList else 0) = A at K0 ⊢
  generalize rdOk s.data.toList = B at K0 ⊢
  have K := Hf.mk K0
  clear K0
  have B0 := Hb.mk (Below.refl w.heap.size w)
  go_enter Tryd.func11, Tryd.ntmps11
  go_wp2_with (go_at_call 31; refine (K.out _).mono ?_; rintro e w1 ⟨rfl, b1⟩; have B1 := Hb.mk (Below.on (B := w.heap.size) (a := w) (by repeat (first | exact B0.out | refine Below.drews ?_ | refine Below.drew ?_ | refine Below.alloc ?_ (by have hq_ := B0.out.size; first | omega | (simp <;> omega)) _ | refine Below.setCell ?_ (by have hq_ := B0.out.size; first | omega | (simp <;> omega)) _)) b1 (by have hq_ := B0.out.size; first | omega | (simp <;> omega))); clear b1)
  go_ret2
  exact ⟨rfl, (by repeat (first | exact B1.out | refine Below.drews ?_ | refine Below.drew ?_ | refine Below.alloc ?_ (by have hq_ := B1.out.size; first | omega | (simp <;> omega)) _ | refine Below.setCell ?_ (by have hq_ := B1.out.size; first | omega | (simp <;> omega)) _))⟩
theorem law_ReadDecimal {s : ByteArray} (_ : s.size ≤ maxLen) (w : World) (ht : P10 w) : Calls Tryd.prog 4 #[.string s] w (RS (.bool true) w) := by
  have K1 := fun w => sRead_any s w
  have K2 := fun w ht => iRead_any s w ht
  unfold rdV at K1 K2
  generalize (if rdOk s.data.toList then rdN s.data.toList else 0) = A at K1 K2
  generalize rdOk s.data.toList = B at K1 K2
  have KS := Hf.mk K1
  have KI := Hf.mk K2
  clear K1 K2
  have HT := Hf.mk ht
  have B0 := Hb.mk (Below.refl w.heap.size w)
  clear ht
  by_cases hs : s.size ≤ 1048576
  · go_enter Tryd.func4, Tryd.ntmps4
    go_wp2_with (first | (go_at_call 11; refine (KS.out _).mono ?_; rintro e w1 ⟨rfl, b1⟩; have B1 := Hb.mk (Below.on (B := w.heap.size) (a := w) (by repeat (first | exact B0.out | refine Below.drews ?_ | refine Below.drew ?_ | refine Below.alloc ?_ (by have hq_ := B0.out.size; first | omega | (simp <;> omega)) _ | refine Below.setCell ?_ (by have hq_ := B0.out.size; first | omega | (simp <;> omega)) _)) b1 (by have hq_ := B0.out.size; first | omega | (simp <;> omega))); clear b1) | (go_at_call 12; refine (KI.out _ (HT.out.on (by repeat (first | with_reducible refine Below.setCell ?_ (by first | omega | (simp <;> omega)) _ | with_reducible refine Below.drews ?_ | with_reducible refine Below.drew ?_ | with_reducible refine Below.alloc ?_ (by first | omega | (simp <;> omega)) _ | with_reducible exact B1.out | with_reducible exact Below.refl _ _)))).mono ?_; rintro e w2 ⟨rfl, b2⟩; have B2 := Hb.mk (Below.on (B := w.heap.size) (a := w) (by repeat (first | exact B1.out | refine Below.drews ?_ | refine Below.drew ?_ | refine Below.alloc ?_ (by have hq_ := B1.out.size; first | omega | (simp <;> omega)) _ | refine Below.setCell ?_ (by have hq_ := B1.out.size; first | omega | (simp <;> omega)) _)) b2 (by have hq_ := B1.out.size; first | omega | (simp <;> omega))); clear b2) | go_in)
    go_ret
    exact ⟨rfl, (by repeat (first | exact B2.out | refine Below.drews ?_ | refine Below.drew ?_ | refine Below.alloc ?_ (by have hq_ := B2.out.size; first | omega | (simp <;> omega)) _ | refine Below.setCell ?_ (by have hq_ := B2.out.size; first | omega | (simp <;> omega)) _))⟩
  · have h9 : (1048576 : Int) < (s.size : Int) := by omega
    go_enter Tryd.func4, Tryd.ntmps4
    go_wp2
    go_ret
    exact ⟨rfl, (by repeat (first | exact B0.out | refine Below.drews ?_ | refine Below.drew ?_ | refine Below.alloc ?_ (by have hq_ := B0.out.size; first | omega | (simp <;> omega)) _ | refine Below.setCell ?_ (by have hq_ := B0.out.size; first | omega | (simp <;> omega)) _))⟩
theorem tab_ReadDecimal {W : World} (h : laidMetH Tryd.prog Rows.fnExactReadDecimalRow.laid W) : P10 W := tab_Decimal h
end Go.Proofs.YthanhmchgidjlaaDoor
