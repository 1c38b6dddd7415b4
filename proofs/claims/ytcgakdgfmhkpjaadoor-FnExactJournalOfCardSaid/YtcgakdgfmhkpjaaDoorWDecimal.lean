/-
Decimal: the law. The library's table of powers of ten reads as its text lays it.
-/
import Derived.Test.YtcgakdgfmhkpjaaDoorDec
import Derived.Test.YtcgakdgfmhkpjaaDoorShf
import Derived.Lib.AppendIntMem
import Derived.LaidMore
import Derived.Stop.LaidErr
namespace Go.Proofs.YtcgakdgfmhkpjaaDoor
open Go Go.RowKit
set_option maxRecDepth 100000

abbrev P10 (w : World) : Prop := Lib.TabIs Tryd.prog w "internal/strconv.uint64pow10" .u64 Lib.pow10Tab
theorem P10.on {w w' : World} (h : P10 w) (b : Below w.heap.size w w') : P10 w' := Lib.tabBelow_of_tabIs h w' b
theorem iDec_any {n : Int} (h0 : -9223372036854775808 ≤ n) (h1 : n ≤ 9223372036854775807) (w : World) (ht : P10 w) : Calls Tryd.prog 90 #[.int .i64 n] w (RS (.string ⟨(Lib.itoa n).toArray⟩) w) := by
  have K := Hf.mk (fun w ht => Tryd.strconv_FormatInt_10 n h0 h1 w ht)
  go_enter Tryd.func90, Tryd.ntmps90
  go_wp2_with (go_at_call 110; refine (K.out _ (ht.on (by repeat (first | exact Below.refl _ _ | with_reducible assumption | refine Below.drews ?_ | refine Below.drew ?_ | refine Below.alloc ?_ (by simp <;> omega) _ | refine Below.setCell ?_ (by simp <;> omega) _)))).mono ?_; rintro e w' ⟨rfl, k, os, rfl⟩; have B1 := Hb.mk (Lib.below_grow w.heap.size w (Nat.le_refl _) k os))
  go_ret
  exact ⟨rfl, B1.out⟩
end Go.Proofs.YtcgakdgfmhkpjaaDoor
