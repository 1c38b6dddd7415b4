/-
Decimal: the law. The library's table of powers of ten reads as its text lays it.
-/
import Derived.Test.YthambmgibelpkaaDoorDec
import Derived.Test.YthambmgibelpkaaDoorShf
import Derived.Lib.AppendIntMem
import Derived.LaidMore
import Derived.Stop.LaidErr
namespace Go.Proofs.YthambmgibelpkaaDoor
open Go Go.RowKit
set_option maxRecDepth 100000

abbrev P10 (w : World) : Prop := Lib.TabIs Tryd.prog w "internal/strconv.uint64pow10" .u64 Lib.pow10Tab
theorem P10.on {w w' : World} (h : P10 w) (b : Below w.heap.size w w') : P10 w' := Lib.tabBelow_of_tabIs h w' b
end Go.Proofs.YthambmgibelpkaaDoor
