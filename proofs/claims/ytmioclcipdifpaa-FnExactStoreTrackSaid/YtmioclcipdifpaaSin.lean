/-
  The program's sine and its model's compute the same Lean function. Conditions: as named.
-/
import Derived.Test.YtmioclcipdifpaaSinM
namespace Go.Proofs.Ytmioclcipdifpaa
open Go Go.RowKit
set_option maxRecDepth 100000


end Go.Proofs.Ytmioclcipdifpaa
