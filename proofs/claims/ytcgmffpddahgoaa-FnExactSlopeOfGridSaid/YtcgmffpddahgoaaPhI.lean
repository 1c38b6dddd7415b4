/-
  PhasorOf of the program. No condition beyond those named.
-/
import Derived.Test.YtcgmffpddahgoaaPh
namespace Go.Proofs.Ytcgmffpddahgoaa
open Go Go.RowKit

end Go.Proofs.Ytcgmffpddahgoaa
