/-
  What the model's entries for math's bodyless functions give, over this seat's program. No premise.
-/
import Derived.Test.YtcgmffpddahgoacFlv
import Derived.Test.YtcgmffpddahgoacChecked
import Derived.Handy
namespace Go.Proofs.Ytcgmffpddahgoac
open Go Go.RowKit
@[go_sem] theorem run_f64bits (x : Nat) (w : World) : (callFunc 68 #[.float .f64 x]).run Try.prog w = .ok (.value (.int .u64 (x : Int))) w := by
  rw [run_callFunc_extern (e := Extern.MathFloatBits.float64bits) Try.func68 (by kernel_rfl) (by kernel_rfl) (by kernel_rfl) (by kernel_rfl)]; rfl
@[go_sem] theorem run_f64from (n : Int) (w : World) : (callFunc 67 #[.int .u64 n]).run Try.prog w = .ok (.value (.float .f64 n.toNat)) w := by
  rw [run_callFunc_extern (e := Extern.MathFloatBits.float64frombits) Try.func67 (by kernel_rfl) (by kernel_rfl) (by kernel_rfl) (by kernel_rfl)]; rfl
end Go.Proofs.Ytcgmffpddahgoac
