/-
  What the model's entries for math's bodyless functions give, over this seat's program. No premise.
-/
import Derived.Test.YtconlpgifkknmabFlv
import Derived.Test.YtconlpgifkknmabChecked
import Derived.Handy
namespace Go.Proofs.Ytconlpgifkknmab
open Go Go.RowKit
@[go_sem] theorem run_f64bits (x : Nat) (w : World) : (callFunc 75 #[.float .f64 x]).run Try.prog w = .ok (.value (.int .u64 (x : Int))) w := by
  rw [run_callFunc_extern (e := Extern.MathFloatBits.float64bits) Try.func75 (by kernel_rfl) (by kernel_rfl) (by kernel_rfl) (by kernel_rfl)]; rfl
@[go_sem] theorem run_f64from (n : Int) (w : World) : (callFunc 74 #[.int .u64 n]).run Try.prog w = .ok (.value (.float .f64 n.toNat)) w := by
  rw [run_callFunc_extern (e := Extern.MathFloatBits.float64frombits) Try.func74 (by kernel_rfl) (by kernel_rfl) (by kernel_rfl) (by kernel_rfl)]; rfl
end Go.Proofs.Ytconlpgifkknmab
