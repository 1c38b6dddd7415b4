/-
  What the model's entries for math's bodyless functions give, over this seat's program. No premise.
-/
import Derived.Test.YthambmgibelpkaaDoorFlv
import Derived.Test.YthambmgibelpkaaDoorChecked
import Derived.Handy
namespace Go.Proofs.YthambmgibelpkaaDoor
open Go Go.RowKit
@[go_sem] theorem run_f32bits (x : Nat) (w : World) : (callFunc 25 #[.float .f32 x]).run Tryd.prog w = .ok (.value (.int .u32 (x : Int))) w := by
  rw [run_callFunc_extern (e := Extern.MathFloatBits.float32bits) Tryd.func25 (by kernel_rfl) (by kernel_rfl) (by kernel_rfl) (by kernel_rfl)]; rfl
@[go_sem] theorem run_f32from (n : Int) (w : World) : (callFunc 24 #[.int .u32 n]).run Tryd.prog w = .ok (.value (.float .f32 n.toNat)) w := by
  rw [run_callFunc_extern (e := Extern.MathFloatBits.float32frombits) Tryd.func24 (by kernel_rfl) (by kernel_rfl) (by kernel_rfl) (by kernel_rfl)]; rfl
end Go.Proofs.YthambmgibelpkaaDoor
