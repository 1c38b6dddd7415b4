/-
  The program's angle and its model's compute the same Lean function. Conditions: as named.
-/
import Derived.Test.YtcgmffpddahgoaaAngM
import Derived.Test.YtcgmffpddahgoaaSin
namespace Go.Proofs.Ytcgmffpddahgoaa
open Go Go.RowKit
set_option maxRecDepth 100000

theorem sqrt_run {c x : Nat} (w : World) (hx : Fl .f64 c x) : ∃ r n, (callFunc 116 #[.float .f64 x]).run Try.prog w = .ok (.value (.float .f64 r)) (w.drewN n) ∧ Fl .f64 (fsqrt c) r := by
  obtain ⟨r, n, h, hr⟩ := sqrt_entry (P := Try.prog) w hx
  refine ⟨r, n, ?_, hr⟩
  rw [run_callFunc_extern (e := Extern.MathSqrt.sqrt) Try.func116 (by kernel_rfl) (by kernel_rfl) (by kernel_rfl) (by kernel_rfl), h]; rfl
theorem sqrt_any {c x : Nat} (hx : Fl .f64 c x) (w : World) : Calls Try.prog 79 #[.float .f64 x] w (RF .f64 (fsqrt c) w) := by
  obtain ⟨r, n, hrun, hr⟩ := sqrt_run w hx
  go_enter Try.func79, Try.ntmps79
  go_wp2
  go_ret
  exact RF.any hr (by repeat (first | exact Drew.refl _ | refine Drew.more ?_))
end Go.Proofs.Ytcgmffpddahgoaa
