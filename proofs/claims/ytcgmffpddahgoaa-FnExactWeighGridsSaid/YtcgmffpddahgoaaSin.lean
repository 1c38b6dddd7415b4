/-
  The program's sine and its model's compute the same Lean function. Conditions: as named.
-/
import Derived.Test.YtcgmffpddahgoaaSinM
namespace Go.Proofs.Ytcgmffpddahgoaa
open Go Go.RowKit
set_option maxRecDepth 100000


theorem l01Narrow_any {c x : Nat} (hx : Fl .f64 c x) (hf : fits .f64 .f32 c = true) (w : World) : Calls Try.prog 146 #[.float .f64 x] w (RF .f32 (fcv .f64 .f32 c) w) := by
  go_enter Try.func146, Try.ntmps146
  go_wp2_with (refine wpList_fcv rfl rfl rfl (by kernel_rfl) Try.underlying29 (by decide) (by first | (with_reducible assumption) | (with_reducible exact Fl.ofInt _ _) | exact Fl.not (by decide +kernel) (by decide +kernel)) hf ?_; intro r n hr; simp only [Act.put, List.setIfInBounds_toArray, List.set_cons_succ, List.set_cons_zero])
  go_ret
  exact RF.any hr (by repeat (first | exact Drew.refl _ | refine Drew.more ?_))
theorem iNarrow_any {c x : Nat} (hx : Fl .f64 c x) (hf : fits .f64 .f32 c = true) (w : World) : Calls Try.prog 78 #[.float .f64 x] w (RF .f32 (fcv .f64 .f32 c) w) := by
  go_enter Try.func78, Try.ntmps78
  go_wp2_with (refine wpList_fcv rfl rfl rfl (by kernel_rfl) Try.underlying29 (by decide) (by first | (with_reducible assumption) | (with_reducible exact Fl.ofInt _ _) | exact Fl.not (by decide +kernel) (by decide +kernel)) hf ?_; intro r n hr; simp only [Act.put, List.setIfInBounds_toArray, List.set_cons_succ, List.set_cons_zero])
  go_ret
  exact RF.any hr (by repeat (first | exact Drew.refl _ | refine Drew.more ?_))
end Go.Proofs.Ytcgmffpddahgoaa
