/-
  The program's logarithm, tenths of decibels and square root, and its model's, compute the same Lean functions. Conditions: as named.
-/
import Derived.Test.YtmioclcipdifpaaLogM
import Derived.Test.YtmioclcipdifpaaAng
namespace Go.Proofs.Ytmioclcipdifpaa
open Go Go.RowKit
set_option maxRecDepth 100000

def fBits (v : Value) : Nat := match v with
  | .float _ b => b
  | _ => 0
theorem pos_fl {x : Nat} (h : x < 9218868437227405312) : Fl .f64 x x := Fl.not (fin_notN (pos_word h).1) (wf_of_lt .f64 x (by show x < 2 ^ 64; omega))
theorem fcmp_self {k : FloatKind} {c : Nat} (h : isN k c = false) : fcmp .neq k c c = false := by
  unfold fcmp; dsimp only; rw [order_self h]; rfl
theorem isInf1_any {c x : Nat} (hx : Fl .f64 c x) (w : World) : Calls Try.prog 54 #[.float .f64 x, .int .i64 1] w (RB (fcmp .gtr .f64 c 9218868437227405311) w) := by
  go_enter Try.func54, Try.ntmps54
  go_wp2_with (refine wpList_fcmp rfl rfl rfl rfl rfl (by first | (with_reducible assumption) | (with_reducible exact Fl.ofInt _ _) | exact Fl.not (by decide +kernel) (by decide +kernel)) (by first | (with_reducible assumption) | (with_reducible exact Fl.ofInt _ _) | exact Fl.not (by decide +kernel) (by decide +kernel)) ?_; simp only [Act.put, List.setIfInBounds_toArray, List.set_cons_succ, List.set_cons_zero])
  go_ret
  exact RB.any rfl (by repeat (first | exact Drew.refl _ | refine Drew.more ?_))
end Go.Proofs.Ytmioclcipdifpaa
