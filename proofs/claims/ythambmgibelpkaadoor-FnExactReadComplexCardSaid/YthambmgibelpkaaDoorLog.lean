/-
  The program's logarithm, tenths of decibels and square root, and its model's, compute the same Lean functions. Conditions: as named.
-/
import Derived.Test.YthambmgibelpkaaDoorLogM
import Derived.Test.YthambmgibelpkaaDoorAng
namespace Go.Proofs.YthambmgibelpkaaDoor
open Go Go.RowKit
set_option maxRecDepth 100000

def fBits (v : Value) : Nat := match v with
  | .float _ b => b
  | _ => 0
theorem pos_fl {x : Nat} (h : x < 9218868437227405312) : Fl .f64 x x := Fl.not (fin_notN (pos_word h).1) (wf_of_lt .f64 x (by show x < 2 ^ 64; omega))
theorem fcmp_self {k : FloatKind} {c : Nat} (h : isN k c = false) : fcmp .neq k c c = false := by
  unfold fcmp; dsimp only; rw [order_self h]; rfl
end Go.Proofs.YthambmgibelpkaaDoor
