/-
  PhasorOf, of the program and of its model, compute the same Lean function. No condition beyond those named.
-/
import Derived.Test.YtcgmffpddahgoaaPhM
namespace Go.Proofs.Ytcgmffpddahgoaa
open Go Go.RowKit
set_option maxRecDepth 100000

theorem i_e {a b : Int} {k : IntKind} (h : a = b) : Value.int k a = .int k b := by rw [h]
def RC (cr ci : Nat) (w : World) (e : Ending) (w' : World) : Prop := ∃ r i, e = .returned (.complex .f32 r i) ∧ Fl .f32 cr r ∧ Fl .f32 ci i ∧ Drew w w'
theorem qf_word {F k x : Nat} (hI : InQ F) (ho : ∀ j, j < k → fcmp .geq .f64 (qf F j) 4598175219545276416 = true) (h : Fl .f64 (qf F k) x) : x = qf F k := h.word (hI.at ho).notN
end Go.Proofs.Ytcgmffpddahgoaa
