/-
  FnExactPointOf: the law's own walk. No condition.
-/
import Derived.Test.YtfmhbmehidlhiaaGreatPtO
namespace Go.Proofs.YtfmhbmehidlhiaaGreat
open Go Go.RowKit
set_option maxRecDepth 100000

theorem own_word {a : Nat} (wa : (Lit.float .f32 a).wf = true) (h : fin .f32 (nrm .f32 a) = true) : Fl .f32 a a ∧ nrm .f32 a = a := by
  have h1 := (Fl.own wa).word (fin_notN h)
  have h2 := Fl.own wa
  rw [← h1] at h2
  exact ⟨h2, h1.symm⟩
end Go.Proofs.YtfmhbmehidlhiaaGreat
