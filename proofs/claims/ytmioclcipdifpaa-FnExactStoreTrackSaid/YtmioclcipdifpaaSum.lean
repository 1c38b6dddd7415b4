/-
  SumNumbers and DotNumbers, of the program and of its model, compute the same Lean functions; their exact laws. No condition.
-/
import Derived.Test.YtmioclcipdifpaaSl
import Derived.Deep.RegionWith
namespace Go.Proofs.Ytmioclcipdifpaa
open Go Go.RowKit

def sumN (xs : List Nat) : Nat → Nat
  | 0 => 0
  | m + 1 => fop .add .f32 (sumN xs m) (nrm .f32 (xs.getD m 0))
def Wf (xs : List Nat) : Prop := ∀ x ∈ xs, (Lit.float .f32 x).wf = true
theorem Wf.at {xs : List Nat} (h : Wf xs) {m : Nat} (hm : m < xs.length) : Fl .f32 (nrm .f32 (xs.getD m 0)) (xs[m]'hm) := by
  have e : xs.getD m 0 = xs[m]'hm := by simp [List.getD, hm]
  rw [e]
  exact Fl.own (h _ (List.getElem_mem hm))
theorem zero32 : Fl .f32 0 0 := Fl.not (by decide +kernel) (by decide +kernel)
theorem FRow.drew {w : World} {a : Option Addr} {xs : List Nat} (h : FRow w a xs) (q : Nat) : FRow (w.drewN q) a xs := fun i hi => h i hi
theorem wide_all (P : Program) {src dst : TypeId} {c x : Nat} (hs : (P.underlying src).isSome = true) (hd : P.underlying dst = some (.float .f64)) (hx : Fl .f32 c x) :
    ∃ R N : World → Nat, (∀ w, (convert src dst (.float .f32 x)).run P w = .ok (.float .f64 (R w)) (w.drewN (N w))) ∧ ∀ w, Fl .f64 (fcv .f32 .f64 c) (R w) := by
  have h : ∀ w : World, ∃ rn : Nat × Nat, (convert src dst (.float .f32 x)).run P w = .ok (.float .f64 rn.1) (w.drewN rn.2) ∧ Fl .f64 (fcv .f32 .f64 c) rn.1 := by
    intro w
    obtain ⟨r, n, h1, h2⟩ := fcv_run (w := w) src dst hs hd (by decide) hx (fits_wide c)
    exact ⟨(r, n), h1, h2⟩
  exact ⟨fun w => (Classical.choose (h w)).1, fun w => (Classical.choose (h w)).2, fun w => (Classical.choose_spec (h w)).1, fun w => (Classical.choose_spec (h w)).2⟩
end Go.Proofs.Ytmioclcipdifpaa
