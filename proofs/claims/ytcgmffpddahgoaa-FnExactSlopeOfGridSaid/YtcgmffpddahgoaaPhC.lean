/-
  complex128 of a complex64, whatever the tape answers for not-a-numbers; sameComplex. No condition.
-/
import Derived.Test.YtcgmffpddahgoaaPhI
namespace Go.Proofs.Ytcgmffpddahgoaa
open Go Go.RowKit

section
variable {P : Program}
theorem ftf_run (w : World) {c x : Nat} (hx : Fl .f32 c x) : ∃ r n, (Conv.floatToFloat .f32 x .f64).run P w = .ok (.float .f64 r) (w.drewN n) ∧ Fl .f64 (fcv .f32 .f64 c) r := by
  have e : fcv .f32 .f64 c = fcv .f32 .f64 x := by rw [← hx.eq, fcv_nrm]
  have f := fits_wide x
  rw [e]
  unfold fcv
  unfold fits at f
  cases hr : FloatKind.f32.format.read x with
  | nan g fr =>
    have hrun : (Conv.floatToFloat .f32 x .f64).run P w = .ok (.float .f64 ((Question.nanConv .f64 x).cut (w.tape w.drawn (.nanConv .f64 x)))) (w.drewN 1) := by
      simp [Conv.floatToFloat, FloatKind.decode, hr, Question.forced, World.drewN]
    exact ⟨_, 1, hrun, Fl.ofN (answer64 _)⟩
  | infinity g =>
    refine ⟨FloatKind.f64.format.write (.infinity g), 0, ?_, Fl.not (write_notNaN _ _ rfl) (wf_write _ _)⟩
    simp [Conv.floatToFloat, FloatKind.decode, FloatKind.encode, hr, World.drewN]
  | number g m e =>
    rw [hr] at f
    dsimp only at f
    refine ⟨FloatKind.f64.format.write (.number g m e), 0, ?_, Fl.not (write_notNaN _ _ rfl) (wf_write _ _)⟩
    have f' : (FloatKind.f64.decode (FloatKind.f64.encode (.number g m e))).isInfinity = false := by simpa [FloatKind.decode, FloatKind.encode] using f
    simp [Conv.floatToFloat, FloatKind.decode, FloatKind.encode, hr, World.drewN] at f' ⊢
    simp [f']
theorem ccv_run (w : World) (src dst : TypeId) {cr ci r i : Nat} (hs : (P.underlying src).isSome = true) (hd : P.underlying dst = some (.complex .f64)) (hr : Fl .f32 cr r) (hi : Fl .f32 ci i) :
    ∃ r' i' n, (convert src dst (.complex .f32 r i)).run P w = .ok (.complex .f64 r' i') (w.drewN n) ∧ Fl .f64 (fcv .f32 .f64 cr) r' ∧ Fl .f64 (fcv .f32 .f64 ci) i' := by
  obtain ⟨u, hs'⟩ := Option.isSome_iff_exists.1 hs
  obtain ⟨r', n1, h1, f1⟩ := ftf_run (P := P) w hr
  obtain ⟨i', n2, h2, f2⟩ := ftf_run (P := P) (w.drewN n1) hi
  refine ⟨r', i', n1 + n2, ?_, f1, f2⟩
  rw [← World.drewN_drewN]
  cases u <;> simp [convert, run_underlying hs', run_underlying hd, Conv.complexToComplex, h1, h2]
end
end Go.Proofs.Ytcgmffpddahgoaa
