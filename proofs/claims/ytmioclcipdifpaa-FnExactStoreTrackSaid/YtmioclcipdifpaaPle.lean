/-
  Lists of places, element by element: exact words of valid places; sums of many small numbers.
-/
import Derived.Test.YtmioclcipdifpaaPls
namespace Go.Proofs.Ytmioclcipdifpaa
open Go Go.RowKit
set_option maxRecDepth 100000

theorem vEx {ys : List Nat} {n i : Nat} (hw : Wf ys) (hn : ys.length = 2 * n) (hi : i < n) (hv : vAt ys i = true) : Fl .f32 (nW ys i) (nW ys i) ∧ Fl .f32 (eW ys i) (eW ys i) ∧ validC (nW ys i) (eW ys i) = true := by
  have f1 := flN hw hn hi
  have f2 := flE hw hn hi
  unfold vAt at hv
  obtain ⟨t1, t2⟩ := turns_of hv
  have x1 := t1.word f1
  have x2 := t2.word f2
  rw [← x1] at f1 hv
  rw [← x2] at f2 hv
  exact ⟨f1, f2, hv⟩
theorem arePl_of {ys : List Nat} {n : Nat} (h : arePl ys n = true) : 1 ≤ n ∧ n ≤ 64 ∧ ∀ i, i < n → vAt ys i = true := by
  unfold arePl at h
  rw [Bool.and_eq_true, decide_eq_true_eq] at h
  exact ⟨h.1.1, h.1.2, allV_at h.2⟩
/-- The float of a small number. -/
def fo (m : Nat) : Nat := floatOfInt .f32 (m : Int)
theorem fo_step : ∀ m : Fin 129, val FloatKind.f32.format (rung .f32 (fo m.val)) + val FloatKind.f32.format (rung .f32 1065353216) ≤ val FloatKind.f32.format (rung .f32 (fo (m.val + 1))) ∧ fin .f32 (fo (m.val + 1)) = true := by decide +kernel
theorem fo_add {s t m : Nat} (hs : Ab .f32 s (fo m)) (ht : Ab .f32 t 1065353216) (hm : m ≤ 128) : Ab .f32 (fop .add .f32 s t) (fo (m + 1)) := by
  obtain ⟨h1, h2⟩ := fo_step ⟨m, by omega⟩
  exact add_ab hs ht h2 h1
theorem fo_zero : Ab .f32 0 (fo 0) := ⟨by decide +kernel, by decide +kernel⟩
theorem FRow.drews {w w' : World} {a : Option Addr} {xs : List Nat} (h : FRow w a xs) (d : Drew w w') : FRow w' a xs := by
  obtain ⟨n, rfl⟩ := d; exact h.drew n
end Go.Proofs.Ytmioclcipdifpaa
