/-
  Numbers that are told by themselves. No premise.
-/
import Derived.Test.YtcgakdgfmhkpjaaDoorGma
namespace Go.Proofs.YtcgakdgfmhkpjaaDoor
open Go Go.RowKit
set_option maxRecDepth 100000

/-- a complex number and whether there is one -/
def cT (ok : Bool) (c d : Nat) : Value := if ok then .tuple #[.complex .f32 c d, .bool true] else .tuple #[.complex .f32 0 0, .bool false]
theorem own_fin {c : Nat} (w : World) {op : BinOp} {x y : Nat} (h : c = fop op .f32 x y) (ha : arithOp op = true) (hx : Fl .f32 x x) (hy : Fl .f32 y y) : Fl .f32 c c := by
  subst h
  obtain ⟨r, _, _, h⟩ := fop_run (P := Tryd.prog) w ha 0 hx hy
  exact h.self
theorem hF_fl {xs : List Nat} (hw : Wf xs) (j : Nat) : Fl .f32 (hF xs j) (hF xs j) := by
  unfold hF
  by_cases hj : j < xs.length
  · have e : xs.getD j 0 = xs[j]'hj := by simp [List.getD, hj]
    rw [e]
    exact (Fl.own (hw _ (List.getElem_mem hj))).self
  · have e : xs.getD j 0 = 0 := by simp [List.getD, List.getElem?_eq_none (show xs.length ≤ j by omega)]
    rw [e]
    have h0 : nrm .f32 0 = 0 := by decide +kernel
    rw [h0]
    exact zero32
theorem massF_fl {f : Nat → Nat} {lv : Nat} (w : World) (hf : ∀ j, Fl .f32 (f j) (f j)) (hl : Fl .f32 lv lv) : ∀ m, Fl .f32 (massF f lv m) (massF f lv m) := by
  intro m
  induction m with
  | zero => exact zero32
  | succ m ih =>
    cases h : fcmp .gtr .f32 (f m) lv
    · rw [massF_no h]; exact ih
    · rw [massF_yes h]; exact own_fin w rfl rfl ih (own_fin w rfl rfl (hf m) hl)
theorem sumF_fl {f : Nat → Nat} (w : World) (hf : ∀ j, Fl .f32 (f j) (f j)) : ∀ m, Fl .f32 (sumF f m) (sumF f m) := by
  intro m
  induction m with
  | zero => exact zero32
  | succ m ih => exact own_fin w rfl rfl ih (hf m)
theorem sqrF_fl {f : Nat → Nat} {c : Nat} (w : World) (hf : ∀ j, Fl .f32 (f j) (f j)) (hc : Fl .f32 c c) : ∀ m, Fl .f32 (sqrF f c m) (sqrF f c m) := by
  intro m
  induction m with
  | zero => exact zero32
  | succ m ih => exact own_fin w rfl rfl ih (own_fin w rfl rfl (own_fin w rfl rfl (hf m) hc) (own_fin w rfl rfl (hf m) hc))
end Go.Proofs.YtcgakdgfmhkpjaaDoor
