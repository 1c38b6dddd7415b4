/-
  WeighGrids: the numbers: weights that are not finite lead to heights that are not. No walk. No premise.
-/
import Derived.Test.YtcgmffpddahgoaaOwg
namespace Go.Proofs.Ytcgmffpddahgoaa
open Go Go.RowKit
set_option maxRecDepth 100000

/-- the height of a weighed sum -/
def wgC (x y : Nat) (f h : Nat → Nat) (j : Nat) : Nat := fop .add .f32 (fop .mul .f32 x (f j)) (fop .mul .f32 y (h j))
theorem winf_fin {k : FloatKind} (s : Bool) : fin k (k.format.write (.infinity s)) = false := by
  cases k <;> cases s <;> decide +kernel
theorem qn_fin (k : FloatKind) : fin k (qn k) = false := by cases k <;> decide +kernel
theorem mul_finl {k : FloatKind} {x y : Nat} (h : fin k (fop .mul k x y) = true) : fin k x = true := by
  rcases three (k := k) x with g | g | g
  · exact g
  · have hr := read_inf g
    have key : fop .mul k x y = qn k ∨ ∃ s, fop .mul k x y = k.format.write (.infinity s) := by
      cases hb : k.format.read y with
      | nan s t => exact .inl (fop_nan_r (by unfold isN; rw [hb]; rfl))
      | infinity s =>
        right; refine ⟨sgn k x ^^ s, fop_of_some ?_⟩
        unfold floatBits Ieee.Format.mul Ieee.Datum.product; dsimp only; rw [hr, hb]; rfl
      | number s m p =>
        by_cases e : m = 0
        · left; refine fop_of_none ?_
          unfold floatBits Ieee.Format.mul Ieee.Datum.product; dsimp only; rw [hr, hb]; dsimp only; rw [if_pos e]; rfl
        · right; refine ⟨sgn k x ^^ s, fop_of_some ?_⟩
          unfold floatBits Ieee.Format.mul Ieee.Datum.product; dsimp only; rw [hr, hb]; dsimp only; rw [if_neg e]; rfl
    rcases key with e | ⟨s, e⟩
    · rw [e, qn_fin] at h; cases h
    · rw [e, winf_fin] at h; cases h
  · rw [fop_nan_l g, qn_fin] at h; cases h
theorem sum_fins {k : FloatKind} {x y : Nat} (h : fin k (fop .add k x y) = true) : fin k x = true ∧ fin k y = true := by
  have key : ∀ a b, isInf k a = true → (fop .add k a b = qn k ∨ ∃ s, fop .add k a b = k.format.write (.infinity s)) ∧ (fop .add k b a = qn k ∨ ∃ s, fop .add k b a = k.format.write (.infinity s)) := by
    intro a b ha
    have hr := read_inf ha
    constructor
    · cases hb : k.format.read b with
      | nan s t => exact .inl (fop_nan_r (by unfold isN; rw [hb]; rfl))
      | infinity s =>
        by_cases e : sgn k a = s
        · right; refine ⟨sgn k a, fop_of_some ?_⟩
          unfold floatBits Ieee.Format.add Ieee.Datum.sum; dsimp only; rw [hr, hb]; dsimp only; rw [if_pos e]; rfl
        · left; refine fop_of_none ?_
          unfold floatBits Ieee.Format.add Ieee.Datum.sum; dsimp only; rw [hr, hb]; dsimp only; rw [if_neg e]; rfl
      | number s m p =>
        right; refine ⟨sgn k a, fop_of_some ?_⟩
        unfold floatBits Ieee.Format.add Ieee.Datum.sum; dsimp only; rw [hr, hb]; rfl
    · cases hb : k.format.read b with
      | nan s t => exact .inl (fop_nan_l (by unfold isN; rw [hb]; rfl))
      | infinity s =>
        by_cases e : s = sgn k a
        · right; refine ⟨s, fop_of_some ?_⟩
          unfold floatBits Ieee.Format.add Ieee.Datum.sum; dsimp only; rw [hr, hb]; dsimp only; rw [if_pos e]; rfl
        · left; refine fop_of_none ?_
          unfold floatBits Ieee.Format.add Ieee.Datum.sum; dsimp only; rw [hr, hb]; dsimp only; rw [if_neg e]; rfl
      | number s m p =>
        right; refine ⟨sgn k a, fop_of_some ?_⟩
        unfold floatBits Ieee.Format.add Ieee.Datum.sum; dsimp only; rw [hr, hb]; rfl
  refine ⟨?_, ?_⟩
  · rcases three (k := k) x with g | g | g
    · exact g
    · rcases (key x y g).1 with e | ⟨s, e⟩
      · rw [e, qn_fin] at h; cases h
      · rw [e, winf_fin] at h; cases h
    · rw [fop_nan_l g, qn_fin] at h; cases h
  · rcases three (k := k) y with g | g | g
    · exact g
    · rcases (key y x g).2 with e | ⟨s, e⟩
      · rw [e, qn_fin] at h; cases h
      · rw [e, winf_fin] at h; cases h
    · rw [fop_nan_r g, qn_fin] at h; cases h
theorem wg_fin {x y n : Nat} {f h : Nat → Nat} (hn : 0 < n) (hf : finB n (wgC x y f h) = true) : fin .f32 x = true ∧ fin .f32 y = true := by
  obtain ⟨h1, h2⟩ := sum_fins (fin_at hf hn)
  exact ⟨mul_finl h1, mul_finl h2⟩
theorem wg_fl (x y : Nat) (f h : Nat → Nat) (hx : Fl .f32 x x) (hy : Fl .f32 y y) (hf : ∀ j, Fl .f32 (f j) (f j)) (hh : ∀ j, Fl .f32 (h j) (h j)) (j : Nat) (w : World) : Fl .f32 (wgC x y f h j) (wgC x y f h j) :=
  own_fin w rfl rfl (own_fin w rfl rfl hx (hf j)) (own_fin w rfl rfl hy (hh j))
end Go.Proofs.Ytcgmffpddahgoaa
