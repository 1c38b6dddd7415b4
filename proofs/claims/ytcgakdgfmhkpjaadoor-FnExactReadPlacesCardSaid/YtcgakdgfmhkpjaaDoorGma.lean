/-
  MassAbove, RoughGrid and SharesAbove, of the program and of the model: the numbers that they return. No premise beyond those named.
-/
import Derived.Test.YtcgakdgfmhkpjaaDoorGrd
namespace Go.Proofs.YtcgakdgfmhkpjaaDoor
open Go Go.RowKit
set_option maxRecDepth 100000

def hF (xs : List Nat) (j : Nat) : Nat := nrm .f32 (xs.getD j 0)
def massF (f : Nat → Nat) (lv : Nat) : Nat → Nat
  | 0 => 0
  | m + 1 => if fcmp .gtr .f32 (f m) lv then fop .add .f32 (massF f lv m) (fop .sub .f32 (f m) lv) else massF f lv m
theorem massF_yes {f : Nat → Nat} {lv m : Nat} (h : fcmp .gtr .f32 (f m) lv = true) : massF f lv (m + 1) = fop .add .f32 (massF f lv m) (fop .sub .f32 (f m) lv) := by
  show (if _ then _ else _) = _
  rw [if_pos h]
theorem massF_no {f : Nat → Nat} {lv m : Nat} (h : fcmp .gtr .f32 (f m) lv = false) : massF f lv (m + 1) = massF f lv m := by
  show (if _ then _ else _) = _
  rw [if_neg (by rw [h]; decide)]
def massB (wd hg : Int) (n : Nat) (f : Nat → Nat) (lv : Nat) : Bool := gridB wd hg n f && (fin .f32 lv && fin .f32 (massF f lv n))
theorem told_lt {w : World} {g n : Nat} {f : Nat → Nat} (h : Told w g n f) (h0 : 0 < n) : g < w.heap.size := by
  obtain ⟨r, hc, _⟩ := h 0 h0
  exact block_lt_of_cell hc
/-- 'returns a float that is told by c, and true, or nothing and false' -/
def ReT (ok : Bool) (c : Nat) (w : World) (e : Ending) (w' : World) : Prop := ∃ r, e = .returned (if ok then .tuple #[.float .f32 r, .bool true] else .tuple #[.float .f32 0, .bool false]) ∧ Fl .f32 c r ∧ Below w.heap.size w w'
def cntF (f : Nat → Nat) (lv : Nat) : Nat → Nat
  | 0 => 0
  | m + 1 => if fcmp .geq .f32 (f m) lv then cntF f lv m + 1 else cntF f lv m
theorem cntF_yes {f : Nat → Nat} {lv m : Nat} (h : fcmp .geq .f32 (f m) lv = true) : cntF f lv (m + 1) = cntF f lv m + 1 := by
  show (if _ then _ else _) = _
  rw [if_pos h]
theorem cntF_no {f : Nat → Nat} {lv m : Nat} (h : fcmp .geq .f32 (f m) lv = false) : cntF f lv (m + 1) = cntF f lv m := by
  show (if _ then _ else _) = _
  rw [if_neg (by rw [h]; decide)]
theorem cntF_le {f : Nat → Nat} {lv : Nat} : ∀ m, cntF f lv m ≤ m := by
  intro m
  induction m with
  | zero => exact Nat.le_refl _
  | succ m ih =>
    cases h : fcmp .geq .f32 (f m) lv
    · rw [cntF_no h]; omega
    · rw [cntF_yes h]; omega
def shareB (wd hg : Int) (n : Nat) (f : Nat → Nat) (lv : Nat) : Bool := gridB wd hg n f && fin .f32 lv
def shareC (f : Nat → Nat) (lv n : Nat) : Nat := fop .quo .f32 (floatOfInt .f32 (cntF f lv n)) (floatOfInt .f32 n)
theorem share_fl {f : Nat → Nat} {lv n : Nat} (w : World) : Fl .f32 (shareC f lv n) (shareC f lv n) := by
  obtain ⟨r, _, _, h⟩ := fop_run (P := Tryd.prog) w (op := .quo) rfl 0 (Fl.ofInt .f32 (cntF f lv n : Nat)) (Fl.ofInt .f32 (n : Nat))
  exact h.self
def sumF (f : Nat → Nat) : Nat → Nat
  | 0 => 0
  | m + 1 => fop .add .f32 (sumF f m) (f m)
theorem sumN_F {xs : List Nat} : ∀ m, sumN xs m = sumF (hF xs) m := by
  intro m
  induction m with
  | zero => rfl
  | succ m ih => show fop .add .f32 (sumN xs m) _ = fop .add .f32 (sumF (hF xs) m) _; rw [ih]; rfl
def meanC (f : Nat → Nat) (n : Nat) : Nat := fop .quo .f32 (sumF f n) (floatOfInt .f32 (n : Nat))
def sqrF (f : Nat → Nat) (c : Nat) : Nat → Nat
  | 0 => 0
  | m + 1 => fop .add .f32 (sqrF f c m) (fop .mul .f32 (fop .sub .f32 (f m) c) (fop .sub .f32 (f m) c))
def roughC (f : Nat → Nat) (n : Nat) : Nat := rootC (fop .quo .f32 (sqrF f (meanC f n) n) (floatOfInt .f32 (n : Nat)))
def roughB (wd hg : Int) (n : Nat) (f : Nat → Nat) : Bool := gridB wd hg n f && fin .f32 (roughC f n)
end Go.Proofs.YtcgakdgfmhkpjaaDoor
