/-
  The way of a valid place, of the program and of its model: the same three words. No condition beyond those named.
-/
import Derived.Test.YtmioclcipdifpaaTail
import Derived.Test.YtmioclcipdifpaaWr
namespace Go.Proofs.Ytmioclcipdifpaa
open Go Go.RowKit
set_option maxRecDepth 100000

def wxC (n e : Nat) : Nat := fop .mul .f32 (cosC n) (cosC e)
def wyC (n e : Nat) : Nat := fop .mul .f32 (cosC n) (sineC e)
/-- what a valid place's turns and their sines are -/
structure Turn (n : Nat) : Prop where
  ab : Ab .f32 n 1056964608
  sine : Ab .f32 (sineC n) 1073741824
  cos : Ab .f32 (cosC n) 1073741824
theorem Turn.of {n : Nat} (h : Ab .f32 n 1056964608) : Turn n := ⟨h, sine_ab h.fin, cos_ab (h.mono (by decide +kernel) (by decide +kernel))⟩
theorem wx_ab {n e : Nat} (hn : Turn n) (he : Turn e) : Ab .f32 (wxC n e) 1082130432 ∧ Ab .f32 (wyC n e) 1082130432 :=
  ⟨mul_ab hn.cos he.cos (by decide +kernel) (by decide +kernel), mul_ab hn.cos he.sine (by decide +kernel) (by decide +kernel)⟩
theorem Turn.word {n x : Nat} (h : Turn n) (hx : Fl .f32 n x) : x = n := hx.word (fin_notN h.ab.fin)
theorem east_ab {e : Nat} (h : isEastC e = true) : Ab .f32 e 1056964608 := by
  unfold isEastC at h
  rw [Bool.and_eq_true] at h
  exact between_ab (by decide +kernel) (by decide +kernel) (by decide +kernel) h.1 (lss_leq h.2)
theorem valid_ab {n e : Nat} (h : validC n e = true) : Ab .f32 n 1048576000 ∧ Ab .f32 e 1056964608 := by
  unfold validC at h
  rw [Bool.and_eq_true] at h
  refine ⟨?_, east_ab h.2⟩
  have h1 := h.1
  unfold isNorthC at h1
  rw [Bool.and_eq_true] at h1
  exact between_ab (by decide +kernel) (by decide +kernel) (by decide +kernel) h1.1 h1.2
theorem turns_of {n e : Nat} (h : validC n e = true) : Turn n ∧ Turn e := ⟨Turn.of ((valid_ab h).1.mono (by decide +kernel) (by decide +kernel)), Turn.of (valid_ab h).2⟩
abbrev wyT (x y z : Nat) (b : Bool) : Value := .tuple #[wy x y z, .bool b]
abbrev plT (x y : Nat) (b : Bool) : Value := .tuple #[pl x y, .bool b]
theorem sine_fl {c : Nat} (h : Turn c) : Fl .f32 (sineC c) (sineC c) ∧ Fl .f32 (cosC c) (cosC c) := by
  have wf : ∀ x, fin .f32 (sineC x) = true → Fl .f32 (sineC x) (sineC x) := by
    intro x hx
    refine Fl.not (fin_notN hx) ?_
    unfold sineC
    split
    · split
      · decide +kernel
      · exact wf_fcv _
    · decide +kernel
  exact ⟨wf _ h.sine.fin, wf _ h.cos.fin⟩
theorem wf_fop (op : BinOp) (k : FloatKind) (x y : Nat) : (Lit.float k (fop op k x y)).wf = true := by
  cases h : floatBits op k x y with
  | some r => rw [fop_of_some h]; exact floatBits_wf h
  | none => rw [fop_of_none h]; exact wf_qn k
theorem fop_fl {op : BinOp} {k : FloatKind} {x y : Nat} (h : fin k (fop op k x y) = true) : Fl k (fop op k x y) (fop op k x y) := Fl.not (fin_notN h) (wf_fop op k x y)
end Go.Proofs.Ytmioclcipdifpaa
