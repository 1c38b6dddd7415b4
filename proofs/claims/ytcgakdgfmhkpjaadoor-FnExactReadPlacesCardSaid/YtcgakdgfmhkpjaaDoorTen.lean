/-
  TenthsOf and RootNumber, of the program and of its model, compute the same Lean functions; their exact laws. No condition.
-/
import Derived.Test.YtcgakdgfmhkpjaaDoorLogN
namespace Go.Proofs.YtcgakdgfmhkpjaaDoor
open Go Go.RowKit
set_option maxRecDepth 100000

def tenthsC (c : Nat) : Int := fint (ffloor (tenthsV (fcv .f32 .f64 c)))
/-- A finite number greater than 0. -/
def isPow (c : Nat) : Bool := decide (0 < c ∧ c < 2139095040)

theorem isPow_class {c : Nat} (hc : c < 4294967296) (h : isPow c = false) : fin .f32 c = false ∨ (fin .f32 c = true ∧ fcmp .leq .f32 c 0 = true) := by
  unfold isPow at h
  rw [decide_eq_false_iff_not] at h
  rcases classes hc with h1 | h1 | h1 | h1 | ⟨h1, h2⟩
  · left
    cases hf : fin .f32 c
    · rfl
    · rw [fin_notN hf] at h1; exact absurd h1 (by decide)
  · right; rcases h1 with rfl | rfl <;> decide +kernel
  · left; subst h1; decide +kernel
  · exact absurd h1 h
  · cases hf : fin .f32 c
    · exact .inl rfl
    · exact .inr ⟨rfl, (neg_class h1 h2).2.2.2.2.2⟩
/-- The steps of the tenths, each with its own name. -/
theorem tenths_names {c : Nat} (h : isPow c = true) : ∃ X l m t f : Nat, Keep (fcv .f32 .f64 c = X) ∧ Keep (logW X = l) ∧ Keep (fop .mul .f64 l 4631308968768463603 = m) ∧ Keep (fop .add .f64 m 4602678819172646912 = t) ∧ Keep (ffloor t = f) ∧ Keep (floatToIntVal .f64 f .i64 = some (tenthsC c)) ∧ Keep (isN .f64 X = false) ∧ Keep (fin .f64 t = true) ∧ Keep (isN .f64 f = false) ∧ 3936146074321813504 ≤ X ∧ X < 5183643171103440896 ∧ Keep (fin .f32 c = true) ∧ Keep (fcmp .leq .f32 c 0 = false) := by
  unfold isPow at h; rw [decide_eq_true_eq] at h
  obtain ⟨ha, hb⟩ := h
  obtain ⟨r1, r2⟩ := wide_range ha hb
  obtain ⟨hf, _, _, _, c1⟩ := pos_class ha hb
  have hw := isN_wide c
  rw [fin_notN hf] at hw
  obtain ⟨n, hn⟩ := tenths_int r1 r2
  have hft := (tenthsV_bd r1 r2).fin
  have hfn := (ffloor_notN (fin_notN hft)).1
  have hv : tenthsC c = n := fint_of hn
  refine ⟨_, _, _, _, _, ⟨rfl⟩, ⟨rfl⟩, ⟨rfl⟩, ⟨rfl⟩, ⟨rfl⟩, ⟨?_⟩, ⟨hw⟩, ⟨hft⟩, ⟨hfn⟩, r1, r2, ⟨hf⟩, ⟨c1⟩⟩
  rw [hv]; exact hn
end Go.Proofs.YtcgakdgfmhkpjaaDoor
