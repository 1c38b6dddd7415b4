/-
  TenthsOf and RootNumber, of the program and of its model, compute the same Lean functions; their exact laws. No condition.
-/
import Derived.Test.YtmioclcipdifpaaLogN
namespace Go.Proofs.Ytmioclcipdifpaa
open Go Go.RowKit
set_option maxRecDepth 100000

def tenthsC (c : Nat) : Int := fint (ffloor (tenthsV (fcv .f32 .f64 c)))
/-- A finite number greater than 0. -/
def isPow (c : Nat) : Bool := decide (0 < c ∧ c < 2139095040)

theorem floor_run {c x : Nat} (w : World) (hx : Fl .f64 c x) (hf : fin .f64 c = true) : (callFunc 49 #[.float .f64 x]).run Try.prog w = .ok (.value (.float .f64 (ffloor c))) w := by
  obtain rfl := hx.word (fin_notN hf)
  obtain ⟨m, p, h1, _⟩ := read_fin hf
  rw [run_callFunc_extern (e := Extern.MathFloor.toIntegral "math.archFloor" .down) Try.func49 (by kernel_rfl) (by kernel_rfl) (by kernel_rfl) (by kernel_rfl)]
  have e : Extern.MathFloor.toIntegral "math.archFloor" .down #[.float .f64 x] = (match FloatKind.f64.decode x with
    | .nan s t =>
      if FloatKind.f64.format.quiet t = t then pure (.float .f64 x) else do
      let kept ← choose (.extern "math.Floor,Ceil,Trunc,RoundToEven.signallingNaN kept" 2)
      pure (.float .f64 (if kept == 1 then x else FloatKind.f64.encode (.nan s (FloatKind.f64.format.quiet t))))
    | d => pure (.float .f64 (FloatKind.f64.encode (d.integral .down))) : Sem Value) := rfl
  rw [e]
  unfold ffloor FloatKind.decode FloatKind.encode
  rw [h1]
  rfl
theorem floor_any {c x : Nat} (hx : Fl .f64 c x) (hf : fin .f64 c = true) (w : World) : Calls Try.prog 46 #[.float .f64 x] w (RF .f64 (ffloor c) w) := by
  have hrun := floor_run w hx hf
  have hn := ffloor_notN (fin_notN hf)
  have hfl := Fl.not hn.1 hn.2
  go_enter Try.func46, Try.ntmps46
  go_wp2
  go_ret
  exact RF.any hfl (by repeat (first | exact Drew.refl _ | refine Drew.more ?_))
theorem isPow_class {c : Nat} (hc : c < 4294967296) (h : isPow c = false) : fin .f32 c = false ∨ (fin .f32 c = true ∧ fcmp .leq .f32 c 0 = true) := by
  unfold isPow at h
  rw [decide_eq_false_iff_not] at h
  rcases classes hc with h1 | h1 | h1 | h1 | ⟨h1, h2⟩
  · left
    cases hf : fin .f32 c
    · rfl
    · rw [fin_notN hf] at h1; exact absurd h1 (by decide)
  · right; rcases h1 with rfl | rfl <;> decide +kernel
  · left; subst h1; decide +kernel
  · exact absurd h1 h
  · cases hf : fin .f32 c
    · exact .inl rfl
    · exact .inr ⟨rfl, (neg_class h1 h2).2.2.2.2.2⟩
/-- The steps of the tenths, each with its own name. -/
theorem tenths_names {c : Nat} (h : isPow c = true) : ∃ X l m t f : Nat, Keep (fcv .f32 .f64 c = X) ∧ Keep (logW X = l) ∧ Keep (fop .mul .f64 l 4631308968768463603 = m) ∧ Keep (fop .add .f64 m 4602678819172646912 = t) ∧ Keep (ffloor t = f) ∧ Keep (floatToIntVal .f64 f .i64 = some (tenthsC c)) ∧ Keep (isN .f64 X = false) ∧ Keep (fin .f64 t = true) ∧ Keep (isN .f64 f = false) ∧ 3936146074321813504 ≤ X ∧ X < 5183643171103440896 ∧ Keep (fin .f32 c = true) ∧ Keep (fcmp .leq .f32 c 0 = false) := by
  unfold isPow at h; rw [decide_eq_true_eq] at h
  obtain ⟨ha, hb⟩ := h
  obtain ⟨r1, r2⟩ := wide_range ha hb
  obtain ⟨hf, _, _, _, c1⟩ := pos_class ha hb
  have hw := isN_wide c
  rw [fin_notN hf] at hw
  obtain ⟨n, hn⟩ := tenths_int r1 r2
  have hft := (tenthsV_bd r1 r2).fin
  have hfn := (ffloor_notN (fin_notN hft)).1
  have hv : tenthsC c = n := fint_of hn
  refine ⟨_, _, _, _, _, ⟨rfl⟩, ⟨rfl⟩, ⟨rfl⟩, ⟨rfl⟩, ⟨rfl⟩, ⟨?_⟩, ⟨hw⟩, ⟨hft⟩, ⟨hfn⟩, r1, r2, ⟨hf⟩, ⟨c1⟩⟩
  rw [hv]; exact hn
end Go.Proofs.Ytmioclcipdifpaa
