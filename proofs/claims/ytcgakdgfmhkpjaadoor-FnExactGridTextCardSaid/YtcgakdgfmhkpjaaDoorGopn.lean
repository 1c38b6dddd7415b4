/-
  A grid that came in, by value: its sides and the words of its heights.
-/
import Derived.Test.YtcgakdgfmhkpjaaDoorGrd
import Derived.Test.YtcgakdgfmhkpjaaDoorOpn
import Derived.Lib.SmallJoins
namespace Go.Proofs.YtcgakdgfmhkpjaaDoor
open Go Go.RowKit

section
open Go.ChangeShapes Go.WideShapes Go.Deep Go.Joins
variable {H : Type} {enc : TypeId × Value → H} {P : Program} {w : World} {base : Nat} {spare : Nat → Bool} {held : Bool}
theorem open_frowm {t e : TypeId} {fuel : Nat} {cs : List Value} {x : DataW H × List MemPlace} (ht : P.underlying t = some (.slice e)) (he : P.underlying e = some (.float .f32)) (hc : P.cellsOf e = 1)
    (h : DataW.trod enc P w base spare held fuel t cs = some x) :
    ∃ (a : Option Addr) (cap : Nat) (xs : List Nat), cs = [.slice a xs.length cap] ∧ FRow w a xs ∧ (∀ n ∈ xs, (Lit.float .f32 n).wf = true) ∧ xs.length ≤ maxLen := by
  obtain ⟨a, cap, xs, h0, h1, h2⟩ := open_frow ht he hc h
  refine ⟨a, cap, xs, h0, h1, h2, ?_⟩
  rcases DataW.trod_slice ht h with ⟨h3, _⟩ | ⟨b, len, cap', elems, rest, n, _, h3, _, _, hlc, hcm, _⟩
  · rw [h0] at h3
    simp only [List.cons.injEq, Value.slice.injEq, and_true] at h3
    omega
  · rw [h0] at h3
    simp only [List.cons.injEq, Value.slice.injEq, and_true] at h3
    omega
def gridShape (P : Program) (f0 f1 f2 : Field) (ti ts : TypeId) : Bool :=
  f0.type == ti && (f0.offset == 0 && (P.cellsOf ti == 1 && (f1.type == ti && (f1.offset == 1 && (f2.type == ts && (f2.offset == 2 && P.cellsOf ts == 1))))))
theorem open_grid {r : Reach} {b0 : Nat} {t ti ts e : TypeId} {f0 f1 f2 : Field} {v : Value} {d : DataW H} {p : List MemPlace} (hs : P.underlying t = some (.struct #[f0, f1, f2])) (hi : P.underlying ti = some (.int .i64)) (hp : P.underlying ts = some (.slice e)) (he : P.underlying e = some (.float .f32)) (hce : P.cellsOf e = 1) (hm : gridShape P f0 f1 f2 ti ts = true) (hC : P.cellsOf t = 3)
    (hv : Value.okWide P w r b0 t v) (h : DataW.Trod enc P w base spare held t v d p) : ∃ wd hg a cap xs, v = gd wd hg (.slice a xs.length cap) ∧ FRow w a xs ∧ Wf xs ∧ xs.length ≤ maxLen := by
  unfold gridShape at hm
  simp only [Bool.and_eq_true, beq_iff_eq] at hm
  obtain ⟨m1, m2, m3, m4, m5, m6, m7, m8⟩ := hm
  obtain ⟨cs, rfl, hsz⟩ := okWide_struct hs hv
  obtain ⟨c0, c1, c2, rfl⟩ := array3 (hsz.trans hC)
  obtain ⟨fuel, hf⟩ := h
  obtain ⟨xs, n, _, _, hl, hlen, hx⟩ := DataW.trod_struct hs hf
  have x0 := hx 0 f0 rfl
  have x1 := hx 1 f1 rfl
  have x2 := hx 2 f2 rfl
  have l0 : xs[0]? = some (xs[0]'(by simp at hlen; omega)) := List.getElem?_eq_getElem _
  have l1 : xs[1]? = some (xs[1]'(by simp at hlen; omega)) := List.getElem?_eq_getElem _
  have l2 : xs[2]? = some (xs[2]'(by simp at hlen; omega)) := List.getElem?_eq_getElem _
  rw [l0] at x0
  rw [l1] at x1
  rw [l2] at x2
  simp [m1, m2, m3, Value.cells] at x0
  simp [m4, m5, m3, Value.cells] at x1
  simp [m6, m7, m8, Value.cells] at x2
  obtain ⟨k, hk, _, wk⟩ := DataW.trod_int hi x0
  obtain ⟨k2, hk2, _, wk2⟩ := DataW.trod_int hi x1
  obtain ⟨a, cap, ys, ha, hfr, hwf, hle⟩ := open_frowm hp he hce x2
  injection hk with hk _
  injection hk2 with hk2 _
  injection ha with ha _
  exact ⟨k, k2, a, cap, ys, by rw [hk, hk2, ha], hfr, hwf, hle⟩
end
end Go.Proofs.YtcgakdgfmhkpjaaDoor
