/-
  Nets and tracks that came in, by value: their places, roads and names.
-/
import Derived.Test.YtmioclcipdifpaaPopn
import Derived.Test.YtmioclcipdifpaaRd
import Derived.Lib.SmallJoins
import Derived.ChangeMaps5
namespace Go.Proofs.Ytmioclcipdifpaa
open Go Go.RowKit

section
open Go.ChangeShapes Go.WideShapes Go.Deep Go.Joins
variable {H : Type} {enc : TypeId × Value → H} {P : Program} {w : World} {base : Nat} {spare : Nat → Bool} {held : Bool}
def pairShape (P : Program) (f0 f1 : Field) (ta tb : TypeId) : Bool :=
  f0.type == ta && (f0.offset == 0 && (P.cellsOf ta == 1 && (f1.type == tb && (f1.offset == 1 && P.cellsOf tb == 1))))
theorem open_pair {r : Reach} {b0 : Nat} {t ta tb : TypeId} {f0 f1 : Field} {v : Value} {d : DataW H} {p : List MemPlace} (hs : P.underlying t = some (.struct #[f0, f1])) (hm : pairShape P f0 f1 ta tb = true) (hC : P.cellsOf t = 2)
    (hv : Value.okWide P w r b0 t v) (h : DataW.Trod enc P w base spare held t v d p) : ∃ c0 c1 fuel x0 x1, v = .agg #[c0, c1] ∧ DataW.trod enc P w base spare held fuel ta [c0] = some x0 ∧ DataW.trod enc P w base spare held fuel tb [c1] = some x1 := by
  unfold pairShape at hm
  simp only [Bool.and_eq_true, beq_iff_eq] at hm
  obtain ⟨m1, m2, m3, m4, m5, m6⟩ := hm
  obtain ⟨cs, rfl, hsz⟩ := okWide_struct hs hv
  obtain ⟨c0, c1, rfl⟩ := array2 (hsz.trans hC)
  obtain ⟨fuel, hf⟩ := h
  obtain ⟨xs, n, _, _, hl, hlen, hx⟩ := DataW.trod_struct hs hf
  have x0 := hx 0 f0 rfl
  have x1 := hx 1 f1 rfl
  have l0 : xs[0]? = some (xs[0]'(by simp at hlen; omega)) := List.getElem?_eq_getElem _
  have l1 : xs[1]? = some (xs[1]'(by simp at hlen; omega)) := List.getElem?_eq_getElem _
  rw [l0] at x0
  rw [l1] at x1
  simp [m1, m2, m3, Value.cells] at x0
  simp [m4, m5, m6, Value.cells] at x1
  exact ⟨c0, c1, n, _, _, rfl, x0, x1⟩
theorem open_net {r : Reach} {b0 : Nat} {t ta tb ep er tf ti : TypeId} {f0 f1 p0 p1 r0 r1 r2 : Field} {v : Value} {d : DataW H} {p : List MemPlace} (hs : P.underlying t = some (.struct #[f0, f1])) (ha : P.underlying ta = some (.slice ep)) (hb : P.underlying tb = some (.slice er)) (hep : P.underlying ep = some (.struct #[p0, p1])) (her : P.underlying er = some (.struct #[r0, r1, r2])) (htf : P.underlying tf = some (.float .f32)) (hti : P.underlying ti = some (.int .i64))
    (o1 : (oneCellFields P #[p0, p1] && (p0.type == tf && p1.type == tf)) = true) (c1 : P.cellsOf ep = 2) (o2 : (oneCellFields P #[r0, r1, r2] && (r0.type == ti && (r1.type == ti && r2.type == ti))) = true) (c2 : P.cellsOf er = 3) (hm : pairShape P f0 f1 ta tb = true) (hC : P.cellsOf t = 2)
    (hv : Value.okWide P w r b0 t v) (h : DataW.Trod enc P w base spare held t v d p) : ∃ a n k b m l ys xs, v = .agg #[.slice a n k, .slice b m l] ∧ n ≤ maxLen ∧ ys.length = 2 * n ∧ FRow w a ys ∧ Wf ys ∧ m ≤ maxLen ∧ xs.length = 3 * m ∧ IRow w b xs ∧ Wi xs := by
  obtain ⟨v0, v1, fuel, x0, x1, rfl, g0, g1⟩ := open_pair hs hm hC hv h
  obtain ⟨a, n, k, ys, e0, h1, h2, h3, h4⟩ := open_prow ha hep htf o1 c1 g0
  obtain ⟨b, m, l, xs, e1, h5, h6, h7, h8⟩ := open_irow3 hb her hti o2 c2 g1
  injection e0 with e0 _
  injection e1 with e1 _
  exact ⟨a, n, k, b, m, l, ys, xs, by rw [e0, e1], h1, h2, h3, h4, h5, h6, h7, h8⟩
theorem open_track {r : Reach} {b0 : Nat} {t ta tb ep tf : TypeId} {f0 f1 p0 p1 : Field} {v : Value} {d : DataW H} {p : List MemPlace} (hs : P.underlying t = some (.struct #[f0, f1])) (ha : P.underlying ta = some .string) (hb : P.underlying tb = some (.slice ep)) (hep : P.underlying ep = some (.struct #[p0, p1])) (htf : P.underlying tf = some (.float .f32))
    (o1 : (oneCellFields P #[p0, p1] && (p0.type == tf && p1.type == tf)) = true) (c1 : P.cellsOf ep = 2) (hm : pairShape P f0 f1 ta tb = true) (hC : P.cellsOf t = 2)
    (hv : Value.okWide P w r b0 t v) (h : DataW.Trod enc P w base spare held t v d p) : ∃ s a n k ys, v = .agg #[.string s, .slice a n k] ∧ s.size ≤ maxLen ∧ n ≤ maxLen ∧ ys.length = 2 * n ∧ FRow w a ys ∧ Wf ys := by
  obtain ⟨v0, v1, fuel, x0, x1, rfl, g0, g1⟩ := open_pair hs hm hC hv h
  obtain ⟨s, e0, _, hsz⟩ := DataW.trod_string ha g0
  obtain ⟨a, n, k, ys, e1, h1, h2, h3, h4⟩ := open_prow hb hep htf o1 c1 g1
  injection e0 with e0 _
  injection e1 with e1 _
  exact ⟨s, a, n, k, ys, by rw [e0, e1], hsz, h1, h2, h3, h4⟩
end
end Go.Proofs.Ytmioclcipdifpaa
