/-
  A map that came in, by value: its kind and its words.
-/
import Derived.Test.YtenekhckmglobaaGreatMap
import Derived.Lib.SmallJoins
namespace Go.Proofs.YtenekhckmglobaaGreat
open Go Go.RowKit

section
open Go.ChangeShapes Go.WideShapes Go.Deep Go.Joins
variable {H : Type} {enc : TypeId × Value → H} {P : Program} {w : World} {base : Nat} {spare : Nat → Bool} {held : Bool}
def mapShape (P : Program) (f0 f1 f2 g0 g1 : Field) (ti tp e : TypeId) : Bool :=
  f0.type == ti && (f0.offset == 0 && (P.cellsOf ti == 1 && (f1.type == tp && (f1.offset == 1 && (P.cellsOf tp == 2 && (f2.type == e && (f2.offset == 3 && (P.cellsOf e == 1 && (oneCellFields P #[g0, g1] && (g0.type == e && g1.type == e))))))))))
theorem open_map {r : Reach} {b0 : Nat} {t ti tp e : TypeId} {f0 f1 f2 g0 g1 : Field} {v : Value} {d : DataW H} {p : List MemPlace} (hs : P.underlying t = some (.struct #[f0, f1, f2])) (hi : P.underlying ti = some (.int .i64)) (hp : P.underlying tp = some (.struct #[g0, g1])) (he : P.underlying e = some (.float .f32)) (hm : mapShape P f0 f1 f2 g0 g1 ti tp e = true) (hC : P.cellsOf t = 4)
    (hv : Value.okWide P w r b0 t v) (h : DataW.Trod enc P w base spare held t v d p) : ∃ k n a b, v = .agg #[.int .i64 k, .float .f32 n, .float .f32 a, .float .f32 b] ∧ (Lit.int .i64 k).wf = true ∧ (Lit.float .f32 n).wf = true ∧ (Lit.float .f32 a).wf = true ∧ (Lit.float .f32 b).wf = true := by
  unfold mapShape at hm
  simp only [Bool.and_eq_true, beq_iff_eq] at hm
  obtain ⟨m1, m2, m3, m4, m5, m6, m7, m8, m9, ho, g0t, g1t⟩ := hm
  obtain ⟨cs, rfl, hsz⟩ := okWide_struct hs hv
  obtain ⟨c0, c1, c2, c3, rfl⟩ := array4 (hsz.trans hC)
  obtain ⟨fuel, hf⟩ := h
  obtain ⟨xs, n, _, _, hl, hlen, hx⟩ := DataW.trod_struct hs hf
  have x0 := hx 0 f0 rfl
  have x1 := hx 1 f1 rfl
  have x2 := hx 2 f2 rfl
  have l0 : xs[0]? = some (xs[0]'(by simp at hlen; omega)) := List.getElem?_eq_getElem _
  have l1 : xs[1]? = some (xs[1]'(by simp at hlen; omega)) := List.getElem?_eq_getElem _
  have l2 : xs[2]? = some (xs[2]'(by simp at hlen; omega)) := List.getElem?_eq_getElem _
  rw [l0] at x0
  rw [l1] at x1
  rw [l2] at x2
  simp [m1, m2, m3, Value.cells] at x0
  simp [m4, m5, m6, Value.cells] at x1
  simp [m7, m8, m9, Value.cells] at x2
  obtain ⟨k, hk, _, wk⟩ := DataW.trod_int hi x0
  obtain ⟨b, hb, wb⟩ := trod_f32w he x2
  obtain ⟨y0, y1, m, _, _, q0, q1⟩ := trod_struct2 hp x1
  obtain ⟨o0, k0⟩ := hone_of ho 0 g0 rfl
  obtain ⟨o1, k1⟩ := hone_of ho 1 g1 rfl
  simp [o0, k0] at q0
  simp [o1, k1] at q1
  rw [g0t] at q0
  rw [g1t] at q1
  obtain ⟨n', hn', wn'⟩ := trod_f32w he q0
  obtain ⟨a', ha', wa'⟩ := trod_f32w he q1
  injection hk with hk _
  injection hb with hb _
  injection hn' with hn' _
  injection ha' with ha' _
  exact ⟨k, n', a', b, by rw [hk, hn', ha', hb], wk, wn', wa', wb⟩
end
end Go.Proofs.YtenekhckmglobaaGreat
