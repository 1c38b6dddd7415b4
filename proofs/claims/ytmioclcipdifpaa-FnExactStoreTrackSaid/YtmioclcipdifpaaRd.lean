/-
  Roads: rows of structs of three whole numbers: opened, copied, compared. No premise beyond those named.
-/
import Derived.Test.YtmioclcipdifpaaRow
import Derived.Test.YtmioclcipdifpaaTail
namespace Go.Proofs.Ytmioclcipdifpaa
open Go Go.RowKit Go.ChangeShapes
set_option maxRecDepth 100000

abbrev rd (a b l : Int) : Value := .agg #[.int .i64 a, .int .i64 b, .int .i64 l]
def raA (xs : List Int) (i : Nat) : Int := xs.getD (i * 3) 0
def raB (xs : List Int) (i : Nat) : Int := xs.getD (i * 3 + 1) 0
def raL (xs : List Int) (i : Nat) : Int := xs.getD (i * 3 + 2) 0
theorem IRow.three {w : World} {p : Addr} {xs : List Int} {n i : Nat} (h : IRow w (some p) xs) (hn : xs.length = 3 * n) (hi : i < n) : w.cell? (p.add (i * 3)) = some (.int .i64 (raA xs i)) ∧ w.cell? ⟨(p.add (i * 3)).block, (p.add (i * 3)).off + 1, none⟩ = some (.int .i64 (raB xs i)) ∧ w.cell? ⟨(p.add (i * 3)).block, (p.add (i * 3)).off + 2, none⟩ = some (.int .i64 (raL xs i)) := by
  obtain ⟨p1, h1, c1⟩ := h (i * 3) (by omega)
  obtain ⟨p2, h2, c2⟩ := h (i * 3 + 1) (by omega)
  obtain ⟨p3, h3, c3⟩ := h (i * 3 + 2) (by omega)
  obtain rfl := Option.some.inj h1
  obtain rfl := Option.some.inj h2
  obtain rfl := Option.some.inj h3
  rw [add_next1] at c2
  rw [add_next2] at c3
  exact ⟨c1, c2, c3⟩
theorem IRow.threeAt {w : World} {g : Nat} {xs : List Int} {n i : Nat} (h : IRow w (some ⟨g, 0, none⟩) xs) (hn : xs.length = 3 * n) (hi : i < n) : w.cell? ⟨g, i * 3, none⟩ = some (.int .i64 (raA xs i)) ∧ w.cell? ⟨g, i * 3 + 1, none⟩ = some (.int .i64 (raB xs i)) ∧ w.cell? ⟨g, i * 3 + 2, none⟩ = some (.int .i64 (raL xs i)) := by
  have := h.three hn hi
  rw [add_at] at this
  exact this
theorem rown_below {w w' : World} {base : Nat} {e : TypeId} {size : Nat} {v : Value} {n : Nat} {xs : List Value} (h : w.ownsRow base e size v n xs) (b : Below w.heap.size w w') : w'.ownsRow base e size v n xs := by
  refine h.kept (row := none) ⟨b.os, b.tape, b.output, b.size, fun k hk _ => b.block k hk⟩ ?_
  cases hv : v.ownBlock
  · exact .inl rfl
  · exact .inr (by simp)
section
open Go.ChangeShapes Go.WideShapes Go.Deep Go.Joins
variable {H : Type} {enc : TypeId × Value → H} {P : Program} {w : World} {base : Nat} {spare : Nat → Bool} {held : Bool}

theorem open_irow3 {t e f : TypeId} {f0 f1 f2 : Field} {fuel : Nat} {cs : List Value} {x : DataW H × List MemPlace} (ht : P.underlying t = some (.slice e)) (he : P.underlying e = some (.struct #[f0, f1, f2])) (hf : P.underlying f = some (.int .i64)) (hone : (oneCellFields P #[f0, f1, f2] && (f0.type == f && (f1.type == f && f2.type == f))) = true) (hc : P.cellsOf e = 3)
    (h : DataW.trod enc P w base spare held fuel t cs = some x) :
    ∃ (a : Option Addr) (n cap : Nat) (ys : List Int), cs = [.slice a n cap] ∧ n ≤ maxLen ∧ ys.length = 3 * n ∧ IRow w a ys ∧ Wi ys := by
  simp only [Bool.and_eq_true, beq_iff_eq] at hone
  obtain ⟨ho, t0, t1, t2⟩ := hone
  rcases DataW.trod_slice ht h with ⟨h0, _⟩ | ⟨a, len, cap, elems, rest, n, _, h0, _, _, hlc, hcm, hlen, hel, _, _⟩
  · exact ⟨none, 0, 0, [], h0, Nat.zero_le _, rfl, fun i hi => absurd hi (Nat.not_lt_zero i), fun _ hn => by cases hn⟩
  · have each : ∀ i, i < len → ∀ j, j < 3 → ∃ b, w.cell? (a.add (i * 3 + j)) = some (.int .i64 b) ∧ (Lit.int .i64 b).wf = true := by
      intro i hi
      have hb := hel i hi
      rw [hc, List.getElem?_eq_getElem (by omega : i < elems.length), Option.bind_eq_some_iff] at hb
      obtain ⟨cs', hcs, hy⟩ := hb
      obtain ⟨_, hl, hcell⟩ := World.cells?_some hcs
      obtain ⟨ys, m, _, _, _, hyl, hg⟩ := DataW.trod_struct he hy
      obtain ⟨o0, k0⟩ := hone_of ho 0 f0 rfl
      obtain ⟨o1, k1⟩ := hone_of ho 1 f1 rfl
      obtain ⟨o2, k2⟩ := hone_of ho 2 f2 rfl
      obtain ⟨c0, c1, c2, rfl⟩ : ∃ c0 c1 c2, cs' = [c0, c1, c2] := by
        match cs', hl with
        | [c0, c1, c2], _ => exact ⟨c0, c1, c2, rfl⟩
      obtain ⟨z0, z1, z2, rfl⟩ : ∃ z0 z1 z2, ys = [z0, z1, z2] := by
        match ys, hyl with
        | [z0, z1, z2], _ => exact ⟨z0, z1, z2, rfl⟩
      have g0 := hg 0 f0 rfl
      have g1 := hg 1 f1 rfl
      have g2 := hg 2 f2 rfl
      rw [o0, k0, t0] at g0
      rw [o1, k1, t1] at g1
      rw [o2, k2, t2] at g2
      simp at g0 g1 g2
      obtain ⟨b0, q0, _, w0⟩ := DataW.trod_int hf g0
      obtain ⟨b1, q1, _, w1⟩ := DataW.trod_int hf g1
      obtain ⟨b2, q2, _, w2⟩ := DataW.trod_int hf g2
      injection q0 with q0 _
      injection q1 with q1 _
      injection q2 with q2 _
      subst q0; subst q1; subst q2
      intro j hj
      have hj' := hcell j hj
      rw [Go.Deep.add_add] at hj'
      match j, hj with
      | 0, _ => exact ⟨b0, hj', w0⟩
      | 1, _ => exact ⟨b1, hj', w1⟩
      | 2, _ => exact ⟨b2, hj', w2⟩
    refine ⟨some a, len, cap, (List.range (3 * len)).map (fun i => intWord (w.cell? (a.add i))), h0, Nat.le_trans hlc hcm, by simp, ?_, ?_⟩
    · intro i hi
      have hi' : i < 3 * len := by simpa using hi
      obtain ⟨b, g, _⟩ := each (i / 3) (by omega) (i % 3) (by omega)
      rw [show i / 3 * 3 + i % 3 = i by omega] at g
      exact ⟨a, rfl, by rw [g]; simp [hi', g, intWord]⟩
    · intro m hm
      obtain ⟨i, hi, rfl⟩ := List.mem_map.1 hm
      have hi' := List.mem_range.1 hi
      obtain ⟨b, g, wb⟩ := each (i / 3) (by omega) (i % 3) (by omega)
      rw [show i / 3 * 3 + i % 3 = i by omega] at g
      rw [g]; exact wb
end
end Go.Proofs.Ytmioclcipdifpaa
