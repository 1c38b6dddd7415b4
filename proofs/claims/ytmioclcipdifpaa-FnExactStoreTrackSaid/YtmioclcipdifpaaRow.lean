/-
  Rows of whole numbers: what a slice of structs of four of them holds, and how it is opened. No premise.
-/
import Derived.Test.YtmioclcipdifpaaSt
import Derived.Test.YtmioclcipdifpaaSl
namespace Go.Proofs.Ytmioclcipdifpaa
open Go Go.RowKit Go.ChangeShapes
set_option maxRecDepth 100000

/-- The numbers of a row, in a world. -/
def IRow (w : World) (a : Option Addr) (xs : List Int) : Prop := ∀ i, i < xs.length → ∃ p, a = some p ∧ w.cell? (p.add i) = some (.int .i64 (xs.getD i 0))
def Wi (xs : List Int) : Prop := ∀ x ∈ xs, (Lit.int .i64 x).wf = true
def ils (xs : List Int) : List Value := xs.map (.int .i64)
abbrev ri (f t s l : Int) : Value := .agg #[.int .i64 f, .int .i64 t, .int .i64 s, .int .i64 l]
def fR (xs : List Int) (i : Nat) : Int := xs.getD (i * 4) 0
def tR (xs : List Int) (i : Nat) : Int := xs.getD (i * 4 + 1) 0
def sR (xs : List Int) (i : Nat) : Int := xs.getD (i * 4 + 2) 0
def lR (xs : List Int) (i : Nat) : Int := xs.getD (i * 4 + 3) 0
theorem IRow.below {w w' : World} {a : Option Addr} {xs : List Int} (h : IRow w a xs) (hb : Below w.heap.size w w') : IRow w' a xs := by
  intro i hi
  obtain ⟨p, hp, hc⟩ := h i hi
  exact ⟨p, hp, by rw [hb.cell (addr_lt hc)]; exact hc⟩
theorem IRow.drew {w : World} {a : Option Addr} {xs : List Int} (h : IRow w a xs) (n : Nat) : IRow (w.drewN n) a xs := h
theorem IRow.drews {w w' : World} {a : Option Addr} {xs : List Int} (h : IRow w a xs) (d : Drew w w') : IRow w' a xs := by
  obtain ⟨n, rfl⟩ := d; exact h.drew n
theorem IRow.some_of {w : World} {a : Option Addr} {xs : List Int} (h : IRow w a xs) (hl : 0 < xs.length) : ∃ p, a = some p := by
  obtain ⟨p, hp, _⟩ := h 0 hl
  exact ⟨p, hp⟩
theorem add_next1 (p : Addr) (k : Nat) : p.add (k + 1) = ⟨(p.add k).block, (p.add k).off + 1, none⟩ := by
  unfold Addr.add
  rw [if_neg (by omega)]
  split
  · next h => rw [h]
  · simp; omega
theorem add_next2 (p : Addr) (k : Nat) : p.add (k + 2) = ⟨(p.add k).block, (p.add k).off + 2, none⟩ := by
  unfold Addr.add
  rw [if_neg (by omega)]
  split
  · next h => rw [h]
  · simp; omega
theorem add_next3 (p : Addr) (k : Nat) : p.add (k + 3) = ⟨(p.add k).block, (p.add k).off + 3, none⟩ := by
  unfold Addr.add
  rw [if_neg (by omega)]
  split
  · next h => rw [h]
  · simp; omega
theorem IRow.four {w : World} {p : Addr} {xs : List Int} {n i : Nat} (h : IRow w (some p) xs) (hn : xs.length = 4 * n) (hi : i < n) : w.cell? (p.add (i * 4)) = some (.int .i64 (fR xs i)) ∧ w.cell? ⟨(p.add (i * 4)).block, (p.add (i * 4)).off + 1, none⟩ = some (.int .i64 (tR xs i)) ∧ w.cell? ⟨(p.add (i * 4)).block, (p.add (i * 4)).off + 2, none⟩ = some (.int .i64 (sR xs i)) ∧ w.cell? ⟨(p.add (i * 4)).block, (p.add (i * 4)).off + 3, none⟩ = some (.int .i64 (lR xs i)) := by
  obtain ⟨p1, h1, c1⟩ := h (i * 4) (by omega)
  obtain ⟨p2, h2, c2⟩ := h (i * 4 + 1) (by omega)
  obtain ⟨p3, h3, c3⟩ := h (i * 4 + 2) (by omega)
  obtain ⟨p4, h4, c4⟩ := h (i * 4 + 3) (by omega)
  obtain rfl := Option.some.inj h1
  obtain rfl := Option.some.inj h2
  obtain rfl := Option.some.inj h3
  obtain rfl := Option.some.inj h4
  rw [add_next1] at c2
  rw [add_next2] at c3
  rw [add_next3] at c4
  exact ⟨c1, c2, c3, c4⟩
theorem IRow.fourAt {w : World} {g : Nat} {xs : List Int} {n i : Nat} (h : IRow w (some ⟨g, 0, none⟩) xs) (hn : xs.length = 4 * n) (hi : i < n) : w.cell? ⟨g, i * 4, none⟩ = some (.int .i64 (fR xs i)) ∧ w.cell? ⟨g, i * 4 + 1, none⟩ = some (.int .i64 (tR xs i)) ∧ w.cell? ⟨g, i * 4 + 2, none⟩ = some (.int .i64 (sR xs i)) ∧ w.cell? ⟨g, i * 4 + 3, none⟩ = some (.int .i64 (lR xs i)) := by
  have := h.four hn hi
  rw [add_at] at this
  exact this
theorem wiAt {xs : List Int} (hw : Wi xs) {j : Nat} (hj : j < xs.length) : (Lit.int .i64 (xs.getD j 0)).wf = true := by
  have e : xs.getD j 0 = xs[j]'hj := by simp [List.getD, hj]
  rw [e]
  exact hw _ (List.getElem_mem hj)
theorem ils_of {xs : List Int} {cur : List Value} (hl : cur.length = xs.length) (h : ∀ j, j < xs.length → cur[j]? = some (.int .i64 (xs.getD j 0))) : cur = ils xs := by
  apply List.ext_getElem?
  intro j
  by_cases hj : j < xs.length
  · rw [h j hj]; simp [ils, List.getElem?_map, List.getElem?_eq_getElem hj]
  · rw [List.getElem?_eq_none (by omega), List.getElem?_eq_none (by simp [ils]; omega)]
theorem irow_own {w : World} {base g n cap k : Nat} {xs : List Int} {e : TypeId} (hn : k * n = xs.length) (h : w.ownsRow base e k (.slice (some ⟨g, 0, none⟩) n cap) n (ils xs)) : IRow w (some ⟨g, 0, none⟩) xs := by
  intro i hi
  refine ⟨_, rfl, ?_⟩
  have := h.cellAt i (by rw [Nat.mul_comm]; omega)
  rw [add_at, this]
  simp [ils, List.getElem?_map, List.getElem?_eq_getElem hi]

section
open Go.ChangeShapes Go.WideShapes Go.Deep Go.Joins
variable {H : Type} {enc : TypeId × Value → H} {P : Program} {w : World} {base : Nat} {spare : Nat → Bool} {held : Bool}
def intWord (c : Option Value) : Int := match c with | some (.int _ n) => n | _ => 0
theorem open_irow4 {t e f : TypeId} {f0 f1 f2 f3 : Field} {fuel : Nat} {cs : List Value} {x : DataW H × List MemPlace} (ht : P.underlying t = some (.slice e)) (he : P.underlying e = some (.struct #[f0, f1, f2, f3])) (hf : P.underlying f = some (.int .i64)) (hone : (oneCellFields P #[f0, f1, f2, f3] && (f0.type == f && (f1.type == f && (f2.type == f && f3.type == f)))) = true) (hc : P.cellsOf e = 4)
    (h : DataW.trod enc P w base spare held fuel t cs = some x) :
    ∃ (a : Option Addr) (n cap : Nat) (ys : List Int), cs = [.slice a n cap] ∧ n ≤ maxLen ∧ ys.length = 4 * n ∧ IRow w a ys ∧ Wi ys := by
  simp only [Bool.and_eq_true, beq_iff_eq] at hone
  obtain ⟨ho, t0, t1, t2, t3⟩ := hone
  rcases DataW.trod_slice ht h with ⟨h0, _⟩ | ⟨a, len, cap, elems, rest, n, _, h0, _, _, hlc, hcm, hlen, hel, _, _⟩
  · exact ⟨none, 0, 0, [], h0, Nat.zero_le _, rfl, fun i hi => absurd hi (Nat.not_lt_zero i), fun _ hn => by cases hn⟩
  · have each : ∀ i, i < len → ∀ j, j < 4 → ∃ b, w.cell? (a.add (i * 4 + j)) = some (.int .i64 b) ∧ (Lit.int .i64 b).wf = true := by
      intro i hi
      have hb := hel i hi
      rw [hc, List.getElem?_eq_getElem (by omega : i < elems.length), Option.bind_eq_some_iff] at hb
      obtain ⟨cs', hcs, hy⟩ := hb
      obtain ⟨_, hl, hcell⟩ := World.cells?_some hcs
      obtain ⟨ys, m, _, _, _, hyl, hg⟩ := DataW.trod_struct he hy
      obtain ⟨o0, k0⟩ := hone_of ho 0 f0 rfl
      obtain ⟨o1, k1⟩ := hone_of ho 1 f1 rfl
      obtain ⟨o2, k2⟩ := hone_of ho 2 f2 rfl
      obtain ⟨o3, k3⟩ := hone_of ho 3 f3 rfl
      obtain ⟨c0, c1, c2, c3, rfl⟩ : ∃ c0 c1 c2 c3, cs' = [c0, c1, c2, c3] := by
        match cs', hl with
        | [c0, c1, c2, c3], _ => exact ⟨c0, c1, c2, c3, rfl⟩
      obtain ⟨z0, z1, z2, z3, rfl⟩ : ∃ z0 z1 z2 z3, ys = [z0, z1, z2, z3] := by
        match ys, hyl with
        | [z0, z1, z2, z3], _ => exact ⟨z0, z1, z2, z3, rfl⟩
      have g0 := hg 0 f0 rfl
      have g1 := hg 1 f1 rfl
      have g2 := hg 2 f2 rfl
      have g3 := hg 3 f3 rfl
      rw [o0, k0, t0] at g0
      rw [o1, k1, t1] at g1
      rw [o2, k2, t2] at g2
      rw [o3, k3, t3] at g3
      simp at g0 g1 g2 g3
      obtain ⟨b0, q0, _, w0⟩ := DataW.trod_int hf g0
      obtain ⟨b1, q1, _, w1⟩ := DataW.trod_int hf g1
      obtain ⟨b2, q2, _, w2⟩ := DataW.trod_int hf g2
      obtain ⟨b3, q3, _, w3⟩ := DataW.trod_int hf g3
      injection q0 with q0 _
      injection q1 with q1 _
      injection q2 with q2 _
      injection q3 with q3 _
      subst q0; subst q1; subst q2; subst q3
      intro j hj
      have hj' := hcell j hj
      rw [Go.Deep.add_add] at hj'
      match j, hj with
      | 0, _ => exact ⟨b0, hj', w0⟩
      | 1, _ => exact ⟨b1, hj', w1⟩
      | 2, _ => exact ⟨b2, hj', w2⟩
      | 3, _ => exact ⟨b3, hj', w3⟩
    refine ⟨some a, len, cap, (List.range (4 * len)).map (fun i => intWord (w.cell? (a.add i))), h0, Nat.le_trans hlc hcm, by simp, ?_, ?_⟩
    · intro i hi
      have hi' : i < 4 * len := by simpa using hi
      obtain ⟨b, g, _⟩ := each (i / 4) (by omega) (i % 4) (by omega)
      rw [show i / 4 * 4 + i % 4 = i by omega] at g
      exact ⟨a, rfl, by rw [g]; simp [hi', g, intWord]⟩
    · intro m hm
      obtain ⟨i, hi, rfl⟩ := List.mem_map.1 hm
      have hi' := List.mem_range.1 hi
      obtain ⟨b, g, wb⟩ := each (i / 4) (by omega) (i % 4) (by omega)
      rw [show i / 4 * 4 + i % 4 = i by omega] at g
      rw [g]; exact wb
end
end Go.Proofs.Ytmioclcipdifpaa
