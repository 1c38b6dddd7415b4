/-
  A slice of places that came in: its words.
-/
import Derived.Test.YtmioclcipdifpaaPls
import Derived.Test.YtmioclcipdifpaaOpn
namespace Go.Proofs.Ytmioclcipdifpaa
open Go Go.RowKit Go.ChangeShapes

section
open Go.WideShapes Go.Deep Go.Joins
variable {H : Type} {enc : TypeId × Value → H} {P : Program} {w : World} {base : Nat} {spare : Nat → Bool} {held : Bool}
theorem add_one' (q : Addr) : q.add 1 = ⟨q.block, q.off + 1, none⟩ := rfl
theorem open_prow {t e f : TypeId} {f0 f1 : Field} {fuel : Nat} {cs : List Value} {x : DataW H × List MemPlace} (ht : P.underlying t = some (.slice e)) (he : P.underlying e = some (.struct #[f0, f1])) (hf : P.underlying f = some (.float .f32)) (hone : (oneCellFields P #[f0, f1] && (f0.type == f && f1.type == f)) = true) (hc : P.cellsOf e = 2)
    (h : DataW.trod enc P w base spare held fuel t cs = some x) :
    ∃ (a : Option Addr) (n cap : Nat) (ys : List Nat), cs = [.slice a n cap] ∧ n ≤ maxLen ∧ ys.length = 2 * n ∧ FRow w a ys ∧ Wf ys := by
  simp only [Bool.and_eq_true, beq_iff_eq] at hone
  obtain ⟨ho, t0, t1⟩ := hone
  rcases DataW.trod_slice ht h with ⟨h0, _⟩ | ⟨a, len, cap, elems, rest, n, _, h0, _, _, hlc, hcm, hlen, hel, _, _⟩
  · exact ⟨none, 0, 0, [], h0, Nat.zero_le _, rfl, fun i hi => absurd hi (Nat.not_lt_zero i), fun _ hn => by cases hn⟩
  · have each : ∀ i, i < len → ∃ b0 b1, w.cell? (a.add (i * 2)) = some (.float .f32 b0) ∧ w.cell? (a.add (i * 2 + 1)) = some (.float .f32 b1) ∧ (Lit.float .f32 b0).wf = true ∧ (Lit.float .f32 b1).wf = true := by
      intro i hi
      have hb := hel i hi
      rw [hc, List.getElem?_eq_getElem (by omega : i < elems.length), Option.bind_eq_some_iff] at hb
      obtain ⟨cs', hcs, hy⟩ := hb
      obtain ⟨_, hl, hcell⟩ := World.cells?_some hcs
      obtain ⟨y0, y1, m, _, _, g0, g1⟩ := trod_struct2 he hy
      obtain ⟨o0, k0⟩ := hone_of ho 0 f0 rfl
      obtain ⟨o1, k1⟩ := hone_of ho 1 f1 rfl
      obtain ⟨c0, c1, rfl⟩ : ∃ c0 c1, cs' = [c0, c1] := by
        match cs', hl with
        | [c0, c1], _ => exact ⟨c0, c1, rfl⟩
      simp [o0, k0] at g0
      simp [o1, k1] at g1
      rw [t0] at g0
      rw [t1] at g1
      obtain ⟨b0, q0, w0⟩ := trod_f32w hf g0
      obtain ⟨b1, q1, w1⟩ := trod_f32w hf g1
      injection q0 with q0 _
      injection q1 with q1 _
      subst q0; subst q1
      refine ⟨b0, b1, hcell 0 (by omega), ?_, w0, w1⟩
      have := hcell 1 (by omega)
      rw [add_next]
      rw [add_one'] at this
      exact this
    refine ⟨some a, len, cap, (List.range (2 * len)).map (fun i => wordOf (w.cell? (a.add i))), h0, Nat.le_trans hlc hcm, by simp, ?_, ?_⟩
    · intro i hi
      have hi' : i < 2 * len := by simpa using hi
      obtain ⟨b0, b1, g0, g1, _, _⟩ := each (i / 2) (by omega)
      refine ⟨a, rfl, ?_⟩
      rcases (by omega : i = i / 2 * 2 ∨ i = i / 2 * 2 + 1) with he | he
      · rw [← he] at g0
        rw [g0]
        simp [hi', g0, wordOf]
      · rw [← he] at g1
        rw [g1]
        simp [hi', g1, wordOf]
    · intro m hm
      obtain ⟨i, hi, rfl⟩ := List.mem_map.1 hm
      have hi' := List.mem_range.1 hi
      obtain ⟨b0, b1, g0, g1, w0, w1⟩ := each (i / 2) (by omega)
      rcases (by omega : i = i / 2 * 2 ∨ i = i / 2 * 2 + 1) with he | he
      · rw [← he] at g0
        rw [g0]; exact w0
      · rw [← he] at g1
        rw [g1]; exact w1
end
end Go.Proofs.Ytmioclcipdifpaa
