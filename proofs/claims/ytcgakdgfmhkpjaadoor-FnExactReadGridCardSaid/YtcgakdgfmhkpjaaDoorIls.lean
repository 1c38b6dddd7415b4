/-
  Lists of whole numbers that come in: copied by a law, and opened. No premise.
-/
import Derived.Test.YtcgakdgfmhkpjaaDoorRow
import Derived.Test.YtcgakdgfmhkpjaaDoorOpn
namespace Go.Proofs.YtcgakdgfmhkpjaaDoor
open Go Go.RowKit Go.ChangeShapes
set_option maxRecDepth 100000

theorem irow_o1 {w : World} {base g n cap : Nat} {xs : List Int} {e : TypeId} (hn : n = xs.length) (h : w.ownsRow base e 1 (.slice (some ⟨g, 0, none⟩) n cap) n (ils xs)) : IRow w (some ⟨g, 0, none⟩) xs := irow_own (k := 1) (by omega) h
section
open Go.ChangeShapes Go.WideShapes Go.Deep Go.Joins
variable {H : Type} {enc : TypeId × Value → H} {P : Program} {w : World} {base : Nat} {spare : Nat → Bool} {held : Bool}
theorem open_irow1 {t e : TypeId} {fuel : Nat} {cs : List Value} {x : DataW H × List MemPlace} (ht : P.underlying t = some (.slice e)) (he : P.underlying e = some (.int .i64)) (hc : P.cellsOf e = 1)
    (h : DataW.trod enc P w base spare held fuel t cs = some x) :
    ∃ (a : Option Addr) (cap : Nat) (xs : List Int), cs = [.slice a xs.length cap] ∧ IRow w a xs ∧ Wi xs := by
  rcases DataW.trod_slice ht h with ⟨h0, _⟩ | ⟨a, len, cap, elems, rest, n, _, h0, _, _, _, _, hlen, hel, _, _⟩
  · exact ⟨none, 0, [], h0, fun i hi => absurd hi (Nat.not_lt_zero i), fun _ hn => by cases hn⟩
  · have each : ∀ i, i < len → ∃ b, w.cell? (a.add i) = some (.int .i64 b) ∧ (Lit.int .i64 b).wf = true := by
      intro i hi
      have hb := hel i hi
      rw [hc, Nat.mul_one, List.getElem?_eq_getElem (by omega : i < elems.length), Option.bind_eq_some_iff] at hb
      obtain ⟨cs', hcs, hy⟩ := hb
      obtain ⟨b, rfl, _, hw⟩ := DataW.trod_int he hy
      exact ⟨b, cell_of_cells?_one hcs, hw⟩
    refine ⟨some a, cap, (List.range len).map (fun i => intWord (w.cell? (a.add i))), by rw [h0]; simp, ?_, ?_⟩
    · intro i hi
      have hi' : i < len := by simpa using hi
      obtain ⟨b, hb, _⟩ := each i hi'
      refine ⟨a, rfl, ?_⟩
      rw [hb]
      simp [hi', hb, intWord]
    · intro m hm
      obtain ⟨i, hi, rfl⟩ := List.mem_map.1 hm
      obtain ⟨b, hb, hw⟩ := each i (List.mem_range.1 hi)
      rw [hb]; exact hw
end
end Go.Proofs.YtcgakdgfmhkpjaaDoor
