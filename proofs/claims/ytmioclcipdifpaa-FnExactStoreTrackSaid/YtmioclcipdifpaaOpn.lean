/-
  A slice of float32s that came in: its words.
-/
import Derived.Test.YtmioclcipdifpaaSl
import Derived.ProofKit
import Derived.ChangeSlices
namespace Go.Proofs.Ytmioclcipdifpaa
open Go Go.RowKit Go.ChangeShapes

section
variable {H : Type} {enc : TypeId × Value → H} {P : Program} {w : World} {base : Nat} {spare : Nat → Bool} {held : Bool}
theorem trod_f32 {t : TypeId} {fuel : Nat} {cs : List Value} {x : DataW H × List MemPlace} (ht : P.underlying t = some (.float .f32)) (h : DataW.trod enc P w base spare held fuel t cs = some x) : ∃ n, cs = [.float .f32 n] ∧ (Lit.float .f32 n).wf = true := by
  cases fuel with
  | zero => simp [DataW.trod] at h
  | succ n =>
    unfold DataW.trod at h
    rw [ht] at h
    split at h <;> simp_all
def wordOf : Option Value → Nat
  | some (.float _ b) => b
  | _ => 0
theorem open_frow {t e : TypeId} {fuel : Nat} {cs : List Value} {x : DataW H × List MemPlace} (ht : P.underlying t = some (.slice e)) (he : P.underlying e = some (.float .f32)) (hc : P.cellsOf e = 1)
    (h : DataW.trod enc P w base spare held fuel t cs = some x) :
    ∃ (a : Option Addr) (cap : Nat) (xs : List Nat), cs = [.slice a xs.length cap] ∧ FRow w a xs ∧ (∀ n ∈ xs, (Lit.float .f32 n).wf = true) := by
  rcases DataW.trod_slice ht h with ⟨h0, _⟩ | ⟨a, len, cap, elems, rest, n, _, h0, _, _, _, _, hlen, hel, _, _⟩
  · exact ⟨none, 0, [], h0, fun i hi => absurd hi (Nat.not_lt_zero i), fun _ hn => by cases hn⟩
  · have each : ∀ i, i < len → ∃ b, w.cell? (a.add i) = some (.float .f32 b) ∧ (Lit.float .f32 b).wf = true := by
      intro i hi
      have hb := hel i hi
      rw [hc, Nat.mul_one, List.getElem?_eq_getElem (by omega : i < elems.length), Option.bind_eq_some_iff] at hb
      obtain ⟨cs', hcs, hy⟩ := hb
      obtain ⟨b, rfl, hw⟩ := trod_f32 he hy
      exact ⟨b, cell_of_cells?_one hcs, hw⟩
    refine ⟨some a, cap, (List.range len).map (fun i => wordOf (w.cell? (a.add i))), by rw [h0]; simp, ?_, ?_⟩
    · intro i hi
      have hi' : i < len := by simpa using hi
      obtain ⟨b, hb, _⟩ := each i hi'
      refine ⟨a, rfl, ?_⟩
      rw [hb]
      simp [hi', hb, wordOf]
    · intro m hm
      obtain ⟨i, hi, rfl⟩ := List.mem_map.1 hm
      obtain ⟨b, hb, hw⟩ := each i (List.mem_range.1 hi)
      rw [hb]; exact hw
end
end Go.Proofs.Ytmioclcipdifpaa
