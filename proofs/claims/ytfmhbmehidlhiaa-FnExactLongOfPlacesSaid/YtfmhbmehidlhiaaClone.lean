/-
  slices.Clone of a list of places. No premise beyond those named.
-/
import Derived.Test.YtfmhbmehidlhiaaPle
import Derived.Laws.AppendOwn
namespace Go.Proofs.Ytfmhbmehidlhiaa
open Go Go.RowKit
set_option maxRecDepth 100000
theorem FRow.cells {w : World} {g : Nat} {ys : List Nat} (h : FRow w (some ⟨g, 0, none⟩) ys) : ∀ j u, (fls ys)[j]? = some u → w.cell? ((⟨g, 0, none⟩ : Addr).add j) = some u := by
  intro j u hu
  have hj : j < ys.length := by
    have := (List.getElem?_eq_some_iff.1 hu).1
    simpa [fls] using this
  obtain ⟨p, hp, hc⟩ := h j hj
  obtain rfl := Option.some.inj hp
  rw [hc, ← hu]
  simp [fls, List.getElem?_map, List.getElem?_eq_getElem hj]
theorem clone_any {g n : Nat} {ys : List Nat} (w : World) (hr : FRow w (some ⟨g, 0, none⟩) ys) (hn : ys.length = 2 * n) (hl : n ≤ 1048576) : Calls Try.prog 60 #[.slice (some ⟨g, 0, none⟩) n n] w (fun e w' => ∃ v, e = .returned v ∧ w'.ownsRow w.heap.size 25 2 v n (fls ys) ∧ Below w.heap.size w w') := by
  obtain ⟨i0, hi, hz0, hz1, hz2⟩ := info_parts (P := Try.prog) (e := 25) (z := pl 0 0) (size := 2) (bytes := 8) (by kernel_rfl)
  have HR := Hf.mk hr
  have HN := Hf.mk hn
  clear hr hn
  go_enter Try.func60, Try.ntmps60
  have he : ∀ w : World, (binOp .eql 43 (.slice (some ⟨g, 0, none⟩) n n) (.slice none 0 0)).run Try.prog w = .ok (.bool false) w := fun _ => rfl
  go_wp2_with (at_builtin; refine wpList_append_own _ rfl _ _ 43 rfl w.heap.size 25 i0 (pl 0 0) 2 8 Try.underlying43 hi hz0 hz1 hz2 rfl (by decide) _ 0 [] rfl (World.ownsRow_made _ _ _ (Nat.le_refl _) (by decide) rfl) ⟨g, 0, none⟩ n n (fls ys) rfl (by simp [fls, HN.out]; omega) (fun j u hu => (HR.out.below (by repeat (first | exact Below.refl _ _ | with_reducible assumption | refine Below.drews ?_ | refine Below.drew ?_ | refine Below.alloc ?_ (by simp <;> omega) _ | refine Below.setCell ?_ (by simp <;> omega) _))).cells j u hu) (fun u hu => by simp only [fls, List.mem_map] at hu; obtain ⟨x, _, rfl⟩ := hu; rfl) (by unfold maxLen; omega) (by omega) (by simp) ?_; intro v' w3 hown' hgrow3 hnil3)
  go_ret
  simp only [Nat.zero_add, List.nil_append] at hown'
  exact ⟨_, rfl, hown', Below.grown (by repeat (first | exact Below.refl _ _ | with_reducible assumption | refine Below.drews ?_ | refine Below.drew ?_ | refine Below.alloc ?_ (by simp <;> omega) _ | refine Below.setCell ?_ (by simp <;> omega) _)) hgrow3 (by simp) (fun k h => by cases h; exact Nat.le_refl _)⟩
end Go.Proofs.Ytfmhbmehidlhiaa
