/-
  SolveEven, of the program: its helpers. No premise beyond those named.
-/
import Derived.Test.YthambmgibelpkaaDoorEvs
import Derived.Test.YthambmgibelpkaaDoorTol
import Derived.Laws.AppendOwn
namespace Go.Proofs.YthambmgibelpkaaDoor
open Go Go.RowKit
set_option maxRecDepth 100000

theorem FRow.cellsF {w : World} {g : Nat} {ys : List Nat} (h : FRow w (some ⟨g, 0, none⟩) ys) : ∀ j u, (fls ys)[j]? = some u → w.cell? ((⟨g, 0, none⟩ : Addr).add j) = some u := by
  intro j u hu
  have hj : j < ys.length := by
    have := (List.getElem?_eq_some_iff.1 hu).1
    simpa [fls] using this
  obtain ⟨p, hp, hc⟩ := h j hj
  obtain rfl := Option.some.inj hp
  rw [hc, ← hu]
  simp [fls, List.getElem?_map, List.getElem?_eq_getElem hj]
theorem fls_one {xs : List Nat} : ∀ u ∈ fls xs, u.oneCell' = true := by
  intro u hu
  simp only [fls, List.mem_map] at hu
  obtain ⟨x, _, rfl⟩ := hu
  rfl
/-- a quotient of what a call yields and a float that is there, in every world -/
theorem fopQ (P : Program) {op : BinOp} (ha : arithOp op = true) (t : TypeId) {cx cy y : Nat} (hy : Fl .f32 cy y) :
    ∃ R N : Nat → World → Nat, (∀ x w, Fl .f32 cx x → (binOp op t (.float .f32 x) (.float .f32 y)).run P w = .ok (.float .f32 (R x w)) (w.drewN (N x w))) ∧ ∀ x w, Fl .f32 cx x → Fl .f32 (fop op .f32 cx cy) (R x w) := by
  have h : ∀ (x : Nat) (w : World), ∃ rn : Nat × Nat, Fl .f32 cx x → ((binOp op t (.float .f32 x) (.float .f32 y)).run P w = .ok (.float .f32 rn.1) (w.drewN rn.2) ∧ Fl .f32 (fop op .f32 cx cy) rn.1) := by
    intro x w
    by_cases hx : Fl .f32 cx x
    · obtain ⟨r, n, h1, h2⟩ := fop_run (P := P) w ha t hx hy
      exact ⟨(r, n), fun _ => ⟨h1, h2⟩⟩
    · exact ⟨(0, 0), fun h => absurd h hx⟩
  exact ⟨fun x w => (Classical.choose (h x w)).1, fun x w => (Classical.choose (h x w)).2, fun x w hx => (Classical.choose_spec (h x w) hx).1, fun x w hx => (Classical.choose_spec (h x w) hx).2⟩
theorem cell_off {W : World} {b j g q z : Nat} {v : Value} (h : b ≠ g) : ((W.drewN z).setCell ⟨g, q, none⟩ v).cell? ⟨b, j, none⟩ = W.cell? ⟨b, j, none⟩ := World.cell?_of_block (w := W) (Below.heap_setCell (W.drewN z) ⟨g, q, none⟩ v b h)
def RQ (T : TypeId) (ok : Bool) (n N : Nat) (M : Nat → Nat → Nat) (w : World) (e : Ending) (w' : World) : Prop :=
  (ok = true ∧ (∃ gr gs cap f, e = .returned (.tuple #[.slice (some ⟨gr, 0, none⟩) n n, .bool true]) ∧ (∀ j, j < n → w'.cell? ⟨gr, j, none⟩ = some (.slice (some ⟨gs, j * n, none⟩) n n)) ∧ Own w' w.heap.size T gs cap N f ∧ (∀ x y, x < n → y ≤ x → f (x * n + y) = M x y)) ∧ Below w.heap.size w w') ∨ (ok = false ∧ e = .returned (.tuple #[.slice none 0 0, .bool false]) ∧ Below w.heap.size w w')
end Go.Proofs.YthambmgibelpkaaDoor
