/-
  SolveEven, of the model: the numbers that it returns. No premise beyond those named.
-/
import Derived.Test.YthambmgibelpkaaDoorEvn
import Derived.Test.YthambmgibelpkaaDoorRow
import Derived.IntWalk
namespace Go.Proofs.YthambmgibelpkaaDoor
open Go Go.RowKit
set_option maxRecDepth 100000

theorem fopA (P : Program) {op : BinOp} (ha : arithOp op = true) (t : TypeId) {cx cy x y : Nat} (hx : Fl .f32 cx x) (hy : Fl .f32 cy y) :
    ∃ R N : World → Nat, (∀ w, (binOp op t (.float .f32 x) (.float .f32 y)).run P w = .ok (.float .f32 (R w)) (w.drewN (N w))) ∧ ∀ w, Fl .f32 (fop op .f32 cx cy) (R w) := by
  have h : ∀ w : World, ∃ rn : Nat × Nat, (binOp op t (.float .f32 x) (.float .f32 y)).run P w = .ok (.float .f32 rn.1) (w.drewN rn.2) ∧ Fl .f32 (fop op .f32 cx cy) rn.1 := by
    intro w
    obtain ⟨r, n, h1, h2⟩ := fop_run (P := P) w ha t hx hy
    exact ⟨(r, n), h1, h2⟩
  exact ⟨fun w => (Classical.choose (h w)).1, fun w => (Classical.choose (h w)).2, fun w => (Classical.choose_spec (h w)).1, fun w => (Classical.choose_spec (h w)).2⟩
theorem fopA2 (P : Program) {op : BinOp} (ha : arithOp op = true) (t : TypeId) {cx cy x : Nat} {Y : World → Nat} (hx : Fl .f32 cx x) (hy : ∀ w, Fl .f32 cy (Y w)) :
    ∃ R N : World → World → Nat, (∀ w1 w, (binOp op t (.float .f32 x) (.float .f32 (Y w1))).run P w = .ok (.float .f32 (R w1 w)) (w.drewN (N w1 w))) ∧ ∀ w1 w, Fl .f32 (fop op .f32 cx cy) (R w1 w) := by
  have h := fun w1 => fopA P ha t hx (hy w1)
  exact ⟨fun w1 => Classical.choose (h w1), fun w1 => Classical.choose (Classical.choose_spec (h w1)), fun w1 => (Classical.choose_spec (Classical.choose_spec (h w1))).1, fun w1 => (Classical.choose_spec (Classical.choose_spec (h w1))).2⟩
def sqF (xs : List Nat) (n a c : Nat) : Nat := nrm .f32 (xs.getD (a * n + c) 0)
theorem mades {N : Nat} : (madeCells (Value.float .f32 0).cells (N * 1)).toList = fls (List.replicate N 0) := by
  apply List.ext_getElem
  · simp [madeCells, fls]
  · intro i h1 h2
    simp [madeCells, fls, Value.cells, Nat.mod_one]
/-- m floats that are told, from a place on -/
def Told (w : World) (g : Nat) (m : Nat) (f : Nat → Nat) : Prop := ∀ j, j < m → ∃ r, w.cell? ⟨g, j, none⟩ = some (.float .f32 r) ∧ Fl .f32 (f j) r
theorem Told.below {w w' : World} {g m : Nat} {f : Nat → Nat} (h : Told w g m f) (b : Below w.heap.size w w') : Told w' g m f := fun j hj => by
  obtain ⟨r, hc, hf⟩ := h j hj
  exact ⟨r, Below.keep b hc, hf⟩
theorem Told.drew {w : World} {g m : Nat} {f : Nat → Nat} (h : Told w g m f) (q : Nat) : Told (w.drewN q) g m f := h
theorem Own.told {w : World} {base : Nat} {T : TypeId} {g cap m : Nat} {f : Nat → Nat} (h : Own w base T g cap m f) : Told w g m f := fun _ hj => h.cell hj
theorem Told.of {w : World} {g : Nat} {xs : List Nat} (h : FRow w (some ⟨g, 0, none⟩) xs) (hw : Wf xs) : Told w g xs.length (fun j => nrm .f32 (xs.getD j 0)) := fun _ hj => h.told hw hj
def finB (m : Nat) (f : Nat → Nat) : Bool := decide (∀ j, j < m → fin .f32 (f j) = true)
theorem finB_no {m j : Nat} {f : Nat → Nat} (hj : j < m) (h : fin .f32 (f j) = false) : finB m f = false := by
  unfold finB
  rw [decide_eq_false_iff_not]
  intro k
  rw [k j hj] at h
  cases h
theorem finB_yes {m : Nat} {f : Nat → Nat} (h : ∀ j, j < m → fin .f32 (f j) = true) : finB m f = true := by unfold finB; rw [decide_eq_true_iff]; exact h
theorem Own.gb {w w' : World} {base : Nat} {T : TypeId} {g cap m : Nat} {f : Nat → Nat} {row : Option Nat} (h : Own w base T g cap m f) (hg : w.grownBy w' row) (hne : some g ≠ row) : Own w' base T g cap m f := by
  obtain ⟨ys, ho, hf⟩ := h
  exact ⟨ys, ho.kept hg (.inr (by simp only [Value.ownBlock]; exact hne)), hf⟩
theorem own_dra {w : World} {base : Nat} {e : TypeId} {size : Nat} {v : Value} {n : Nat} {xs : List Value} (h : w.ownsRow base e size v n xs) (q : Nat) (o : Obj) : ((w.drewN q).alloc o).ownsRow base e size v n xs :=
  h.kept (row := none) (w' := (w.drewN q).alloc o) ⟨rfl, rfl, rfl, by simp, fun k hk _ => Below.heap_alloc _ _ _ (by simpa using hk)⟩ (by cases v.ownBlock; exact .inl rfl; exact .inr (by simp))
theorem Own.dra {w : World} {base : Nat} {T : TypeId} {g cap m : Nat} {f : Nat → Nat} (h : Own w base T g cap m f) (q : Nat) (o : Obj) : Own ((w.drewN q).alloc o) base T g cap m f := by
  obtain ⟨ys, ho, hf⟩ := h
  exact ⟨ys, own_dra ho q o, hf⟩
theorem Own.other {w : World} {base : Nat} {T : TypeId} {g cap m : Nat} {f : Nat → Nat} (h : Own w base T g cap m f) {a : Addr} (ha : g ≠ a.block) (u : Value) : Own (w.setCell a u) base T g cap m f :=
  h.gb (row := some a.block) ⟨rfl, rfl, rfl, by simp, fun k _ hk => Below.heap_setCell _ _ _ _ (fun e => hk (by rw [e]))⟩ (fun e => ha (by injection e))
theorem Own.mono {w : World} {base base' : Nat} {T : TypeId} {g cap m : Nat} {f f' : Nat → Nat} (h : Own w base T g cap m f) (hb : base' ≤ base) (hf : ∀ j, j < m → f j = f' j) : Own w base' T g cap m f' := by
  obtain ⟨ys, ho, hf2⟩ := h
  refine ⟨ys, ⟨ho.1, ?_⟩, fun j hj => by rw [← hf j hj]; exact hf2 j hj⟩
  rcases ho.2 with h | ⟨g', cap', cur, hv, hg, hr⟩
  · exact .inl h
  · exact .inr ⟨g', cap', cur, hv, by omega, hr⟩
theorem Own.app {w : World} {base : Nat} {T : TypeId} {g cap m : Nat} {f : Nat → Nat} {ys : List Nat} {r : Nat} (ho : w.ownsRow base T 1 (.slice (some ⟨g, 0, none⟩) (m + 1) cap) (m + 1) (fls ys ++ [.float .f32 r])) (hl : ys.length = m) (hf : ∀ j, j < m → Fl .f32 (f j) (ys.getD j 0)) (hr : Fl .f32 (f m) r) : Own w base T g cap (m + 1) f := by
  refine ⟨ys ++ [r], by simpa [fls] using ho, fun j hj => ?_⟩
  by_cases he : j = m
  · subst he
    simp [List.getD, ← hl]
    rw [hl]
    exact hr
  · have := hf j (by omega)
    simp only [List.getD, List.getElem?_append_left (show j < ys.length by omega)]
    exact this
theorem Own.nil {w : World} {base : Nat} {T : TypeId} {f : Nat → Nat} (hb : base ≤ w.heap.size) : Own (w.alloc (.cells #[] T)) base T w.heap.size 0 0 f :=
  ⟨[], World.ownsRow_made _ _ _ hb (by decide) rfl, fun j hj => absurd hj (Nat.not_lt_zero j)⟩
theorem cell_one (w : World) (a : Value) (t : TypeId) : ∀ j u, [a][j]? = some u → (w.alloc (.cells #[a] t)).cell? ((⟨w.heap.size, 0, none⟩ : Addr).add j) = some u := by
  intro j u hj
  match j, hj with
  | 0, hj => simp at hj; subst hj; simp [Addr.add]
  | j + 1, hj => simp at hj
theorem flt_one {r : Nat} : ∀ u ∈ [Value.float .f32 r], u.oneCell' = true := by
  intro u hu
  simp at hu
  subst hu
  rfl
theorem lpF_step {f g : Nat → Nat} {s e k : Nat} (h : e + 1 ≤ k) : fop .sub .f32 (lpF (fun d => f (e + 1 + d)) (fun d => g (e + 1 + d)) s (k - (e + 1))) (fop .mul .f32 (f k) (g k)) = lpF (fun d => f (e + 1 + d)) (fun d => g (e + 1 + d)) s (k + 1 - (e + 1)) := by
  rw [show k + 1 - (e + 1) = (k - (e + 1)) + 1 by omega]
  show _ = fop .sub .f32 _ (fop .mul .f32 (f (e + 1 + (k - (e + 1)))) (g (e + 1 + (k - (e + 1)))))
  rw [show e + 1 + (k - (e + 1)) = k by omega]
theorem finB_congr {m : Nat} {f g : Nat → Nat} (h : ∀ j, j < m → f j = g j) : finB m f = finB m g := by
  unfold finB
  rw [Bool.eq_iff_iff, decide_eq_true_iff, decide_eq_true_iff]
  constructor
  · intro k j hj; rw [← h j hj]; exact k j hj
  · intro k j hj; rw [h j hj]; exact k j hj
theorem own_shf {w : World} {base : Nat} {e : TypeId} {size : Nat} {v : Value} {n : Nat} {xs : List Value} (h : w.ownsRow base e size v n xs) (h0 : 0 < n) : ∃ g cap, v = .slice (some ⟨g, 0, none⟩) n cap ∧ base ≤ g ∧ g < w.heap.size := by
  obtain ⟨_, h2⟩ := h
  rcases h2 with ⟨_, hz⟩ | ⟨g, cap, cur, hv, hg, hh, hn, hc, _⟩
  · omega
  · exact ⟨g, cap, hv, hg, (Array.getElem?_eq_some_iff.1 hh).1⟩
def goodB (sq M : Nat → Nat → Nat) (n : Nat) : Bool := decide (∀ a, a < n → fcmp .gtr .f32 (pivF sq M a) 0 = true)
theorem goodB_no {sq M : Nat → Nat → Nat} {n a : Nat} (ha : a < n) (h : fcmp .gtr .f32 (pivF sq M a) 0 = false) : goodB sq M n = false := by
  unfold goodB
  rw [decide_eq_false_iff_not]
  intro k
  rw [k a ha] at h
  cases h
theorem goodB_yes {sq M : Nat → Nat → Nat} {n : Nat} (h : ∀ a, a < n → fcmp .gtr .f32 (pivF sq M a) 0 = true) : goodB sq M n = true := by unfold goodB; rw [decide_eq_true_iff]; exact h
/-- 'returns a new list of n floats that are told and true, or nothing and false' -/
def RE (T : TypeId) (ok : Bool) (n : Nat) (X : Nat → Nat) (w : World) (e : Ending) (w' : World) : Prop :=
  (ok = true ∧ (∃ g cap, e = .returned (.tuple #[.slice (some ⟨g, 0, none⟩) n cap, .bool true]) ∧ Own w' w.heap.size T g cap n X) ∧ Below w.heap.size w w') ∨ (ok = false ∧ e = .returned (.tuple #[.slice none 0 0, .bool false]) ∧ Below w.heap.size w w')
theorem below_dr {w w' : World} {q : Nat} (h : Below (w.drewN q).heap.size (w.drewN q) w') : Below w.heap.size w w' := Below.on (Below.drews (Below.refl _ _)) h (Nat.le_refl _)
theorem RE.t {T : TypeId} {n : Nat} {X : Nat → Nat} {w w' : World} {e : Ending} (h : RE T true n X w e w') : (∃ g cap, e = .returned (.tuple #[.slice (some ⟨g, 0, none⟩) n cap, .bool true]) ∧ Own w' w.heap.size T g cap n X) ∧ Below w.heap.size w w' := by
  rcases h with ⟨_, h1, h2⟩ | ⟨h, _⟩
  · exact ⟨h1, h2⟩
  · cases h
theorem RE.f {T : TypeId} {n : Nat} {X : Nat → Nat} {w w' : World} {e : Ending} (h : RE T false n X w e w') : e = .returned (.tuple #[.slice none 0 0, .bool false]) ∧ Below w.heap.size w w' := by
  rcases h with ⟨h, _⟩ | ⟨_, h1, h2⟩
  · cases h
  · exact ⟨h1, h2⟩
theorem RE.no {T : TypeId} {ok : Bool} {n : Nat} {X : Nat → Nat} {w w' : World} (h : ok = false) (b : Below w.heap.size w w') : RE T ok n X w (.returned (.tuple #[.slice none 0 0, .bool false])) w' := .inr ⟨h, rfl, b⟩
end Go.Proofs.YthambmgibelpkaaDoor
