/-
  Even squares: the numbers of the root, of what leads there and of what solves; rows of floats that are told. No premise.
-/
import Derived.Test.YthambmgibelpkaaDoorSum
import Derived.Test.YthambmgibelpkaaDoorRoot
import Derived.Test.YthambmgibelpkaaDoorTail
namespace Go.Proofs.YthambmgibelpkaaDoor
open Go Go.RowKit
set_option maxRecDepth 100000

/-- s less m products, one after another -/
def lpF (f g : Nat → Nat) (s : Nat) : Nat → Nat
  | 0 => s
  | m + 1 => fop .sub .f32 (lpF f g s m) (fop .mul .f32 (f m) (g m))
theorem lpF_congr {f f' g g' : Nat → Nat} {s : Nat} : ∀ {m : Nat}, (∀ j, j < m → f j = f' j) → (∀ j, j < m → g j = g' j) → lpF f g s m = lpF f' g' s m := by
  intro m
  induction m with
  | zero => intro _ _; rfl
  | succ m ih =>
    intro h1 h2
    unfold lpF
    rw [ih (fun j hj => h1 j (by omega)) (fun j hj => h2 j (by omega)), h1 m (by omega), h2 m (by omega)]
section
variable (sq : Nat → Nat → Nat) (b : Nat → Nat) (n : Nat)
def rtF : Nat → Nat → Nat → Nat
  | 0, _, _ => 0
  | t + 1, a, c => if c < a then fop .quo .f32 (lpF (rtF t a) (rtF t c) (sq a c) c) (rtF t c c) else rootC (lpF (rtF t a) (rtF t a) (sq a a) a)
theorem rtF_same : ∀ (t a c : Nat), c ≤ a → a < 16 → 16 * a + c < t → rtF sq (t + 1) a c = rtF sq t a c := by
  intro t
  induction t with
  | zero => intro a c _ _ h; omega
  | succ t ih =>
    intro a c hc ha ht
    show (if c < a then _ else _) = (if c < a then _ else _)
    by_cases h : c < a
    · rw [if_pos h, if_pos h, ih c c (Nat.le_refl _) (by omega) (by omega)]
      rw [lpF_congr (f' := rtF sq t a) (g' := rtF sq t c) (fun j hj => ih a j (by omega) ha (by omega)) (fun j hj => ih c j (by omega) (by omega) (by omega))]
    · rw [if_neg h, if_neg h]
      rw [lpF_congr (f' := rtF sq t a) (g' := rtF sq t a) (fun j hj => ih a j (by omega) ha (by omega)) (fun j hj => ih a j (by omega) ha (by omega))]
/-- What a root is. -/
structure Rt (M : Nat → Nat → Nat) : Prop where
  off : ∀ a c, a < n → c < a → M a c = fop .quo .f32 (lpF (M a) (M c) (sq a c) c) (M c c)
  dia : ∀ a, a < n → M a a = rootC (lpF (M a) (M a) (sq a a) a)
theorem rt_ex (hn : n ≤ 10) : ∃ M, Rt sq n M := by
  refine ⟨rtF sq 300, ⟨fun a c ha hc => ?_, fun a ha => ?_⟩⟩
  · show (if c < a then _ else _) = _
    rw [if_pos hc, ← rtF_same sq 299 c c (Nat.le_refl _) (by omega) (by omega)]
    rw [lpF_congr (f' := rtF sq 300 a) (g' := rtF sq 300 c) (fun j hj => (rtF_same sq 299 a j (by omega) (by omega) (by omega)).symm) (fun j hj => (rtF_same sq 299 c j (by omega) (by omega) (by omega)).symm)]
  · show (if a < a then _ else _) = _
    rw [if_neg (by omega)]
    rw [lpF_congr (f' := rtF sq 300 a) (g' := rtF sq 300 a) (fun j hj => (rtF_same sq 299 a j (by omega) (by omega) (by omega)).symm) (fun j hj => (rtF_same sq 299 a j (by omega) (by omega) (by omega)).symm)]
variable (M : Nat → Nat → Nat)
def ysF : Nat → Nat → Nat
  | 0, _ => 0
  | t + 1, i => fop .quo .f32 (lpF (M i) (ysF t) (b i) i) (M i i)
theorem ysF_same : ∀ (t i : Nat), i < t → ysF b M (t + 1) i = ysF b M t i := by
  intro t
  induction t with
  | zero => intro i h; omega
  | succ t ih =>
    intro i h
    show fop .quo .f32 (lpF (M i) (ysF b M (t + 1)) (b i) i) (M i i) = fop .quo .f32 (lpF (M i) (ysF b M t) (b i) i) (M i i)
    rw [lpF_congr (f' := M i) (g' := ysF b M t) (fun _ _ => rfl) (fun j hj => ih j (by omega))]
theorem ys_ex (hn : n ≤ 10) : ∃ Y : Nat → Nat, ∀ i, i < n → Y i = fop .quo .f32 (lpF (M i) Y (b i) i) (M i i) := by
  refine ⟨ysF b M 20, fun i hi => ?_⟩
  show fop .quo .f32 (lpF (M i) (ysF b M 19) (b i) i) (M i i) = _
  rw [lpF_congr (f' := M i) (g' := ysF b M 20) (fun _ _ => rfl) (fun j hj => (ysF_same b M 19 j (by omega)).symm)]
variable (Y : Nat → Nat)
def xsF : Nat → Nat → Nat
  | 0, _ => 0
  | t + 1, i => fop .quo .f32 (lpF (fun d => M (i + 1 + d) i) (fun d => xsF t (i + 1 + d)) (Y i) (n - 1 - i)) (M i i)
theorem xsF_same : ∀ (t i : Nat), i < n → n - 1 - i < t → xsF n M Y (t + 1) i = xsF n M Y t i := by
  intro t
  induction t with
  | zero => intro i _ h; omega
  | succ t ih =>
    intro i hi h
    show fop .quo .f32 (lpF (fun d => M (i + 1 + d) i) (fun d => xsF n M Y (t + 1) (i + 1 + d)) (Y i) (n - 1 - i)) (M i i) = fop .quo .f32 (lpF (fun d => M (i + 1 + d) i) (fun d => xsF n M Y t (i + 1 + d)) (Y i) (n - 1 - i)) (M i i)
    rw [lpF_congr (f' := fun d => M (i + 1 + d) i) (g' := fun d => xsF n M Y t (i + 1 + d)) (fun _ _ => rfl) (fun j hj => ih (i + 1 + j) (by omega) (by omega))]
theorem xs_ex (hn : n ≤ 10) : ∃ X : Nat → Nat, ∀ i, i < n → X i = fop .quo .f32 (lpF (fun d => M (i + 1 + d) i) (fun d => X (i + 1 + d)) (Y i) (n - 1 - i)) (M i i) := by
  refine ⟨xsF n M Y 20, fun i hi => ?_⟩
  show fop .quo .f32 (lpF (fun d => M (i + 1 + d) i) (fun d => xsF n M Y 19 (i + 1 + d)) (Y i) (n - 1 - i)) (M i i) = _
  rw [lpF_congr (f' := fun d => M (i + 1 + d) i) (g' := fun d => xsF n M Y 20 (i + 1 + d)) (fun _ _ => rfl) (fun j hj => (xsF_same n M Y 19 (i + 1 + j) (by omega) (by omega)).symm)]
end
/-- the number in the middle of row a, ahead of its root -/
def pivF (sq M : Nat → Nat → Nat) (a : Nat) : Nat := lpF (M a) (M a) (sq a a) a
theorem idx_inj {n a c i k : Nat} (hc : c < n) (hk : k < n) (h : a * n + c = i * n + k) : a = i ∧ c = k := by
  have h1 : (a * n + c) % n = c := by rw [Nat.add_comm, Nat.add_mul_mod_self_right, Nat.mod_eq_of_lt hc]
  have h2 : (i * n + k) % n = k := by rw [Nat.add_comm, Nat.add_mul_mod_self_right, Nat.mod_eq_of_lt hk]
  have hck : c = k := by rw [← h1, h, h2]
  refine ⟨?_, hck⟩
  subst hck
  have h3 : a * n = i * n := by omega
  exact Nat.eq_of_mul_eq_mul_right (by omega) h3
theorem idx_lt {n a c : Nat} (ha : a < n) (hc : c < n) : a * n + c < n * n := by
  have : (a + 1) * n ≤ n * n := Nat.mul_le_mul_right n ha
  rw [Nat.add_mul, Nat.one_mul] at this
  omega
/-! ## Rows of floats, told one by one -/
def Own (w : World) (base : Nat) (T : TypeId) (g cap m : Nat) (f : Nat → Nat) : Prop := ∃ ys : List Nat, w.ownsRow base T 1 (.slice (some ⟨g, 0, none⟩) m cap) m (fls ys) ∧ ∀ j, j < m → Fl .f32 (f j) (ys.getD j 0)
theorem Own.len {w : World} {base : Nat} {T : TypeId} {g cap m : Nat} {ys : List Nat} (h : w.ownsRow base T 1 (.slice (some ⟨g, 0, none⟩) m cap) m (fls ys)) : ys.length = m := by
  have := h.1
  simp [fls] at this
  exact this
theorem Own.cell {w : World} {base : Nat} {T : TypeId} {g cap m : Nat} {f : Nat → Nat} (h : Own w base T g cap m f) {j : Nat} (hj : j < m) : ∃ r, w.cell? ⟨g, j, none⟩ = some (.float .f32 r) ∧ Fl .f32 (f j) r := by
  obtain ⟨ys, ho, hf⟩ := h
  refine ⟨_, ?_, hf j hj⟩
  have hl := Own.len ho
  rw [ho.cellAt j (by omega)]
  simp [fls, List.getElem?_map, List.getElem?_eq_getElem (show j < ys.length by omega)]
theorem Own.free {w : World} {base : Nat} {T : TypeId} {g cap m : Nat} {f : Nat → Nat} (h : Own w base T g cap m f) (j : Nat) : w.frozen? ⟨g, j, none⟩ = false := by
  obtain ⟨ys, ho, _⟩ := h
  exact ho.frozenAt j
theorem Own.lt {w : World} {base : Nat} {T : TypeId} {g cap m : Nat} {f : Nat → Nat} (h : Own w base T g cap m f) : base ≤ g ∧ g < w.heap.size := by
  obtain ⟨ys, ho, _⟩ := h
  exact ho.lt g rfl
theorem Own.drews {w : World} {base : Nat} {T : TypeId} {g cap m : Nat} {f : Nat → Nat} (h : Own w base T g cap m f) (q : Nat) : Own (w.drewN q) base T g cap m f := h
theorem Own.below {w w' : World} {base : Nat} {T : TypeId} {g cap m : Nat} {f : Nat → Nat} (h : Own w base T g cap m f) (b : Below w.heap.size w w') : Own w' base T g cap m f := by
  obtain ⟨ys, ho, hf⟩ := h
  refine ⟨ys, ho.kept (row := none) ⟨b.os, b.tape, b.output, b.size, fun k hk _ => b.block k hk⟩ (.inr (by simp [Value.ownBlock])), hf⟩
theorem Own.set {w : World} {base : Nat} {T : TypeId} {g cap m : Nat} {f : Nat → Nat} (h : Own w base T g cap m f) {j c r : Nat} (hj : j < m) (hc : Fl .f32 c r) : Own (w.setCell ⟨g, j, none⟩ (.float .f32 r)) base T g cap m (fun i => if i = j then c else f i) := by
  obtain ⟨ys, ho, hf⟩ := h
  have hl := Own.len ho
  have hs := (ho.stored j (.float .f32 r)).1
  have e : (fls ys).set j (.float .f32 r) = fls (ys.set j r) := by simp [fls, List.map_set]
  rw [e] at hs
  refine ⟨_, hs, fun i hi => ?_⟩
  show Fl .f32 (if i = j then c else f i) _
  by_cases he : i = j
  · subst he
    rw [if_pos rfl]
    simp [List.getD, hl, hi]
    exact hc
  · rw [if_neg he]
    have := hf i hi
    simp only [List.getD, List.getElem?_set_ne (Ne.symm he)]
    exact this
theorem Own.of {w : World} {base : Nat} {T : TypeId} {g cap m : Nat} {ys : List Nat} (ho : w.ownsRow base T 1 (.slice (some ⟨g, 0, none⟩) m cap) m (fls ys)) (hw : ∀ x ∈ ys, (Lit.float .f32 x).wf = true) : Own w base T g cap m (fun j => nrm .f32 (ys.getD j 0)) := by
  refine ⟨ys, ho, fun j hj => ?_⟩
  show Fl .f32 (nrm .f32 (ys.getD j 0)) (ys.getD j 0)
  have hl := Own.len ho
  have e : ys.getD j 0 = ys[j]'(by omega) := by simp [List.getD, show j < ys.length by omega]
  rw [e]
  exact Fl.own (hw _ (List.getElem_mem _))
/-- a row that came in: its words are told -/
theorem FRow.told {w : World} {g : Nat} {xs : List Nat} (h : FRow w (some ⟨g, 0, none⟩) xs) (hw : Wf xs) {j : Nat} (hj : j < xs.length) : ∃ r, w.cell? ⟨g, j, none⟩ = some (.float .f32 r) ∧ Fl .f32 (nrm .f32 (xs.getD j 0)) r := by
  obtain ⟨p, hp, hc⟩ := h j hj
  obtain rfl := Option.some.inj hp
  rw [add_at] at hc
  refine ⟨_, hc, ?_⟩
  have e : xs.getD j 0 = xs[j]'hj := by simp [List.getD, hj]
  rw [e]
  exact Fl.own (hw _ (List.getElem_mem hj))
end Go.Proofs.YthambmgibelpkaaDoor
