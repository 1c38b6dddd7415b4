/-
  Lists of any values in blocks of one's own. No premise.
-/
import Derived.Test.YtcgmffpddahgoaaFla
import Derived.Laws.OwnMore
namespace Go.Proofs.Ytcgmffpddahgoaa
open Go Go.RowKit
set_option maxRecDepth 100000

/-- 'a list of these values lies in a block of one's own' -/
def OwnV (w : World) (base : Nat) (T : TypeId) (g cap n : Nat) (v : Nat → Value) : Prop := w.ownsRow base T 1 (sl g n cap) n ((List.range n).map v)
theorem OwnV.cell {w : World} {base : Nat} {T : TypeId} {g cap n : Nat} {v : Nat → Value} (h : OwnV w base T g cap n v) {j : Nat} (hj : j < n) : w.cell? ⟨g, j, none⟩ = some (v j) := by
  rw [World.ownsRow.cellAt h j (by omega), List.getElem?_map, List.getElem?_range hj]
  rfl
theorem OwnV.free {w : World} {base : Nat} {T : TypeId} {g cap n : Nat} {v : Nat → Value} (h : OwnV w base T g cap n v) (j : Nat) : w.frozen? ⟨g, j, none⟩ = false := World.ownsRow.frozenAt h j
theorem OwnV.lt {w : World} {base : Nat} {T : TypeId} {g cap n : Nat} {v : Nat → Value} (h : OwnV w base T g cap n v) : base ≤ g ∧ g < w.heap.size := own_lt h
theorem set_map {n j : Nat} {v : Nat → Value} {u : Value} (hj : j < n) : ((List.range n).map v).set j u = (List.range n).map (fun i => if i = j then u else v i) := by
  refine List.ext_getElem? fun i => ?_
  rw [List.getElem?_set, List.getElem?_map, List.getElem?_map, List.length_map, List.length_range]
  by_cases hij : j = i
  · subst hij
    rw [if_pos rfl, if_pos hj, List.getElem?_range hj]
    simp
  · rw [if_neg hij]
    by_cases hi : i < n
    · rw [List.getElem?_range hi]
      simp [Ne.symm hij]
    · rw [List.getElem?_eq_none (by simp; omega)]
      rfl
theorem OwnV.set {w : World} {base : Nat} {T : TypeId} {g cap n : Nat} {v : Nat → Value} (h : OwnV w base T g cap n v) {j : Nat} (hj : j < n) (u : Value) : OwnV (w.setCell ⟨g, j, none⟩ u) base T g cap n (fun i => if i = j then u else v i) := by
  have hst := World.ownsRow.stored h j u
  unfold OwnV
  rw [← set_map hj]
  exact hst.1
theorem OwnV.other {w : World} {base : Nat} {T : TypeId} {g cap n b o : Nat} {v : Nat → Value} (h : OwnV w base T g cap n v) (hne : g ≠ b) (u : Value) : OwnV (w.setCell ⟨b, o, none⟩ u) base T g cap n v := own_other h (a := ⟨b, o, none⟩) hne u
theorem OwnV.below {w w' : World} {base : Nat} {T : TypeId} {g cap n : Nat} {v : Nat → Value} (h : OwnV w base T g cap n v) (b : Below w.heap.size w w') : OwnV w' base T g cap n v := iown_below h b
theorem OwnV.drews {w : World} {base : Nat} {T : TypeId} {g cap n : Nat} {v : Nat → Value} (h : OwnV w base T g cap n v) (q : Nat) : OwnV (w.drewN q) base T g cap n v := h
theorem OwnV.alloc {w : World} {base : Nat} {T : TypeId} {g cap n : Nat} {v : Nat → Value} (h : OwnV w base T g cap n v) (o : Obj) : OwnV (w.alloc o) base T g cap n v := own_al h o
theorem OwnV.lower {w : World} {base base' : Nat} {T : TypeId} {g cap n : Nat} {v : Nat → Value} (h : OwnV w base T g cap n v) (hb : base' ≤ base) : OwnV w base' T g cap n v := own_lower h hb
theorem OwnV.eq {w : World} {base : Nat} {T : TypeId} {g cap n : Nat} {v u : Nat → Value} (h : OwnV w base T g cap n v) (he : ∀ j, j < n → v j = u j) : OwnV w base T g cap n u := by
  unfold OwnV at *
  rw [show (List.range n).map u = (List.range n).map v from List.map_congr_left fun j hj => (he j (List.mem_range.1 hj)).symm]
  exact h
theorem OwnV.floats {w : World} {base : Nat} {T : TypeId} {g cap n : Nat} {f : Nat → Nat} (h : OwnV w base T g cap n (fun j => .float .f32 (f j))) (hf : ∀ j, j < n → Fl .f32 (f j) (f j)) : Own w base T g cap n f := by
  refine ⟨(List.range n).map f, ?_, fun j hj => ?_⟩
  · unfold fls
    rw [List.map_map]
    exact h
  · rw [List.getD, List.getElem?_map, List.getElem?_range hj]
    exact hf j hj
/-- 'what lies in none of these blocks is kept' -/
structure Kp4 (a b c d : Nat) (w w' : World) : Prop where
  os : w'.os = w.os
  tape : w'.tape = w.tape
  output : w'.output = w.output
  size : w.heap.size ≤ w'.heap.size
  block : ∀ k, k < w.heap.size → k ≠ a → k ≠ b → k ≠ c → k ≠ d → w'.heap[k]? = w.heap[k]?
theorem Kp4.refl {a b c d : Nat} (w : World) : Kp4 a b c d w w := ⟨rfl, rfl, rfl, Nat.le_refl _, fun _ _ _ _ _ _ => rfl⟩
theorem Kp4.trans {a b c d : Nat} {w w1 w2 : World} (h : Kp4 a b c d w w1) (k : Kp4 a b c d w1 w2) : Kp4 a b c d w w2 :=
  ⟨k.os.trans h.os, k.tape.trans h.tape, k.output.trans h.output, Nat.le_trans h.size k.size, fun p hp h1 h2 h3 h4 => (k.block p (Nat.lt_of_lt_of_le hp h.size) h1 h2 h3 h4).trans (h.block p hp h1 h2 h3 h4)⟩
theorem Kp4.below {a b c d : Nat} {w w1 w2 : World} (h : Kp4 a b c d w w1) (k : Below w1.heap.size w1 w2) : Kp4 a b c d w w2 :=
  h.trans ⟨k.os, k.tape, k.output, k.size, fun p hp _ _ _ _ => k.block p hp⟩
theorem Kp4.set {a b c d : Nat} {w w1 : World} (h : Kp4 a b c d w w1) {g o : Nat} (v : Value) (hg : g = a ∨ g = b ∨ g = c ∨ g = d) : Kp4 a b c d w (w1.setCell ⟨g, o, none⟩ v) := by
  refine h.trans ⟨rfl, rfl, rfl, by simp, fun p hp h1 h2 h3 h4 => Below.heap_setCell _ _ _ _ (fun e => ?_)⟩
  dsimp only at e
  omega
theorem Kp4.drews {a b c d : Nat} {w w1 : World} (h : Kp4 a b c d w w1) (q : Nat) : Kp4 a b c d w (w1.drewN q) := ⟨h.os, h.tape, h.output, h.size, h.block⟩
theorem Kp4.to {a b c d B : Nat} {w w1 : World} (h : Kp4 a b c d w w1) (hB : B ≤ w.heap.size) (h1 : B ≤ a) (h2 : B ≤ b) (h3 : B ≤ c) (h4 : B ≤ d) : Below B w w1 :=
  ⟨h.os, h.tape, h.output, h.size, fun k hk => h.block k (by omega) (by omega) (by omega) (by omega) (by omega)⟩
theorem Kp4.cell {a b c d : Nat} {w w1 : World} (h : Kp4 a b c d w w1) {p : Addr} {v : Value} (hv : w.cell? p = some v) (h1 : p.block ≠ a) (h2 : p.block ≠ b) (h3 : p.block ≠ c) (h4 : p.block ≠ d) : w1.cell? p = some v := by
  rw [World.cell?_of_block (w := w) (h.block _ (block_lt_of_cell hv) h1 h2 h3 h4)]
  exact hv
theorem Kp4.at' {a b c d : Nat} {w w1 : World} (h : Kp4 a b c d w w1) {p : Addr} {v : Value} (hv : At w p v) (h1 : p.block ≠ a) (h2 : p.block ≠ b) (h3 : p.block ≠ c) (h4 : p.block ≠ d) : At w1 p v := by
  have e := h.block _ hv.lt h1 h2 h3 h4
  refine ⟨?_, ?_, Nat.lt_of_lt_of_le hv.lt h.size⟩
  · rw [World.cell?_of_block (w := w) e]; exact hv.cell
  · rw [World.frozen?_of_block (w := w) e]; exact hv.free
theorem Kp4.cs {a b c d g : Nat} {w w1 : World} {x y z : Value} (h : Kp4 a b c d w w1) (hv : Cs w g x y z) (h1 : g ≠ a) (h2 : g ≠ b) (h3 : g ≠ c) (h4 : g ≠ d) : Cs w1 g x y z :=
  ⟨h.at' hv.x0 h1 h2 h3 h4, h.at' hv.x1 h1 h2 h3 h4, h.at' hv.x2 h1 h2 h3 h4⟩
theorem OwnV.kp {a b c d : Nat} {w w' : World} {base : Nat} {T : TypeId} {g cap n : Nat} {v : Nat → Value} (h : OwnV w base T g cap n v) (k : Kp4 a b c d w w') (h1 : g ≠ a) (h2 : g ≠ b) (h3 : g ≠ c) (h4 : g ≠ d) : OwnV w' base T g cap n v := by
  have e := k.block g h.lt.2 h1 h2 h3 h4
  obtain ⟨q1, q2 | ⟨g', cap', cs, hv, hb, hg, r⟩⟩ := h
  · exact ⟨q1, .inl q2⟩
  · have : g = g' := by have := (Value.slice.inj hv).1; injection this with this; injection this
    subst this
    exact ⟨q1, .inr ⟨g, cap', cs, hv, hb, by rw [e]; exact hg, r⟩⟩
theorem Kp4.wk {a b c d : Nat} {w w' : World} (h : Kp4 a b b b w w') : Kp4 a b c d w w' := ⟨h.os, h.tape, h.output, h.size, fun k hk h1 h2 _ _ => h.block k hk h1 h2 h2 h2⟩
theorem Kp4.on {a b c d B : Nat} {w w1 w2 : World} (k : Kp4 a b c d w1 w2) (h : Below B w w1) (hB : B ≤ w1.heap.size) (h1 : B ≤ a) (h2 : B ≤ b) (h3 : B ≤ c) (h4 : B ≤ d) : Below B w w2 :=
  have e := k.to hB h1 h2 h3 h4
  ⟨e.os.trans h.os, e.tape.trans h.tape, e.output.trans h.output, Nat.le_trans h.size e.size, fun k hk => (e.block k hk).trans (h.block k hk)⟩
theorem own_kp {a b c d : Nat} {w w' : World} {base : Nat} {T : TypeId} {v : Value} {n : Nat} {xs : List Value} (h : w.ownsRow base T 1 v n xs) (k : Kp4 a b c d w w') (h1 : a < base) (h2 : b < base) (h3 : c < base) (h4 : d < base) : w'.ownsRow base T 1 v n xs := by
  obtain ⟨q1, q2 | ⟨g', cap', cs, hv, hb, hg, r⟩⟩ := h
  · exact ⟨q1, .inl q2⟩
  · have hlt : g' < w.heap.size := by
      rcases Nat.lt_or_ge g' w.heap.size with h | h
      · exact h
      · rw [Array.getElem?_eq_none h] at hg; cases hg
    exact ⟨q1, .inr ⟨g', cap', cs, hv, hb, by rw [k.block g' hlt (by omega) (by omega) (by omega) (by omega)]; exact hg, r⟩⟩
def fv (f : Nat → Nat) (j : Nat) : Value := .float .f32 (f j)
def bv (f : Nat → Bool) (j : Nat) : Value := .bool (f j)
theorem upd_bv {n i : Nat} {D : Nat → Bool} : ∀ j, j < n → (if j = i then Value.bool true else bv D j) = bv (fun j => if j = i then true else D j) j := by
  intro j _
  unfold bv
  by_cases e : j = i
  · simp [e]
  · simp [e]
theorem map_rep {n : Nat} {z : Value} : (List.range n).map (fun _ => z) = List.replicate n z := by
  refine List.ext_getElem? fun i => ?_
  rw [List.getElem?_map]
  by_cases hi : i < n
  · rw [List.getElem?_range hi, List.getElem?_replicate, if_pos hi]; rfl
  · rw [List.getElem?_eq_none (by simp; omega), List.getElem?_eq_none (by simp; omega)]; rfl
theorem mades_b {n : Nat} : (madeCells (Value.bool false).cells (n * 1)).toList = (List.range n).map (fun _ => Value.bool false) := by
  rw [Nat.mul_one, map_rep]
  show (madeCells #[.bool false] n).toList = _
  exact toList_madeCells_one _ _
end Go.Proofs.Ytcgmffpddahgoaa
