/-
  FlatGrid, of the program and of the model. No premise beyond those named.
-/
import Derived.Test.YtcgakdgfmhkpjaaDoorGof
import Derived.Laws.AppendOwn
namespace Go.Proofs.YtcgakdgfmhkpjaaDoor
open Go Go.RowKit
set_option maxRecDepth 100000

theorem own_ne {w : World} {base : Nat} {e : TypeId} {size n b : Nat} {v : Value} {xs : List Value} (h : w.ownsRow base e size v n xs) (hb : b < base) : some b ≠ v.ownBlock := by
  rcases h.2 with ⟨h1, _⟩ | ⟨g, cap, cur, hv, hg, _⟩
  · rw [h1]; simp [Value.ownBlock]
  · rw [hv]; simp [Value.ownBlock]; omega
theorem own_ge {w : World} {base : Nat} {e : TypeId} {size n k : Nat} {v : Value} {xs : List Value} (h : w.ownsRow base e size v n xs) (hb : v.ownBlock = some k) : base ≤ k := by
  rcases h.2 with ⟨h1, _⟩ | ⟨g, cap, cur, hv, hg, _⟩
  · rw [h1] at hb; simp [Value.ownBlock] at hb
  · rw [hv] at hb; simp [Value.ownBlock] at hb; omega
theorem At.gb {w w' : World} {row : Option Nat} {p : Addr} {v : Value} (h : At w p v) (hg : w.grownBy w' row) (hne : some p.block ≠ row) : At w' p v := by
  have e := hg.block p.block h.lt hne
  refine ⟨?_, ?_, Nat.lt_of_lt_of_le h.lt hg.size⟩
  · rw [World.cell?_of_block (w := w) e]; exact h.cell
  · rw [World.frozen?_of_block (w := w) e]; exact h.free
theorem At.alloc {w : World} {p : Addr} {v : Value} (h : At w p v) (o : Obj) : At (w.alloc o) p v := h.re ((Below.refl _ _).alloc (Nat.le_refl _) _) h.cell h.free
theorem At.drews {w : World} {p : Addr} {v : Value} (h : At w p v) (q : Nat) : At (w.drewN q) p v := ⟨h.cell, h.free, h.lt⟩
theorem At.other {w : World} {b o b2 o2 : Nat} {v : Value} (h : At w ⟨b, o, none⟩ v) (hne : b ≠ b2 ∨ o ≠ o2) (u : Value) : At (w.setCell ⟨b2, o2, none⟩ u) ⟨b, o, none⟩ v := by
  refine ⟨?_, ?_, by simpa using h.lt⟩
  · have := h.cell
    rw [World.cell?_setCell_other]
    · exact this
    · intro he
      injection he with h1 h2
      omega
  · have := h.free
    simpa using this
/-- the cells of a grid that may be written -/
structure Cs (w : World) (b : Nat) (x y z : Value) : Prop where
  x0 : At w ⟨b, 0, none⟩ x
  x1 : At w ⟨b, 1, none⟩ y
  x2 : At w ⟨b, 2, none⟩ z
theorem Cs.gb {w w' : World} {row : Option Nat} {b : Nat} {x y z : Value} (h : Cs w b x y z) (hg : w.grownBy w' row) (hne : some b ≠ row) : Cs w' b x y z := ⟨h.x0.gb hg hne, h.x1.gb hg hne, h.x2.gb hg hne⟩
theorem Cs.alloc {w : World} {b : Nat} {x y z : Value} (h : Cs w b x y z) (o : Obj) : Cs (w.alloc o) b x y z := ⟨h.x0.alloc o, h.x1.alloc o, h.x2.alloc o⟩
theorem Cs.drews {w : World} {b : Nat} {x y z : Value} (h : Cs w b x y z) (q : Nat) : Cs (w.drewN q) b x y z := ⟨h.x0.drews q, h.x1.drews q, h.x2.drews q⟩
theorem Cs.other {w : World} {b b2 o2 : Nat} {x y z : Value} (h : Cs w b x y z) (hne : b ≠ b2) (u : Value) : Cs (w.setCell ⟨b2, o2, none⟩ u) b x y z := ⟨h.x0.other (.inl hne) u, h.x1.other (.inl hne) u, h.x2.other (.inl hne) u⟩
theorem Cs.below {w w' : World} {b : Nat} {x y z : Value} (h : Cs w b x y z) (k : Below w.heap.size w w') : Cs w' b x y z := ⟨h.x0.re k h.x0.cell h.x0.free, h.x1.re k h.x1.cell h.x1.free, h.x2.re k h.x2.cell h.x2.free⟩
theorem Cs.set2 {w : World} {b : Nat} {x y z : Value} (h : Cs w b x y z) (u : Value) : Cs (w.setCell ⟨b, 2, none⟩ u) b x y u :=
  ⟨h.x0.other (.inr (by omega)) u, h.x1.other (.inr (by omega)) u, ⟨World.cell?_setCell_same' w _ _ (by rw [h.x2.cell]; rfl), by have := h.x2.free; simpa using this, by have := h.x2.lt; simpa using this⟩⟩
theorem fls_rep {m r : Nat} : fls (List.replicate m r) ++ [.float .f32 r] = fls (List.replicate (m + 1) r) := by
  unfold fls
  rw [List.replicate_succ']
  simp
theorem own_al {w : World} {base : Nat} {e : TypeId} {size : Nat} {v : Value} {n : Nat} {xs : List Value} (h : w.ownsRow base e size v n xs) (o : Obj) : (w.alloc o).ownsRow base e size v n xs := iown_below h ((Below.refl _ _).alloc (Nat.le_refl _) _)
theorem l06Give_any {g n k : Nat} {wd hg : Int} {f : Nat → Nat} (w : World) (h : Told w g n f) (hl : n ≤ 1048576) : Calls Tryd.prog 93 #[gd wd hg (sl g n k)] w (RS (if gridB wd hg n f then .tuple #[gd wd hg (sl g n k), .bool true] else .tuple #[gd 0 0 (.slice none 0 0), .bool false]) w) := by
  have H := Hf.mk h
  clear h
  have B0 := Hb.mk (Below.refl w.heap.size w)
  cases hb : gridB wd hg n f
  · have H1 := Hf.mk hb
    clear hb
    go_enter Tryd.func93, Tryd.ntmps93
    go_wp2_with (first | (go_at_call 49; refine (l06Is_any (k := k) (wd := wd) (hg := hg) _ (by simp) (by simp) (by simp) (H.out.below (by repeat (first | exact Below.refl _ _ | with_reducible assumption | refine Below.drews ?_ | refine Below.drew ?_ | refine Below.alloc ?_ (by simp <;> omega) _ | refine Below.setCell ?_ (by simp <;> omega) _))) hl).mono ?_; rw [H1.out]; rintro e w' ⟨rfl, q0, rfl⟩))
    exact bodyPost_ret (v := .tuple #[gd 0 0 (.slice none 0 0), .bool false]) (by simp [results, Tryd.results93, go_sem]) rfl ⟨rfl, (by repeat (first | with_reducible refine Below.setCell ?_ (by first | omega | (simp <;> omega)) _ | with_reducible refine Below.drews ?_ | with_reducible refine Below.drew ?_ | with_reducible refine Below.alloc ?_ (by first | omega | (simp <;> omega)) _ | with_reducible exact B0.out | with_reducible exact Below.refl _ _))⟩
  · have H1 := Hf.mk hb
    clear hb
    go_enter Tryd.func93, Tryd.ntmps93
    go_wp2_with (first | (go_at_call 49; refine (l06Is_any (k := k) (wd := wd) (hg := hg) _ (by simp) (by simp) (by simp) (H.out.below (by repeat (first | exact Below.refl _ _ | with_reducible assumption | refine Below.drews ?_ | refine Below.drew ?_ | refine Below.alloc ?_ (by simp <;> omega) _ | refine Below.setCell ?_ (by simp <;> omega) _))) hl).mono ?_; rw [H1.out]; rintro e w' ⟨rfl, q0, rfl⟩))
    exact bodyPost_ret (v := .tuple #[gd wd hg (sl g n k), .bool true]) (by simp [results, Tryd.results93, go_sem]) rfl ⟨rfl, (by repeat (first | with_reducible refine Below.setCell ?_ (by first | omega | (simp <;> omega)) _ | with_reducible refine Below.drews ?_ | with_reducible refine Below.drew ?_ | with_reducible refine Below.alloc ?_ (by first | omega | (simp <;> omega)) _ | with_reducible exact B0.out | with_reducible exact Below.refl _ _))⟩
end Go.Proofs.YtcgakdgfmhkpjaaDoor
