/-
  Lists that a function returns, perhaps nil, perhaps of none: compared, marked and held by a law. No premise.
-/
import Derived.Test.YthambmgibelpkaaDoorLst
namespace Go.Proofs.YthambmgibelpkaaDoor
open Go Go.RowKit
set_option maxRecDepth 100000

/-- 'returns a new list of these values and this' -/
def RLy (T : TypeId) (ok : Bool) (vs : List Value) (w : World) (e : Ending) (w' : World) : Prop := (∃ v, e = .returned (.tuple #[v, .bool ok]) ∧ w'.ownsRow w.heap.size T 1 v vs.length vs) ∧ Below w.heap.size w w'
theorem RLy.nil {T : TypeId} {w w' : World} (b : Below w.heap.size w w') : RLy T false (ils []) w (.returned (.tuple #[.slice none 0 0, .bool false])) w' := ⟨⟨_, rfl, World.ownsRow_nil _ _ _ _⟩, b⟩
theorem own_g1 {w w' : World} {base : Nat} {e : TypeId} {size n g a b : Nat} {v : Value} {xs : List Value} (h : w.ownsRow base e size v n xs) (hg : w.grownBy w' (some g)) (l : ∀ k, v.ownBlock = some k → a ≤ k ∧ k < b) (hne : g < a ∨ b ≤ g) : w'.ownsRow base e size v n xs :=
  h.kept hg (.inr fun he => by have := l g he; omega)
theorem own_g2 {w w' : World} {base : Nat} {e : TypeId} {size n g cap a b : Nat} {u : Value} {xs : List Value} (h : w.ownsRow base e size (.slice (some ⟨g, 0, none⟩) n cap) n xs) (hg : w.grownBy w' u.ownBlock) (l : ∀ k, u.ownBlock = some k → a ≤ k ∧ k < b) (hne : g < a ∨ b ≤ g) : w'.ownsRow base e size (.slice (some ⟨g, 0, none⟩) n cap) n xs :=
  h.kept hg (.inr fun he => by have := l g (by rw [← he]; rfl); omega)
theorem own_g3 {w w' : World} {base : Nat} {e : TypeId} {size n a b c d : Nat} {v u : Value} {xs : List Value} (h : w.ownsRow base e size v n xs) (hg : w.grownBy w' u.ownBlock) (l : ∀ k, v.ownBlock = some k → a ≤ k ∧ k < b) (l2 : ∀ k, u.ownBlock = some k → c ≤ k ∧ k < d) (hne : b ≤ c ∨ d ≤ a) : w'.ownsRow base e size v n xs := by
  refine h.kept hg ?_
  cases hv : v.ownBlock
  · exact .inl rfl
  · rename_i k
    refine .inr fun he => ?_
    have h1 := l k hv
    have h2 := l2 k he.symm
    omega
theorem own_c2 {g a b : Nat} {u : Value} (l : ∀ k, u.ownBlock = some k → a ≤ k ∧ k < b) (hne : g < a ∨ b ≤ g) : some g ≠ u.ownBlock := fun he => by have := l g he.symm; omega
theorem below_gv {B a b : Nat} {w w1 w' : World} {u : Value} (h : Below B w w1) (hg : w1.grownBy w' u.ownBlock) (hB : B ≤ w1.heap.size) (l : ∀ k, u.ownBlock = some k → a ≤ k ∧ k < b) (hb : B ≤ a) : Below B w w' := h.grown hg hB (fun k hk => by have := l k hk; omega)
theorem ils_len (xs : List Int) : (ils xs).length = xs.length := by simp [ils]
theorem bls_len (xs : List Bool) : (bls xs).length = xs.length := by simp [bls]
theorem irow_vown {w : World} {base n : Nat} {e : TypeId} {v : Value} {xs : List Int} (h : w.ownsRow base e 1 v n (ils xs)) : ∃ a cap, v = .slice a n cap ∧ n = xs.length ∧ IRow w a xs := by
  have hl : n = xs.length := by have := h.1; rw [ils_len] at this; omega
  rcases h.2 with ⟨rfl, h0⟩ | ⟨g, cap, cur, rfl, hg, hb, hc, hm, hz, ht⟩
  · subst h0
    exact ⟨none, 0, rfl, hl, fun i hi => by omega⟩
  · refine ⟨_, cap, rfl, hl, fun i hi => ⟨_, rfl, ?_⟩⟩
    rw [add_at, h.cellAt i (by omega)]
    simp [ils, List.getElem?_map, List.getElem?_eq_getElem hi]
theorem brow_vown {w : World} {base n : Nat} {e : TypeId} {v : Value} {xs : List Bool} (h : w.ownsRow base e 1 v n (bls xs)) : ∃ a cap, v = .slice a n cap ∧ n = xs.length ∧ BRow w a xs := by
  have hl : n = xs.length := by have := h.1; rw [bls_len] at this; omega
  rcases h.2 with ⟨rfl, h0⟩ | ⟨g, cap, cur, rfl, hg, hb, hc, hm, hz, ht⟩
  · subst h0
    exact ⟨none, 0, rfl, hl, fun i hi => by omega⟩
  · exact ⟨_, cap, rfl, hl, brow_own hl h⟩
end Go.Proofs.YthambmgibelpkaaDoor
