/-
  Lists that a law gets, compares, marks and holds: of floats that are told, of integers, of bools. No premise beyond those named.
-/
import Derived.Test.YthambmgibelpkaaDoorEvi
namespace Go.Proofs.YthambmgibelpkaaDoor
open Go Go.RowKit
set_option maxRecDepth 100000

theorem iown_below {w w' : World} {base : Nat} {e : TypeId} {size : Nat} {v : Value} {n : Nat} {xs : List Value} (h : w.ownsRow base e size v n xs) (b : Below w.heap.size w w') : w'.ownsRow base e size v n xs := by
  refine h.kept (row := none) ⟨b.os, b.tape, b.output, b.size, fun k hk _ => b.block k hk⟩ ?_
  cases hv : v.ownBlock
  · exact .inl rfl
  · exact .inr (by simp)
theorem own_dr {w : World} {base : Nat} {e : TypeId} {size : Nat} {v : Value} {n : Nat} {xs : List Value} (h : w.ownsRow base e size v n xs) (q : Nat) : (w.drewN q).ownsRow base e size v n xs := h
theorem own_lt {w : World} {base g n cap size : Nat} {xs : List Value} {e : TypeId} (h : w.ownsRow base e size (.slice (some ⟨g, 0, none⟩) n cap) n xs) : base ≤ g ∧ g < w.heap.size := h.lt g rfl
theorem own_other {w : World} {base : Nat} {e : TypeId} {size g n cap : Nat} {xs : List Value} (h : w.ownsRow base e size (.slice (some ⟨g, 0, none⟩) n cap) n xs) {a : Addr} (ha : g ≠ a.block) (u : Value) : (w.setCell a u).ownsRow base e size (.slice (some ⟨g, 0, none⟩) n cap) n xs :=
  h.kept (row := some a.block) ⟨rfl, rfl, rfl, by simp, fun k _ hk => Below.heap_setCell _ _ _ _ (fun e => hk (by rw [e]))⟩ (.inr (by simp only [Value.ownBlock]; exact fun e => ha (by injection e)))
theorem own_lower {w : World} {base base' : Nat} {e : TypeId} {size n : Nat} {v : Value} {xs : List Value} (h : w.ownsRow base e size v n xs) (hb : base' ≤ base) : w.ownsRow base' e size v n xs := by
  refine ⟨h.1, ?_⟩
  rcases h.2 with h | ⟨g', cap', cur, hv, hg, hr⟩
  · exact .inl h
  · exact .inr ⟨g', cap', cur, hv, by omega, hr⟩
def seqI (k : Int) (m : Nat) : List Int := (List.range m).map fun (j : Nat) => k + (j : Int)
theorem seqI_len (k : Int) (m : Nat) : (seqI k m).length = m := by simp [seqI]
theorem seqI_at {k : Int} {m j : Nat} (h : j < m) : (seqI k m).getD j 0 = k + (j : Int) := by simp [seqI, List.getD, h]
theorem gb_refl (w : World) (g : Option Nat) : w.grownBy w g := ⟨rfl, rfl, rfl, Nat.le_refl _, fun _ _ _ => rfl⟩
theorem gb_trans {w w1 w2 : World} {g : Option Nat} (h : w.grownBy w1 g) (k : w1.grownBy w2 g) : w.grownBy w2 g :=
  ⟨k.os.trans h.os, k.tape.trans h.tape, k.output.trans h.output, Nat.le_trans h.size k.size, fun i hi hg => (k.block i (Nat.lt_of_lt_of_le hi h.size) hg).trans (h.block i hi hg)⟩
theorem gb_drew (w : World) (q : Nat) (g : Option Nat) : w.grownBy (w.drewN q) g := ⟨rfl, rfl, rfl, Nat.le_refl _, fun _ _ _ => rfl⟩
theorem irow_gb {w w' : World} {b g : Nat} {xs : List Int} (h : IRow w (some ⟨b, 0, none⟩) xs) (hg : w.grownBy w' (some g)) (hne : b ≠ g) : IRow w' (some ⟨b, 0, none⟩) xs := by
  intro i hi
  obtain ⟨p, hp, hc⟩ := h i hi
  refine ⟨p, hp, ?_⟩
  obtain rfl := Option.some.inj hp
  rw [World.cell?_of_block (w := w) (hg.block _ (block_lt_of_cell hc) (by rw [addr_add]; simp; exact hne))]
  exact hc
theorem own_gb {w w' : World} {base : Nat} {e : TypeId} {size b n cap g : Nat} {xs : List Value} (h : w.ownsRow base e size (.slice (some ⟨b, 0, none⟩) n cap) n xs) (hg : w.grownBy w' (some g)) (hne : b ≠ g) : w'.ownsRow base e size (.slice (some ⟨b, 0, none⟩) n cap) n xs :=
  h.kept hg (.inr (by simp [Value.ownBlock]; exact hne))
theorem below_gb {B : Nat} {w w1 w' : World} {g : Nat} (h : Below B w w1) (hg : w1.grownBy w' (some g)) (hB : B ≤ w1.heap.size) (hb : B ≤ g) : Below B w w' := h.grown hg hB (fun k hk => by cases hk; exact hb)
theorem ne_som {a b : Nat} (h : a ≠ b) : some a ≠ some b := fun e => h (Option.some.inj e)
def sqI (k : Int) (j : Nat) : Nat := floatOfInt .f32 (k + (j : Int))
/-! ## Integers -/
/-! ## Bools -/
def bls (xs : List Bool) : List Value := xs.map .bool
def BRow (w : World) (a : Option Addr) (xs : List Bool) : Prop := ∀ i, i < xs.length → ∃ p, a = some p ∧ w.cell? (p.add i) = some (.bool (xs.getD i false))
theorem BRow.below {w w' : World} {a : Option Addr} {xs : List Bool} (h : BRow w a xs) (hb : Below w.heap.size w w') : BRow w' a xs := by
  intro i hi
  obtain ⟨p, hp, hc⟩ := h i hi
  exact ⟨p, hp, by rw [hb.cell (addr_lt hc)]; exact hc⟩
theorem BRow.drew {w : World} {a : Option Addr} {xs : List Bool} (h : BRow w a xs) (n : Nat) : BRow (w.drewN n) a xs := h
theorem brow_own {w : World} {base g n cap : Nat} {xs : List Bool} {e : TypeId} (hn : n = xs.length) (h : w.ownsRow base e 1 (.slice (some ⟨g, 0, none⟩) n cap) n (bls xs)) : BRow w (some ⟨g, 0, none⟩) xs := by
  intro i hi
  refine ⟨_, rfl, ?_⟩
  have := h.cellAt i (by omega)
  rw [add_at, this]
  simp [bls, List.getElem?_map, List.getElem?_eq_getElem hi]
theorem brow_gb {w w' : World} {b g : Nat} {xs : List Bool} (h : BRow w (some ⟨b, 0, none⟩) xs) (hg : w.grownBy w' (some g)) (hne : b ≠ g) : BRow w' (some ⟨b, 0, none⟩) xs := by
  intro i hi
  obtain ⟨p, hp, hc⟩ := h i hi
  refine ⟨p, hp, ?_⟩
  obtain rfl := Option.some.inj hp
  rw [World.cell?_of_block (w := w) (hg.block _ (block_lt_of_cell hc) (by rw [addr_add]; simp; exact hne))]
  exact hc
end Go.Proofs.YthambmgibelpkaaDoor
