/-
  Slices of float32: what 'toFloat32S' copies. No premise beyond those named.
-/
import Derived.Test.YtcgakdgfmhkpjaaDoorCn
namespace Go.Proofs.YtcgakdgfmhkpjaaDoor
open Go Go.RowKit

/-- The words of a slice of float32s, in a world. -/
def FRow (w : World) (a : Option Addr) (xs : List Nat) : Prop := ∀ i, i < xs.length → ∃ p, a = some p ∧ w.cell? (p.add i) = some (.float .f32 (xs.getD i 0))
def fls (xs : List Nat) : List Value := xs.map (.float .f32)
theorem i_ext2 {a b : Int} {k : IntKind} (h : a = b) : Value.int k a = .int k b := by rw [h]
theorem addr_add (p : Addr) (i : Nat) : (p.add i).block = p.block := by unfold Addr.add; split <;> rfl
theorem addr_lt {w : World} {p : Addr} {i : Nat} {v : Value} (h : w.cell? (p.add i) = some v) : (p.add i).block < w.heap.size := block_lt_of_cell h
theorem add_at (g i : Nat) : (⟨g, 0, none⟩ : Addr).add i = ⟨g, i, none⟩ := by
  unfold Addr.add
  split
  · next h => rw [h]
  · simp
structure Hf (p : Prop) : Prop where
  out : p
theorem FRow.below {w w' : World} {a : Option Addr} {xs : List Nat} (h : FRow w a xs) (hb : Below w.heap.size w w') : FRow w' a xs := by
  intro i hi
  obtain ⟨p, hp, hc⟩ := h i hi
  exact ⟨p, hp, by rw [hb.cell (addr_lt hc)]; exact hc⟩
theorem fls_of {xs : List Nat} {cur : List Value} (hl : cur.length = xs.length) (h : ∀ j, j < xs.length → cur[j]? = some (.float .f32 (xs.getD j 0))) : cur = fls xs := by
  apply List.ext_getElem?
  intro j
  by_cases hj : j < xs.length
  · rw [h j hj]; simp [fls, List.getElem?_map, List.getElem?_eq_getElem hj]
  · rw [List.getElem?_eq_none (by omega), List.getElem?_eq_none (by simp [fls]; omega)]
theorem frow_own {w : World} {base g n cap : Nat} {xs : List Nat} {e : TypeId} (hn : n = xs.length) (h : w.ownsRow base e 1 (.slice (some ⟨g, 0, none⟩) n cap) n (fls xs)) : FRow w (some ⟨g, 0, none⟩) xs := by
  intro i hi
  refine ⟨_, rfl, ?_⟩
  have := h.cellAt i (by omega)
  rw [add_at, this]
  simp [fls, List.getElem?_map, List.getElem?_eq_getElem hi]
theorem toF_any {a : Option Addr} {cap : Nat} {xs : List Nat} (w : World) (hr : FRow w a xs) (hl : xs.length ≤ 1048576) : Calls Tryd.prog 51 #[.slice a xs.length cap] w (fun e w' => e = .returned (.slice (some ⟨w.heap.size, 0, none⟩) xs.length xs.length) ∧ w'.ownsRow w.heap.size 58 1 (.slice (some ⟨w.heap.size, 0, none⟩) xs.length xs.length) xs.length (fls xs) ∧ Below w.heap.size w w') := by
  obtain ⟨i0, hi, hz0, hz1, hz2⟩ := info_parts (P := Tryd.prog) (e := 58) (z := .float .f32 0) (size := 1) (bytes := 4) (by kernel_rfl)
  have HR := Hf.mk hr
  clear hr
  go_enter Tryd.func51, Tryd.ntmps51
  go_wp2_with (at_make; refine wpList_make_full _ rfl _ _ 34 rfl w.heap.size 58 i0 _ 1 Tryd.underlying34 hi hz0 hz1 .i64 .i64 _ _ xs.length rfl rfl rfl rfl (by rw [hz2]; omega) (by unfold maxLen; omega) (Nat.le_refl _) ?_; intro w0 hown0 hgrow0)
  go_loopw [4] (fun i wr => ∃ (m : Nat) (cur : List Value), m ≤ xs.length ∧ i = .int .i64 m ∧ Hf (wr.ownsRow w.heap.size 58 1 (.slice (some ⟨w.heap.size, 0, none⟩) xs.length xs.length) xs.length cur) ∧ Hf (∀ j, j < m → cur[j]? = some (.float .f32 (xs.getD j 0))) ∧ Hf (Below w.heap.size w wr)) (fun i _ => xs.length - (intOf i).toNat)
  case atStart => exact ⟨0, _, by omega, rfl, ⟨hown0⟩, ⟨fun j hj => absurd hj (Nat.not_lt_zero j)⟩, ⟨(Below.refl _ _).grown hgrow0 (Nat.le_refl _) (fun k h => by cases h)⟩⟩
  case round =>
    obtain ⟨m, cur, hm, rfl, hown, hcur, hbel⟩ := hrel
    by_cases hlt : m < xs.length
    · obtain ⟨p, rfl, hcell⟩ := (HR.out.below hbel.out) m hlt
      have hlen : cur.length = xs.length := by have := hown.out.1; omega
      obtain ⟨old, hold⟩ : ∃ old, cur[m]? = some old := ⟨_, List.getElem?_eq_getElem (by omega)⟩
      have hcA : wr.cell? ⟨w.heap.size, m, none⟩ = some old := (hown.out.cellAt m (by omega)).trans hold
      have hfA := hown.out.frozenAt m
      clear hold
      have hsto : ∀ v md, (store ⟨w.heap.size, m, none⟩ (.float .f32 v) md).run Tryd.prog wr = .ok () (wr.setCell ⟨w.heap.size, m, none⟩ (.float .f32 v)) := fun v md => (run_store _ _ _ _ _ rfl).trans (by simp [hcA, hfA])
      go_wp2
      go_roundw
      case rel =>
        have hst := hown.out.stored m (.float .f32 (xs[m]'hlt))
        refine ⟨m + 1, _, by omega, i_ext2 (by omega), ⟨hst.1⟩, ⟨?_⟩, ⟨hbel.out.setCell (Nat.le_refl _) _⟩⟩
        intro j hj
        by_cases he : j = m
        · subst he; rw [List.getElem?_set_self (by omega)]; simp [hlt]
        · rw [List.getElem?_set_ne (by omega)]; exact hcur.out j (by omega)
      case measure => simp [intOf]; omega
    · obtain rfl : m = xs.length := by omega
      go_wp2
      go_ret
      have hlen : cur.length = xs.length := by have := hown.out.1; omega
      refine ⟨rfl, ?_, hbel.out⟩
      rw [← fls_of hlen hcur.out]; exact hown.out
end Go.Proofs.YtcgakdgfmhkpjaaDoor
