/-
  Lists of whole numbers that come in: copied by a law, and opened. No premise.
-/
import Derived.Test.YthanhmchgidjlaaDoorRow
import Derived.Test.YthanhmchgidjlaaDoorOpn
namespace Go.Proofs.YthanhmchgidjlaaDoor
open Go Go.RowKit Go.ChangeShapes
set_option maxRecDepth 100000

theorem irow_o1 {w : World} {base g n cap : Nat} {xs : List Int} {e : TypeId} (hn : n = xs.length) (h : w.ownsRow base e 1 (.slice (some ⟨g, 0, none⟩) n cap) n (ils xs)) : IRow w (some ⟨g, 0, none⟩) xs := irow_own (k := 1) (by omega) h
theorem toI_any {a : Option Addr} {cap : Nat} {xs : List Int} (w : World) (hr : IRow w a xs) (hl : xs.length ≤ 1048576) : Calls Tryd.prog 14 #[.slice a xs.length cap] w (fun e w' => e = .returned (.slice (some ⟨w.heap.size, 0, none⟩) xs.length xs.length) ∧ w'.ownsRow w.heap.size 2 1 (.slice (some ⟨w.heap.size, 0, none⟩) xs.length xs.length) xs.length (ils xs) ∧ Below w.heap.size w w') := by
  obtain ⟨i0, hi, hz0, hz1, hz2⟩ := info_parts (P := Tryd.prog) (e := 2) (z := .int .i64 0) (size := 1) (bytes := 8) (by kernel_rfl)
  have HR := Hf.mk hr
  clear hr
  go_enter Tryd.func14, Tryd.ntmps14
  go_wp2_with (at_make; refine wpList_make_full _ rfl _ _ 27 rfl w.heap.size 2 i0 _ 1 Tryd.underlying27 hi hz0 hz1 .i64 .i64 _ _ xs.length rfl rfl rfl rfl (by rw [hz2]; omega) (by unfold maxLen; omega) (Nat.le_refl _) ?_; intro w0 hown0 hgrow0)
  go_loopw [4] (fun i wr => ∃ (m : Nat) (cur : List Value), m ≤ xs.length ∧ i = .int .i64 m ∧ Hf (wr.ownsRow w.heap.size 2 1 (.slice (some ⟨w.heap.size, 0, none⟩) xs.length xs.length) xs.length cur) ∧ Hf (∀ j, j < m → cur[j]? = some (.int .i64 (xs.getD j 0))) ∧ Hf (Below w.heap.size w wr)) (fun i _ => xs.length - (intOf i).toNat)
  case atStart => exact ⟨0, _, by omega, rfl, ⟨hown0⟩, ⟨fun j hj => absurd hj (Nat.not_lt_zero j)⟩, ⟨(Below.refl _ _).grown hgrow0 (Nat.le_refl _) (fun k h => by cases h)⟩⟩
  case round =>
    obtain ⟨m, cur, hm, rfl, hown, hcur, hbel⟩ := hrel
    by_cases hlt : m < xs.length
    · obtain ⟨p, rfl, hcell⟩ := (HR.out.below hbel.out) m hlt
      have hlen : cur.length = xs.length := by have := hown.out.1; omega
      obtain ⟨old, hold⟩ : ∃ old, cur[m]? = some old := ⟨_, List.getElem?_eq_getElem (by omega)⟩
      have hcA : wr.cell? ⟨w.heap.size, m, none⟩ = some old := (hown.out.cellAt m (by omega)).trans hold
      have hfA := hown.out.frozenAt m
      clear hold
      generalize hx : xs.getD m 0 = x at hcell
      go_wp2
      go_roundw
      case rel =>
        have hst := hown.out.stored m (.int .i64 x)
        refine ⟨m + 1, _, by omega, i_ext2 (by omega), ⟨hst.1⟩, ⟨?_⟩, ⟨hbel.out.setCell (Nat.le_refl _) _⟩⟩
        intro j hj
        by_cases he : j = m
        · subst he; rw [List.getElem?_set_self (by omega), hx]
        · rw [List.getElem?_set_ne (by omega)]; exact hcur.out j (by omega)
      case measure => simp [intOf]; omega
    · obtain rfl : m = xs.length := by omega
      go_wp2
      go_ret
      have hlen : cur.length = xs.length := by have := hown.out.1; omega
      refine ⟨rfl, ?_, hbel.out⟩
      rw [← ils_of hlen hcur.out]; exact hown.out
section
open Go.ChangeShapes Go.WideShapes Go.Deep Go.Joins
variable {H : Type} {enc : TypeId × Value → H} {P : Program} {w : World} {base : Nat} {spare : Nat → Bool} {held : Bool}
theorem open_irow1 {t e : TypeId} {fuel : Nat} {cs : List Value} {x : DataW H × List MemPlace} (ht : P.underlying t = some (.slice e)) (he : P.underlying e = some (.int .i64)) (hc : P.cellsOf e = 1)
    (h : DataW.trod enc P w base spare held fuel t cs = some x) :
    ∃ (a : Option Addr) (cap : Nat) (xs : List Int), cs = [.slice a xs.length cap] ∧ IRow w a xs ∧ Wi xs := by
  rcases DataW.trod_slice ht h with ⟨h0, _⟩ | ⟨a, len, cap, elems, rest, n, _, h0, _, _, _, _, hlen, hel, _, _⟩
  · exact ⟨none, 0, [], h0, fun i hi => absurd hi (Nat.not_lt_zero i), fun _ hn => by cases hn⟩
  · have each : ∀ i, i < len → ∃ b, w.cell? (a.add i) = some (.int .i64 b) ∧ (Lit.int .i64 b).wf = true := by
      intro i hi
      have hb := hel i hi
      rw [hc, Nat.mul_one, List.getElem?_eq_getElem (by omega : i < elems.length), Option.bind_eq_some_iff] at hb
      obtain ⟨cs', hcs, hy⟩ := hb
      obtain ⟨b, rfl, _, hw⟩ := DataW.trod_int he hy
      exact ⟨b, cell_of_cells?_one hcs, hw⟩
    refine ⟨some a, cap, (List.range len).map (fun i => intWord (w.cell? (a.add i))), by rw [h0]; simp, ?_, ?_⟩
    · intro i hi
      have hi' : i < len := by simpa using hi
      obtain ⟨b, hb, _⟩ := each i hi'
      refine ⟨a, rfl, ?_⟩
      rw [hb]
      simp [hi', hb, intWord]
    · intro m hm
      obtain ⟨i, hi, rfl⟩ := List.mem_map.1 hm
      obtain ⟨b, hb, hw⟩ := each i (List.mem_range.1 hi)
      rw [hb]; exact hw
end
end Go.Proofs.YthanhmchgidjlaaDoor
