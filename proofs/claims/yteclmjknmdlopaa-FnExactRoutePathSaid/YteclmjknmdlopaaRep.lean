/-
slices.Repeat of a list of one number: as many of it. No premise beyond those named.
-/
import Derived.Test.YteclmjknmdlopaaRtS
import Derived.Laws.CopyOwn
import Derived.Laws.Bits64b
import Derived.Deep.RegionLaw
namespace Go.Proofs.Yteclmjknmdlopaa
open Go Go.RowKit
set_option maxRecDepth 100000

theorem and32 {n : Nat} (h : n ≤ 64) : bits BinOp.and IntKind.u64 (n : Int) 4294967295 = (n : Int) := by
  have := bits_and_u64_nat n 4294967295 (by omega) (by omega)
  rw [show (4294967295 : Int) = ((4294967295 : Nat) : Int) from rfl, this]
  have e : n &&& 4294967295 = n := by
    rw [show 4294967295 = 2 ^ 32 - 1 from rfl, Nat.and_two_pow_sub_one_eq_mod]; omega
  rw [e]
theorem mul_one64 {n : Nat} (h : n ≤ 64) (w : World) : Calls Try.prog 90 #[.int .u64 1, .int .u64 (n : Int)] w (fun e w' => e = .returned (.tuple #[.int .u64 0, .int .u64 (n : Int)]) ∧ w' = w) := by
  have a1 := and32 h
  have a2 := and32 (n := 1) (by omega)
  have a3 := and32 (n := 0) (by omega)
  simp only [Int.natCast_one, Int.natCast_zero] at a2 a3
  have d1 : (n : Int) / 4294967296 = 0 := by omega
  go_enter Try.func90, Try.ntmps90
  go_wp2
  go_ret2
  exact ⟨rfl, rfl⟩
/-- A row of which the first m are told. -/
def fstR (m : Nat) (v : Int) (j : Nat) : Int := if j < m then v else 0
theorem fstR_splice {n m c : Nat} {v : Int} (h : m + c ≤ n) : splice (il n (fstR m v)) m (il c (fun _ => v)) = il n (fstR (m + c) v) := by
  unfold splice
  have e : (List.take m (il n (fstR m v))).length = m := by rw [List.length_take, il_len]; exact Nat.min_eq_left (by omega)
  apply List.ext_getElem?
  intro i
  by_cases hi : i < n
  · rw [il_at hi]
    by_cases h1 : i < m
    · rw [List.getElem?_append_left (by rw [e]; exact h1), List.getElem?_take, if_pos h1, il_at hi]
      unfold fstR; rw [if_pos h1, if_pos (by omega)]
    · rw [List.getElem?_append_right (by rw [e]; omega), e]
      by_cases h2 : i < m + c
      · rw [List.getElem?_append_left (by rw [il_len]; omega), il_at (by omega)]
        unfold fstR; rw [if_pos h2]
      · rw [List.getElem?_append_right (by rw [il_len]; omega), il_len, List.getElem?_drop, show m + c + (i - m - c) = i by omega, il_at hi]
        unfold fstR; rw [if_neg h1, if_neg h2]
  · rw [List.getElem?_eq_none (by rw [List.length_append, e, List.length_append, il_len, List.length_drop, il_len]; omega), List.getElem?_eq_none (by rw [il_len]; omega)]
theorem il_zero {n : Nat} {v : Int} : (madeCells (Value.int .i64 0).cells (n * 1)).toList = il n (fstR 0 v) := by
  rw [show (Value.int .i64 0).cells = #[.int .i64 0] from rfl, Nat.mul_one, toList_madeCells_one]
  apply List.ext_getElem?
  intro i
  by_cases hi : i < n
  · rw [il_at hi, List.getElem?_replicate, if_pos hi]; rfl
  · rw [List.getElem?_eq_none (by simp; omega), List.getElem?_eq_none (by rw [il_len]; omega)]
theorem fstR_all {n : Nat} {v : Int} : il n (fstR n v) = il n (fun _ => v) := il_congr fun j hj => by unfold fstR; rw [if_pos hj]
theorem il_cells {n : Nat} {f : Nat → Int} : ∀ u ∈ il n f, u.oneCell' = true := by
  intro u hu
  unfold il at hu
  rw [List.mem_map] at hu
  obtain ⟨j, _, rfl⟩ := hu
  rfl
theorem il_one {v : Int} : il 1 (fun _ => v) = [.int .i64 v] := rfl
theorem ORow.heapW {w : World} {base : Nat} {T : TypeId} {g n : Nat} {f : Nat → Int} (h : w.ownsRow base T 1 (.slice (some ⟨g, 0, none⟩) n n) n (il n f)) : w.heap[g]? = some (.cells (il n f).toArray T (0, 0)) := by
  rcases h.2 with ⟨h1, _⟩ | ⟨g', cap', cur, hv, _, hh, hn, hc, hs, ht⟩
  · cases h1
  · cases hv
    rw [hh]
    have : cur.toList = il n f := by
      rw [← ht, List.take_of_length_le (by rw [Array.length_toList]; omega)]
    rw [← this]
theorem ORow.ofHeap {w : World} {base : Nat} {T : TypeId} {g n : Nat} {f : Nat → Int} (hb : base ≤ g) (hm : n ≤ maxLen) (h : w.heap[g]? = some (.cells (il n f).toArray T (0, 0))) : ORow w base T g n n f :=
  ⟨by rw [il_len]; omega, .inr ⟨g, n, _, rfl, hb, h, Nat.le_refl _, hm, by simp [il_len], by rw [Nat.mul_one]; exact List.take_of_length_le (by rw [il_len]; exact Nat.le_refl _)⟩⟩
theorem copy_first {P : Program} {T E : TypeId} {g n g0 c : Nat} {v : Int} (w : World) (hu : P.underlying T = some (.slice E)) (hs : (P.info? E).map (·.size) = some 1) (hg : w.heap[g]? = some (.cells (il n (fstR 0 v)).toArray E (0, 0))) (h1 : 1 ≤ n) (hc : w.cell? ⟨g0, 0, none⟩ = some (.int .i64 v)) :
    (Builtin.copy_ #[T, T] 3 #[.slice (some ⟨g, 0, none⟩) n n, .slice (some ⟨g0, 0, none⟩) 1 c]).run P w = .ok (.int .i64 1) (w.setRow g (il n (fstR 1 v)).toArray) := by
  have := run_copy_row (P := P) w T T 3 E g 0 n n ⟨g0, 0, none⟩ 1 c (il n (fstR 0 v)).toArray E (il 1 (fun _ => v)) hu hs hg (by rw [il_len]; exact (Nat.min_eq_left h1).symm) (by
    intro j u hj
    match j, hj with
    | 0, hj => simp [il] at hj; subst hj; exact hc
    | j + 1, hj => simp [il] at hj) (by simp [il_len]; omega) il_cells
  rw [this]
  have e := fstR_splice (n := n) (m := 0) (c := 1) (v := v) (by omega)
  unfold splice at e
  rw [show (1 : Nat) = 0 + 1 from rfl, ← e]
  simp [il_len, goInt]
set_option maxHeartbeats 4000000 in
theorem repeat_any {n g0 c0 : Nat} {v : Int} (w : World) (h1 : 1 ≤ n) (h : n ≤ 64) (hc : w.cell? ⟨g0, 0, none⟩ = some (.int .i64 v)) : Calls Try.prog 73 #[.slice (some ⟨g0, 0, none⟩) 1 c0, .int .i64 (n : Int)] w (fun e w' => ∃ g, e = .returned (.slice (some ⟨g, 0, none⟩) n n) ∧ ORow w' w.heap.size 2 g n n (fun _ => v) ∧ Below w.heap.size w w') := by
  obtain ⟨i0, hi0, hz0, hz1, hz2⟩ := info_parts (P := Try.prog) (e := 2) (z := .int .i64 0) (size := 1) (bytes := 8) (by kernel_rfl)
  have KM := Hf.mk (fun w => mul_one64 h w)
  go_enter Try.func73, Try.ntmps73
  go_wp2_with (first | (go_at_call 90; refine (KM.out _).mono ?_; rintro e w' ⟨rfl, hw⟩; rw [hw]; clear hw w') | (at_make; refine wpList_make_full _ rfl _ _ 27 rfl w.heap.size 2 i0 _ 1 Try.underlying27 hi0 hz0 hz1 .i64 .i64 _ _ n rfl rfl (by first | rfl | omega) (by first | rfl | omega) (by rw [hz2]; omega) (by unfold maxLen; omega) (Nat.le_refl _) ?_; intro w0 hown0 hgrow0; rw [il_zero (v := v)] at hown0; have HW := Hf.mk (ORow.heapW hown0); have B0 := Hf.mk (Below.grown (Below.refl w.heap.size w) hgrow0 (Nat.le_refl _) (fun k h => by cases h)); have hr := copy_first (P := Try.prog) (T := 27) (E := 2) w0 (c := c0) Try.underlying27 (by kernel_rfl) HW.out h1 (Below.keep B0.out hc); clear hown0 hgrow0))
  go_loopw [8] (fun v8 wr => ∃ m : Nat, 1 ≤ m ∧ m ≤ n ∧ v8 = .int .i64 m ∧ Hf (wr.heap[w.heap.size]? = some (.cells (il n (fstR m v)).toArray 2 (0, 0))) ∧ Hf (Below w.heap.size w wr)) (fun v8 _ => n - (intOf v8).toNat)
  case atStart => exact ⟨1, by omega, h1, rfl, ⟨setRow_heap _ _ _ _ _ _ HW.out⟩, ⟨below_setRow B0.out (Nat.le_refl _) _⟩⟩
  case round =>
    obtain ⟨m, hm1, hmn, rfl, hH, hB⟩ := hrel
    obtain ⟨W2, hW2⟩ : ∃ W2, W2 = wr := ⟨_, rfl⟩
    subst hW2
    by_cases hlt : m < n
    · have hcc : ∃ c, c = Nat.min m (n - m) := ⟨_, rfl⟩
      obtain ⟨c, hc⟩ := hcc
      have HC := Hf.mk hc
      have hc1 : 1 ≤ c := by rw [hc]; exact (Nat.le_min.2 ⟨hm1, by omega⟩)
      have hc2 : m + c ≤ n := by have : Nat.min m (n - m) ≤ n - m := Nat.min_le_right m (n - m); omega
      have hc3 : c ≤ m := by have : Nat.min m (n - m) ≤ m := Nat.min_le_left m (n - m); omega
      have HR : Hf (ORow W2 w.heap.size 2 w.heap.size n n (fstR m v)) := ⟨ORow.ofHeap (Nat.le_refl _) (by unfold maxLen; omega) hH.out⟩
      have HSrc : Hf (∀ j u, (il c (fun _ => v))[j]? = some u → W2.cell? ((⟨w.heap.size, 0, none⟩ : Addr).add j) = some u) := ⟨fun j u hj => by
        have hjc : j < c := by
          by_cases h : j < c
          · exact h
          · rw [List.getElem?_eq_none (by rw [il_len]; omega)] at hj; cases hj
        rw [il_at hjc] at hj
        have := HR.out.cell (show j < n by omega)
        unfold fstR at this
        rw [if_pos (show j < m by omega)] at this
        cases hj
        by_cases h0 : j = 0
        · subst h0; simpa [Addr.add] using this
        · simpa [Addr.add, h0] using this⟩
      clear hc
      have hnm : ¬ n = m := by omega
      have hlt2 : m ≤ n := hmn
      go_wp2
      go_region_law ((refine step_copy_splice (by rfl) (.tmp 41) (.tmp 44) 27 27 (by rfl) 2 Try.underlying27 (by kernel_rfl) (some ⟨w.heap.size, m, none⟩) (some ⟨w.heap.size, 0, none⟩) (n - m) (n - m) m n (by rfl) (by rfl) w.heap.size m (il n (fstR m v)) 2 hH.out (il c (fun _ => v)) (by rw [il_len]; exact HC.out) (fun _ => ⟨rfl, _, rfl, HSrc.out⟩) (by rw [il_len, il_len]; omega) il_cells w.heap.size w (Below.drew hB.out) (Nat.le_refl _) ?_; intro w4 hg4 hb4))
      have hl : (il c (fun _ => v)).length = c := il_len c _
      have hwr : IntKind.i64.wrap ((m : Int) + (c : Int)) = (m : Int) + (c : Int) := IntWalk.i64_in _ ⟨by omega, by omega⟩
      have HG4 := Hf.mk hg4.out
      rw [fstR_splice hc2] at HG4
      have HB4 := Hf.mk hb4
      clear hg4 hb4
      rw [hl]
      clear hl
      go_simp
      go_roundw
      case rel =>
        refine ⟨_, _, _, _, _, _, _, _, _, _, _, _, _, _, ⟨m + c, by omega, hc2, ?_, HG4, HB4⟩, rfl⟩
        exact i_ext2 (by omega)
      case measure => simp [intOf]; omega
    · obtain rfl : m = n := by omega
      have HR : Hf (ORow W2 w.heap.size 2 w.heap.size m m (fun _ => v)) := ⟨by
        have := ORow.ofHeap (base := w.heap.size) (Nat.le_refl _) (by unfold maxLen; omega) hH.out
        unfold ORow at this ⊢
        rwa [fstR_all] at this⟩
      go_wp2
      go_ret
      exact ⟨_, rfl, HR.out, hB.out⟩
end Go.Proofs.Yteclmjknmdlopaa
