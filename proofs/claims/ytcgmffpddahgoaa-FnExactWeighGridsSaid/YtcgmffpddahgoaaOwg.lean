/-
  A grid of one's own: a copy, of the model. No premise beyond those named.
-/
import Derived.Test.YtcgmffpddahgoaaOwv
import Derived.Test.YtcgmffpddahgoaaSlp
import Derived.Deep.RegionHeld3
import Derived.Deep.AppendLies
namespace Go.Proofs.Ytcgmffpddahgoaa
open Go Go.RowKit
set_option maxRecDepth 100000

theorem Exact.kp {w w' : World} {g n a b c d : Nat} {f : Nat → Nat} (h : Exact w g n f) (k : Kp4 a b c d w w') (h1 : g ≠ a) (h2 : g ≠ b) (h3 : g ≠ c) (h4 : g ≠ d) : Exact w' g n f := fun j hj => k.cell (h j hj) h1 h2 h3 h4
def flv (f : Nat → Nat) (n : Nat) : List Value := (List.range n).map (fun j => .float .f32 (f j))
theorem flv_len {f : Nat → Nat} {n : Nat} : (flv f n).length = n := by simp [flv]
theorem flv_at {f : Nat → Nat} {n : Nat} {w : World} {g : Nat} (h : Exact w g n f) : ∀ j u, (flv f n)[j]? = some u → w.cell? ((⟨g, 0, none⟩ : Addr).add j) = some u := by
  intro j u hu
  unfold flv at hu
  rw [List.getElem?_map] at hu
  by_cases hj : j < n
  · rw [List.getElem?_range hj] at hu
    obtain rfl := Option.some.inj hu
    rw [add_at]
    exact h j hj
  · rw [List.getElem?_eq_none (by simp; omega)] at hu
    cases hu
theorem flv_one {f : Nat → Nat} {n : Nat} : ∀ u ∈ flv f n, u.oneCell' = true := by
  intro u hu
  unfold flv at hu
  obtain ⟨j, _, rfl⟩ := List.mem_map.1 hu
  rfl
set_option maxHeartbeats 8000000 in
theorem l06Own_any {b g n k : Nat} {wd hg : Int} {f : Nat → Nat} (w : World) (c0 : w.cell? ⟨b, 0, none⟩ = some (.int .i64 wd)) (c1 : w.cell? ⟨b, 1, none⟩ = some (.int .i64 hg)) (c2 : w.cell? ⟨b, 2, none⟩ = some (sl g n k)) (X : Exact w g n f) (hn : 0 < n) (hl : n ≤ 1048576) : Calls Try.prog 90 #[.pointer (some ⟨b, 0, none⟩)] w (fun e w' => ∃ g2 k2, e = .returned (gd wd hg (sl g2 n k2)) ∧ OwnV w' w.heap.size 29 g2 k2 n (fun j => .float .f32 (f j)) ∧ Below w.heap.size w w') := by
  obtain ⟨i0, hi0, hz0, hz1, hz2⟩ := info_parts (P := Try.prog) (e := 29) (z := .float .f32 0) (size := 1) (bytes := 4) (by kernel_rfl)
  have HX := Hf.mk X
  have hlb := World.block_lt_of_cell? w _ c0
  have n0 := World.new_ne w _ c0
  have n1 := World.new_ne w _ c1
  have n2 := World.new_ne w _ c2
  clear X
  go_enter Try.func90, Try.ntmps90
  go_wp2
  go_region_held3 (fun w' => w'.cell? ⟨b, 0, none⟩ = some (.int .i64 wd) ∧ w'.cell? ⟨b, 1, none⟩ = some (.int .i64 hg) ∧ w'.cell? ⟨b, 2, none⟩ = some (sl g n k))
    (first
      | go_keep
      | (go_split_ands
         refine ⟨?_, ?_, ?_⟩ <;> (rw [hgrow.cell_far _ (by simp; omega) (by simp [Value.ownBlock]; omega)]; assumption)))
    ((refine step_append_lies _ (by rfl) _ _ _ (by rfl) w.heap.size 29 i0 _ 1 4 Try.underlying24 hi0 hz0 hz1 hz2 rfl (by decide) (sl (w.heap.size + 1) 0 0) 0 [] (by rfl) (by have h := World.ownsRow_made (base := w.heap.size) (e := 29) (size := 1) (w.alloc (.cells #[.int .i64 0, .int .i64 0, .slice none 0 0] 26)) #[] 0 (by simp) (by decide) rfl; rw [World.size_alloc] at h; exact h) ⟨g, 0, none⟩ n k (flv f n) (by rfl) (by rw [flv_len]; omega) (flv_at (HX.out.below (Below.drew (Below.alloc (Below.alloc (Below.refl _ _) (Nat.le_refl _) _) (by simp) _)))) flv_one hn (by unfold maxLen; omega) (by omega) (by simp; omega) (w.heap.size + 2) (by simp) ?_; intro g2 k2 w1 hown1 hgrow hat hlt; have q0c := (hgrow.cell_far ⟨w.heap.size, 0, none⟩ (by simp; omega) (by simp [Value.ownBlock])).trans (show _ = some (.int .i64 0) by simp [go_sem]); have q0z := (hgrow.frozen_far ⟨w.heap.size, 0, none⟩ (by simp; omega) (by simp [Value.ownBlock])).trans (show _ = false by simp [go_sem]); have q1c := (hgrow.cell_far ⟨w.heap.size, 1, none⟩ (by simp; omega) (by simp [Value.ownBlock])).trans (show _ = some (.int .i64 0) by simp [go_sem]); have q1z := (hgrow.frozen_far ⟨w.heap.size, 1, none⟩ (by simp; omega) (by simp [Value.ownBlock])).trans (show _ = false by simp [go_sem]); have q2c := (hgrow.cell_far ⟨w.heap.size, 2, none⟩ (by simp; omega) (by simp [Value.ownBlock])).trans (show _ = some (.slice none 0 0) by simp [go_sem]); have q2z := (hgrow.frozen_far ⟨w.heap.size, 2, none⟩ (by simp; omega) (by simp [Value.ownBlock])).trans (show _ = false by simp [go_sem])))
  go_wp2
  have hg2 : w.heap.size < g2 := by
    rcases hat with h | h
    · simp only [Value.ownBlock, Option.some.injEq] at h; omega
    · omega
  have O1 : OwnV w1 w.heap.size 29 g2 k2 n (fun j => .float .f32 (f j)) := by
    rw [Nat.zero_add, List.nil_append] at hown1
    exact hown1
  refine bodyPost_ret (v := gd wd hg (sl g2 n k2)) (by simp [results, Try.results90, go_sem, q0c, q1c, q2c]) rfl ⟨_, _, rfl, ((O1.other (by omega) _).other (by omega) _).other (by omega) _, ?_⟩
  refine Below.setCell (Below.setCell (Below.setCell (Below.grown (Below.drew (Below.alloc (Below.alloc (Below.refl _ _) (Nat.le_refl _) _) (by simp) _)) hgrow (by simp; omega) (fun k h => by simp only [Value.ownBlock, Option.some.injEq] at h; omega)) ?_ _) ?_ _) ?_ _
  all_goals simp
end Go.Proofs.Ytcgmffpddahgoaa
