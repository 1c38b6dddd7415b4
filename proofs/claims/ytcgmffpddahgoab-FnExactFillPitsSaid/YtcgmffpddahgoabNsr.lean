/-
  A search that begins, of the program: four new lists, made in whatever order. No premise beyond those named.
-/
import Derived.Test.YtcgmffpddahgoabOwv
import Derived.Deep.OwnRows
import Derived.Deep.RegionWith
namespace Go.Proofs.Ytcgmffpddahgoab
open Go Go.RowKit
set_option maxRecDepth 100000

theorem OwnV.made {w : World} {base : Nat} {T : TypeId} {n : Nat} {z : Value} (hb : base ≤ w.heap.size) (hm : n ≤ maxLen) : OwnV (w.alloc (.cells (madeCells #[z] n) T)) base T w.heap.size n n (fun _ => z) := by
  have h := World.ownsRow_lit (e := T) (size := 1) w (madeCells #[z] n) n hb hm (by rw [size_madeCells, Nat.mul_one])
  rw [toList_madeCells_one] at h
  unfold OwnV
  rw [map_rep]
  exact h
theorem OwnV.drew {w : World} {base : Nat} {T : TypeId} {g cap n : Nat} {v : Nat → Value} (h : OwnV w base T g cap n v) : OwnV w.drew base T g cap n v := h
theorem OwnV.made2 {w : World} {base g : Nat} {T : TypeId} {n : Nat} {z : Value} (hg : g = w.heap.size) (hb : base ≤ w.heap.size) (hm : n ≤ maxLen) : OwnV (w.alloc (.cells (madeCells #[z] n) T)) base T g n n (fun _ => z) := by
  subst hg
  exact OwnV.made hb hm
/-- a search -/
abbrev srV (a b c d n : Nat) : Value := .agg #[sl a n n, sl b n n, sl c n n, sl d n n]
/-- four lists in blocks of their own -/
structure Sr (w : World) (base a b c d n : Nat) (x y z u : Nat → Value) : Prop where
  x : OwnV w base 25 a n n x
  y : OwnV w base 2 b n n y
  z : OwnV w base 4 c n n z
  u : OwnV w base 4 d n n u
  ab : a ≠ b
  ac : a ≠ c
  ad : a ≠ d
  bc : b ≠ c
  bd : b ≠ d
  cd : c ≠ d
set_option maxHeartbeats 16000000 in
theorem newSearch_any {n : Nat} (hl : n ≤ 1048576) (w : World) : Calls Try.prog 91 #[.int .i64 n] w (fun e w' => ∃ a b c d, e = .returned (srV a b c d n) ∧ Sr w' w.heap.size a b c d n (fun _ => .float .f32 0) (fun _ => .int .i64 0) (fun _ => .bool false) (fun _ => .bool false) ∧ Below w.heap.size w w') := by
  have m1 := run_make_row' (P := Try.prog) 22 25 (.float .f32 0) 4 Try.underlying22 (by kernel_rfl) rfl .i64 .i64 n (by omega) (by omega)
  have m2 := run_make_row' (P := Try.prog) 56 2 (.int .i64 0) 8 Try.underlying56 (by kernel_rfl) rfl .i64 .i64 n (by omega) (by omega)
  have m3 := run_make_row' (P := Try.prog) 50 4 (.bool false) 1 Try.underlying50 (by kernel_rfl) rfl .i64 .i64 n (by omega) (by omega)
  have hm : n ≤ maxLen := by unfold maxLen; omega
  go_enter Try.func91, Try.ntmps91
  go_wp2
  go_region
  all_goals go_wp2
  all_goals refine bodyPost_ret (by simp [results, Try.results91, go_sem]; rfl) rfl ?_
  all_goals refine ⟨_, _, _, _, rfl, ⟨?_, ?_, ?_, ?_, ?_, ?_, ?_, ?_, ?_, ?_⟩, ?_⟩
  all_goals first
    | omega
    | ((repeat (first | with_reducible exact Below.refl _ _ | with_reducible refine Below.drews ?_ | with_reducible refine Below.drew ?_ | with_reducible refine Below.alloc ?_ (by first | omega | (simp; done) | (simp; omega)) _ | with_reducible refine Below.setCell ?_ (by first | omega | (simp; done) | (simp; omega)) _)); done)
    | ((repeat (first | (with_reducible refine OwnV.made2 (by first | omega | (simp; done) | (simp; omega)) (by first | omega | (simp; done) | (simp; omega)) hm; done) | with_reducible refine OwnV.other ?_ (by first | omega | (simp; done) | (simp; omega)) _ | with_reducible refine OwnV.alloc ?_ _ | with_reducible refine OwnV.drew ?_ | with_reducible refine OwnV.drews ?_ _)); done)
end Go.Proofs.Ytcgmffpddahgoab
