/-
  Indices of places of a grid, of the program and of the model; ValidGrid of the model. No premise beyond those named.
-/
import Derived.Test.YtcgmffpddahgoaaGmb
import Derived.Deep.QuietTactic
namespace Go.Proofs.Ytcgmffpddahgoaa
open Go Go.RowKit
set_option maxRecDepth 100000

def idxB (i : Int) (n : Nat) : Bool := decide (0 ≤ i ∧ i < (n : Int))
theorem idxB_of {i : Int} {n : Nat} (h : idxB i n = true) : ∃ j : Nat, i = (j : Int) ∧ j < n := by
  unfold idxB at h
  rw [decide_eq_true_iff] at h
  exact ⟨i.toNat, by omega, by omega⟩
theorem has_any {g n k : Nat} {wd hg i : Int} (_hn : n ≤ 1048576) (w : World) : Calls Try.prog 56 #[gd wd hg (sl g n k), .int .i64 i] w (RS (.bool (idxB i n)) w) := by
  go_enter Try.func56, Try.ntmps56
  go_wp2
  all_goals
    go_ret
    refine ⟨ret_b ?_, (by repeat (first | exact Below.refl _ _ | with_reducible assumption | refine Below.drews ?_ | refine Below.drew ?_ | refine Below.alloc ?_ (by simp <;> omega) _ | refine Below.setCell ?_ (by simp <;> omega) _))⟩
    unfold idxB
    rw [Bool.eq_iff_iff]
    simp
    try omega
set_option maxHeartbeats 1000000 in
theorem l06Index_any {b g n k : Nat} {wd hg i : Int} {f : Nat → Nat} (w : World) (c0 : w.cell? ⟨b, 0, none⟩ = some (.int .i64 wd)) (c1 : w.cell? ⟨b, 1, none⟩ = some (.int .i64 hg)) (c2 : w.cell? ⟨b, 2, none⟩ = some (sl g n k)) (h : Told w g n f) (hl : n ≤ 1048576) : Calls Try.prog 92 #[.pointer (some ⟨b, 0, none⟩), .int .i64 i] w (RB (gridB wd hg n f && idxB i n) w) := by
  have H := Hf.mk (fun q => l06Is_any (w.drewN q) c0 c1 c2 (h.drew q) hl)
  clear h
  cases h1 : gridB wd hg n f
  · rw [h1] at H
    clear h1
    go_enter Try.func92, Try.ntmps92
    go_wp2
    go_quiet ((first | (go_at_call 82; exact Calls.quiet_of (H.out _))))
    go_wp2
    go_ret
    exact RB.any rfl (by repeat (first | exact Drew.refl _ | refine Drew.more ?_))
  · obtain ⟨W, Hh, hG⟩ := gridB_of h1
    have n256 := hG.n256
    have hn := hG.nn
    obtain rfl := hG.w
    obtain rfl := hG.h
    rw [h1] at H
    clear h1
    have hp : (W : Int) * (Hh : Int) = (n : Int) := by rw [hn]; simp
    have hp1 : IntKind.i64.wrap (n : Int) = (n : Int) := IntWalk.i64_in _ (by omega)
    have hp2 : IntKind.i64.wrap ((n : Int) - 1) = (n : Int) - 1 := IntWalk.i64_in _ (by omega)
    clear hn hG
    cases h2 : idxB i n
    · have KI := Hf.mk (fun w => l00In_no (n := i) (lo := 0) (hi := (n : Int) - 1) (by unfold idxB at h2; rw [decide_eq_false_iff_not] at h2; omega) w)
      clear h2
      go_enter Try.func92, Try.ntmps92
      go_wp2
      go_quiet ((first | (go_at_call 82; exact Calls.quiet_of (H.out _)) | (go_at_call 99; exact Calls.quiet_of (KI.out _))))
      go_wp2
      go_ret
      exact RB.any rfl (by repeat (first | exact Drew.refl _ | refine Drew.more ?_))
    · have KI := Hf.mk (fun w => l00In_yes (n := i) (lo := 0) (hi := (n : Int) - 1) (by unfold idxB at h2; rw [decide_eq_true_iff] at h2; omega) (by unfold idxB at h2; rw [decide_eq_true_iff] at h2; omega) w)
      clear h2
      go_enter Try.func92, Try.ntmps92
      go_wp2
      go_quiet ((first | (go_at_call 82; exact Calls.quiet_of (H.out _)) | (go_at_call 99; exact Calls.quiet_of (KI.out _))))
      go_wp2
      go_ret
      exact RB.any rfl (by repeat (first | exact Drew.refl _ | refine Drew.more ?_))
theorem sValid_any {g n k : Nat} {wd hg : Int} {f : Nat → Nat} (w : World) (h : Told w g n f) (hl : n ≤ 1048576) : Calls Try.prog 30 #[gd wd hg (sl g n k)] w (RS (.bool (gridB wd hg n f)) w) := by
  have H := Hf.mk h
  clear h
  generalize hb : gridB wd hg n f = b
  have H1 := Hf.mk hb
  clear hb
  go_enter Try.func30, Try.ntmps30
  go_wp2_with (first | (go_at_call 82; refine (l06Is_any (k := k) (wd := wd) (hg := hg) _ (by simp) (by simp) (by simp) (H.out.below (by repeat (first | exact Below.refl _ _ | with_reducible assumption | refine Below.drews ?_ | refine Below.drew ?_ | refine Below.alloc ?_ (by simp <;> omega) _ | refine Below.setCell ?_ (by simp <;> omega) _))) hl).mono ?_; rw [H1.out]; rintro e w' ⟨rfl, q0, rfl⟩))
  go_ret
  exact ⟨rfl, (by repeat (first | exact Below.refl _ _ | with_reducible assumption | refine Below.drews ?_ | refine Below.drew ?_ | refine Below.alloc ?_ (by simp <;> omega) _ | refine Below.setCell ?_ (by simp <;> omega) _))⟩
end Go.Proofs.Ytcgmffpddahgoaa
