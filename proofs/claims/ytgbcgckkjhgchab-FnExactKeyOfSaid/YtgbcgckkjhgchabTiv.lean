/-
  Which tiles there are, of the program and of its model; the exact law TileKey. No condition.
-/
import Derived.Test.YtgbcgckkjhgchabTky
import Derived.Test.YtgbcgckkjhgchabSam
namespace Go.Proofs.Ytgbcgckkjhgchab
open Go Go.RowKit
set_option maxRecDepth 100000

theorem two20' {m : Nat} (h : m ≤ 20) : 2 ^ m ≤ 1048576 := Nat.le_trans (Nat.pow_le_pow_right (by decide) h) (by decide)
theorem w64_pow {z : Nat} (hz : z ≤ 20) : wrap64 ((2 : Int) ^ z) = (2 : Int) ^ z := by
  have hp := two20' hz
  rw [show ((2 : Int) ^ z) = ((2 ^ z : Nat) : Int) by simp]
  generalize 2 ^ z = P at *
  unfold wrap64; omega
def zoomB (i : Int) : Bool := decide (0 ≤ i ∧ i ≤ 20)
theorem isZoom_any {i : Int} (w : World) : Calls Try.prog 111 #[.int .i64 i] w (RT (.bool (zoomB i)) w) := by
  by_cases h : (0 : Int) ≤ i
  · go_enter Try.func111, Try.ntmps111
    go_wp2
    go_ret
    exact ⟨ret_b (by unfold zoomB; simp [h]), (by repeat (first | exact Drew.refl _ | refine Drew.more ?_))⟩
  · have K := Hf.mk (show zoomB i = false from decide_eq_false (by omega))
    go_enter Try.func111, Try.ntmps111
    go_wp2
    go_ret
    rw [K.out]
    exact ⟨rfl, (by repeat (first | exact Drew.refl _ | refine Drew.more ?_))⟩
theorem across_any {z : Nat} {x y : Int} (hz : z ≤ 20) (w : World) : Calls Try.prog 116 #[tl (z : Int) x y] w (RS (.int .i64 ((2 ^ z : Nat) : Int)) w) := by
  go_enter Try.func116, Try.ntmps116
  go_wp2
  go_ret
  exact ⟨ret_i (by simp [w64_pow hz]), (by repeat (first | exact Below.refl _ _ | with_reducible assumption | refine Below.drews ?_ | refine Below.drew ?_ | refine Below.alloc ?_ (by simp <;> omega) _ | refine Below.setCell ?_ (by simp <;> omega) _))⟩
theorem isValid_x0 {z : Nat} {x y : Int} (hz : z ≤ 20) (h1 : ¬ 0 ≤ x) (w : World) : Calls Try.prog 112 #[tl (z : Int) x y] w (RS (.bool false) w) := by
  have KZ := Hb.mk (fun w => isZoom_any (i := (z : Int)) w)
  rw [show zoomB (z : Int) = true from decide_eq_true (by omega)] at KZ
  have KA := Hb.mk (fun w => across_any (x := x) (y := y) hz w)
  generalize ((2 ^ z : Nat) : Int) = p at *
  have HD := Hb.mk (show decide (0 ≤ x) = false from decide_eq_false h1)
  clear h1
  go_enter Try.func112, Try.ntmps112
  go_wp2
  refine region_all (by kernel_rfl) (by kernel_rfl) (fun I F hne HB hcl => ?_)
  have f0 := keepF HB (p := ⟨w.heap.size, 0, none⟩) (v := .int .i64 (z : Int)) (by simp [go_sem])
  have f1 := keepF HB (p := ⟨w.heap.size, 1, none⟩) (v := .int .i64 x) (by simp [go_sem])
  have f2 := keepF HB (p := ⟨w.heap.size, 2, none⟩) (v := .int .i64 y) (by simp [go_sem])
  quiet_step (first | (go_at_call 111; exact callD hcl (KZ.out _)) | (go_at_call 116; exact callS hcl (KA.out _)))
  quiet_step (first | (go_at_call 111; exact callD hcl (KZ.out _)) | (go_at_call 116; exact callS hcl (KA.out _)))
  quiet_step (first | (go_at_call 111; exact callD hcl (KZ.out _)) | (go_at_call 116; exact callS hcl (KA.out _)))
  quiet_step (first | (go_at_call 111; exact callD hcl (KZ.out _)) | (go_at_call 116; exact callS hcl (KA.out _)))
  with_reducible refine quiet_yes ?_ (fun K hK => ?_)
  · kernel_rfl
  go_simp
  first | (refine hK _ ?_; clear hK K) | (apply Exists.intro; refine ⟨fun _ => ?_, hK _ ?_⟩; (first | (go_at_call 111; exact callD hcl (KZ.out _)) | (go_at_call 116; exact callS hcl (KA.out _))); clear hK K)
  try rw [HD.out]
  with_reducible refine quiet_yes ?_ (fun K hK => ?_)
  · kernel_rfl
  go_simp
  first | (refine hK _ ?_; clear hK K) | (apply Exists.intro; refine ⟨fun _ => ?_, hK _ ?_⟩; (first | (go_at_call 111; exact callD hcl (KZ.out _)) | (go_at_call 116; exact callS hcl (KA.out _))); clear hK K)
  try rw [HD.out]
  with_reducible refine quiet_yes ?_ (fun K hK => ?_)
  · kernel_rfl
  go_simp
  first | (refine hK _ ?_; clear hK K) | (apply Exists.intro; refine ⟨fun _ => ?_, hK _ ?_⟩; (first | (go_at_call 111; exact callD hcl (KZ.out _)) | (go_at_call 116; exact callS hcl (KA.out _))); clear hK K)
  try rw [HD.out]
  quiet_step (first | (go_at_call 111; exact callD hcl (KZ.out _)) | (go_at_call 116; exact callS hcl (KA.out _)))
  try rw [HD.out]
  quiet_step (first | (go_at_call 111; exact callD hcl (KZ.out _)) | (go_at_call 116; exact callS hcl (KA.out _)))
  try rw [HD.out]
  with_reducible refine quiet_not ?_ ?_
  · kernel_rfl
  with_reducible refine quiet_not ?_ ?_
  · kernel_rfl
  with_reducible refine quiet_not ?_ ?_
  · kernel_rfl
  with_reducible refine quiet_not ?_ ?_
  · kernel_rfl
  with_reducible refine quiet_not ?_ ?_
  · kernel_rfl
  quiet_step (first | (go_at_call 111; exact callD hcl (KZ.out _)) | (go_at_call 116; exact callS hcl (KA.out _)))
  try rw [HD.out]
  quiet_step (first | (go_at_call 111; exact callD hcl (KZ.out _)) | (go_at_call 116; exact callS hcl (KA.out _)))
  try rw [HD.out]
  with_reducible refine quiet_not ?_ ?_
  · kernel_rfl
  with_reducible refine quiet_not ?_ ?_
  · kernel_rfl
  with_reducible refine quiet_not ?_ ?_
  · kernel_rfl
  quiet_step (first | (go_at_call 111; exact callD hcl (KZ.out _)) | (go_at_call 116; exact callS hcl (KA.out _)))
  try rw [HD.out]
  quiet_step (first | (go_at_call 111; exact callD hcl (KZ.out _)) | (go_at_call 116; exact callS hcl (KA.out _)))
  try rw [HD.out]
  with_reducible refine quiet_not ?_ ?_
  · kernel_rfl
  with_reducible refine quiet_not ?_ ?_
  · kernel_rfl
  with_reducible refine quiet_not ?_ ?_
  · kernel_rfl
  with_reducible refine quiet_not ?_ ?_
  · kernel_rfl
  with_reducible refine quiet_not ?_ ?_
  · kernel_rfl
  quiet_step (first | (go_at_call 111; exact callD hcl (KZ.out _)) | (go_at_call 116; exact callS hcl (KA.out _)))
  try rw [HD.out]
  quiet_step (first | (go_at_call 111; exact callD hcl (KZ.out _)) | (go_at_call 116; exact callS hcl (KA.out _)))
  try rw [HD.out]
  refine wpQuiet_nil ?_
  intro _ hw'
  obtain ⟨iq, rfl⟩ := hw'
  clear hcl
  have E1 := Hb.mk (HB.out iq)
  go_wp2
  go_ret
  exact ⟨by simp, (by repeat (first | exact Below.refl _ _ | refine Below.on ?_ E1.out (by first | omega | (simp <;> omega)) | refine Below.drews ?_ | refine Below.drew ?_ | refine Below.alloc ?_ (by first | omega | (simp <;> omega)) _ | refine Below.setCell ?_ (by first | omega | (simp <;> omega)) _))⟩
theorem isValid_x1 {z : Nat} {x y : Int} (hz : z ≤ 20) (h1 : 0 ≤ x) (h2 : ¬ x < ((2 ^ z : Nat) : Int)) (w : World) : Calls Try.prog 112 #[tl (z : Int) x y] w (RS (.bool false) w) := by
  have KZ := Hb.mk (fun w => isZoom_any (i := (z : Int)) w)
  rw [show zoomB (z : Int) = true from decide_eq_true (by omega)] at KZ
  have KA := Hb.mk (fun w => across_any (x := x) (y := y) hz w)
  generalize ((2 ^ z : Nat) : Int) = p at *
  have HD := Hb.mk (show decide (x < p) = false from decide_eq_false h2)
  clear h2
  go_enter Try.func112, Try.ntmps112
  go_wp2
  refine region_all (by kernel_rfl) (by kernel_rfl) (fun I F hne HB hcl => ?_)
  have f0 := keepF HB (p := ⟨w.heap.size, 0, none⟩) (v := .int .i64 (z : Int)) (by simp [go_sem])
  have f1 := keepF HB (p := ⟨w.heap.size, 1, none⟩) (v := .int .i64 x) (by simp [go_sem])
  have f2 := keepF HB (p := ⟨w.heap.size, 2, none⟩) (v := .int .i64 y) (by simp [go_sem])
  quiet_step (first | (go_at_call 111; exact callD hcl (KZ.out _)) | (go_at_call 116; exact callS hcl (KA.out _)))
  quiet_step (first | (go_at_call 111; exact callD hcl (KZ.out _)) | (go_at_call 116; exact callS hcl (KA.out _)))
  quiet_step (first | (go_at_call 111; exact callD hcl (KZ.out _)) | (go_at_call 116; exact callS hcl (KA.out _)))
  quiet_step (first | (go_at_call 111; exact callD hcl (KZ.out _)) | (go_at_call 116; exact callS hcl (KA.out _)))
  with_reducible refine quiet_yes ?_ (fun K hK => ?_)
  · kernel_rfl
  go_simp
  first | (refine hK _ ?_; clear hK K) | (apply Exists.intro; refine ⟨fun _ => ?_, hK _ ?_⟩; (first | (go_at_call 111; exact callD hcl (KZ.out _)) | (go_at_call 116; exact callS hcl (KA.out _))); clear hK K)
  try rw [HD.out]
  with_reducible refine quiet_yes ?_ (fun K hK => ?_)
  · kernel_rfl
  go_simp
  first | (refine hK _ ?_; clear hK K) | (apply Exists.intro; refine ⟨fun _ => ?_, hK _ ?_⟩; (first | (go_at_call 111; exact callD hcl (KZ.out _)) | (go_at_call 116; exact callS hcl (KA.out _))); clear hK K)
  try rw [HD.out]
  with_reducible refine quiet_yes ?_ (fun K hK => ?_)
  · kernel_rfl
  go_simp
  first | (refine hK _ ?_; clear hK K) | (apply Exists.intro; refine ⟨fun _ => ?_, hK _ ?_⟩; (first | (go_at_call 111; exact callD hcl (KZ.out _)) | (go_at_call 116; exact callS hcl (KA.out _))); clear hK K)
  try rw [HD.out]
  quiet_step (first | (go_at_call 111; exact callD hcl (KZ.out _)) | (go_at_call 116; exact callS hcl (KA.out _)))
  try rw [HD.out]
  quiet_step (first | (go_at_call 111; exact callD hcl (KZ.out _)) | (go_at_call 116; exact callS hcl (KA.out _)))
  try rw [HD.out]
  with_reducible refine quiet_yes ?_ (fun K hK => ?_)
  · kernel_rfl
  go_simp
  first | (refine hK _ ?_; clear hK K) | (apply Exists.intro; refine ⟨fun _ => ?_, hK _ ?_⟩; (first | (go_at_call 111; exact callD hcl (KZ.out _)) | (go_at_call 116; exact callS hcl (KA.out _))); clear hK K)
  try rw [HD.out]
  with_reducible refine quiet_yes ?_ (fun K hK => ?_)
  · kernel_rfl
  go_simp
  first | (refine hK _ ?_; clear hK K) | (apply Exists.intro; refine ⟨fun _ => ?_, hK _ ?_⟩; (first | (go_at_call 111; exact callD hcl (KZ.out _)) | (go_at_call 116; exact callS hcl (KA.out _))); clear hK K)
  try rw [HD.out]
  with_reducible refine quiet_yes ?_ (fun K hK => ?_)
  · kernel_rfl
  go_simp
  first | (refine hK _ ?_; clear hK K) | (apply Exists.intro; refine ⟨fun _ => ?_, hK _ ?_⟩; (first | (go_at_call 111; exact callD hcl (KZ.out _)) | (go_at_call 116; exact callS hcl (KA.out _))); clear hK K)
  try rw [HD.out]
  with_reducible refine quiet_yes ?_ (fun K hK => ?_)
  · kernel_rfl
  go_simp
  first | (refine hK _ ?_; clear hK K) | (apply Exists.intro; refine ⟨fun _ => ?_, hK _ ?_⟩; (first | (go_at_call 111; exact callD hcl (KZ.out _)) | (go_at_call 116; exact callS hcl (KA.out _))); clear hK K)
  try rw [HD.out]
  with_reducible refine quiet_yes ?_ (fun K hK => ?_)
  · kernel_rfl
  go_simp
  first | (refine hK _ ?_; clear hK K) | (apply Exists.intro; refine ⟨fun _ => ?_, hK _ ?_⟩; (first | (go_at_call 111; exact callD hcl (KZ.out _)) | (go_at_call 116; exact callS hcl (KA.out _))); clear hK K)
  try rw [HD.out]
  quiet_step (first | (go_at_call 111; exact callD hcl (KZ.out _)) | (go_at_call 116; exact callS hcl (KA.out _)))
  try rw [HD.out]
  quiet_step (first | (go_at_call 111; exact callD hcl (KZ.out _)) | (go_at_call 116; exact callS hcl (KA.out _)))
  try rw [HD.out]
  with_reducible refine quiet_not ?_ ?_
  · kernel_rfl
  with_reducible refine quiet_not ?_ ?_
  · kernel_rfl
  with_reducible refine quiet_not ?_ ?_
  · kernel_rfl
  quiet_step (first | (go_at_call 111; exact callD hcl (KZ.out _)) | (go_at_call 116; exact callS hcl (KA.out _)))
  try rw [HD.out]
  quiet_step (first | (go_at_call 111; exact callD hcl (KZ.out _)) | (go_at_call 116; exact callS hcl (KA.out _)))
  try rw [HD.out]
  with_reducible refine quiet_not ?_ ?_
  · kernel_rfl
  with_reducible refine quiet_not ?_ ?_
  · kernel_rfl
  with_reducible refine quiet_not ?_ ?_
  · kernel_rfl
  with_reducible refine quiet_not ?_ ?_
  · kernel_rfl
  with_reducible refine quiet_not ?_ ?_
  · kernel_rfl
  quiet_step (first | (go_at_call 111; exact callD hcl (KZ.out _)) | (go_at_call 116; exact callS hcl (KA.out _)))
  try rw [HD.out]
  quiet_step (first | (go_at_call 111; exact callD hcl (KZ.out _)) | (go_at_call 116; exact callS hcl (KA.out _)))
  try rw [HD.out]
  refine wpQuiet_nil ?_
  intro _ hw'
  obtain ⟨iq, rfl⟩ := hw'
  clear hcl
  have E1 := Hb.mk (HB.out iq)
  go_wp2
  go_ret
  exact ⟨by simp, (by repeat (first | exact Below.refl _ _ | refine Below.on ?_ E1.out (by first | omega | (simp <;> omega)) | refine Below.drews ?_ | refine Below.drew ?_ | refine Below.alloc ?_ (by first | omega | (simp <;> omega)) _ | refine Below.setCell ?_ (by first | omega | (simp <;> omega)) _))⟩
theorem isValid_y0 {z : Nat} {x y : Int} (hz : z ≤ 20) (h1 : 0 ≤ x) (h2 : x < ((2 ^ z : Nat) : Int)) (h3 : ¬ 0 ≤ y) (w : World) : Calls Try.prog 112 #[tl (z : Int) x y] w (RS (.bool false) w) := by
  have KZ := Hb.mk (fun w => isZoom_any (i := (z : Int)) w)
  rw [show zoomB (z : Int) = true from decide_eq_true (by omega)] at KZ
  have KA := Hb.mk (fun w => across_any (x := x) (y := y) hz w)
  generalize ((2 ^ z : Nat) : Int) = p at *
  have HD := Hb.mk (show decide (0 ≤ y) = false from decide_eq_false h3)
  clear h3
  go_enter Try.func112, Try.ntmps112
  go_wp2
  refine region_all (by kernel_rfl) (by kernel_rfl) (fun I F hne HB hcl => ?_)
  have f0 := keepF HB (p := ⟨w.heap.size, 0, none⟩) (v := .int .i64 (z : Int)) (by simp [go_sem])
  have f1 := keepF HB (p := ⟨w.heap.size, 1, none⟩) (v := .int .i64 x) (by simp [go_sem])
  have f2 := keepF HB (p := ⟨w.heap.size, 2, none⟩) (v := .int .i64 y) (by simp [go_sem])
  quiet_step (first | (go_at_call 111; exact callD hcl (KZ.out _)) | (go_at_call 116; exact callS hcl (KA.out _)))
  quiet_step (first | (go_at_call 111; exact callD hcl (KZ.out _)) | (go_at_call 116; exact callS hcl (KA.out _)))
  quiet_step (first | (go_at_call 111; exact callD hcl (KZ.out _)) | (go_at_call 116; exact callS hcl (KA.out _)))
  quiet_step (first | (go_at_call 111; exact callD hcl (KZ.out _)) | (go_at_call 116; exact callS hcl (KA.out _)))
  with_reducible refine quiet_yes ?_ (fun K hK => ?_)
  · kernel_rfl
  go_simp
  first | (refine hK _ ?_; clear hK K) | (apply Exists.intro; refine ⟨fun _ => ?_, hK _ ?_⟩; (first | (go_at_call 111; exact callD hcl (KZ.out _)) | (go_at_call 116; exact callS hcl (KA.out _))); clear hK K)
  try rw [HD.out]
  with_reducible refine quiet_yes ?_ (fun K hK => ?_)
  · kernel_rfl
  go_simp
  first | (refine hK _ ?_; clear hK K) | (apply Exists.intro; refine ⟨fun _ => ?_, hK _ ?_⟩; (first | (go_at_call 111; exact callD hcl (KZ.out _)) | (go_at_call 116; exact callS hcl (KA.out _))); clear hK K)
  try rw [HD.out]
  with_reducible refine quiet_yes ?_ (fun K hK => ?_)
  · kernel_rfl
  go_simp
  first | (refine hK _ ?_; clear hK K) | (apply Exists.intro; refine ⟨fun _ => ?_, hK _ ?_⟩; (first | (go_at_call 111; exact callD hcl (KZ.out _)) | (go_at_call 116; exact callS hcl (KA.out _))); clear hK K)
  try rw [HD.out]
  quiet_step (first | (go_at_call 111; exact callD hcl (KZ.out _)) | (go_at_call 116; exact callS hcl (KA.out _)))
  try rw [HD.out]
  quiet_step (first | (go_at_call 111; exact callD hcl (KZ.out _)) | (go_at_call 116; exact callS hcl (KA.out _)))
  try rw [HD.out]
  with_reducible refine quiet_yes ?_ (fun K hK => ?_)
  · kernel_rfl
  go_simp
  first | (refine hK _ ?_; clear hK K) | (apply Exists.intro; refine ⟨fun _ => ?_, hK _ ?_⟩; (first | (go_at_call 111; exact callD hcl (KZ.out _)) | (go_at_call 116; exact callS hcl (KA.out _))); clear hK K)
  try rw [HD.out]
  with_reducible refine quiet_yes ?_ (fun K hK => ?_)
  · kernel_rfl
  go_simp
  first | (refine hK _ ?_; clear hK K) | (apply Exists.intro; refine ⟨fun _ => ?_, hK _ ?_⟩; (first | (go_at_call 111; exact callD hcl (KZ.out _)) | (go_at_call 116; exact callS hcl (KA.out _))); clear hK K)
  try rw [HD.out]
  with_reducible refine quiet_yes ?_ (fun K hK => ?_)
  · kernel_rfl
  go_simp
  first | (refine hK _ ?_; clear hK K) | (apply Exists.intro; refine ⟨fun _ => ?_, hK _ ?_⟩; (first | (go_at_call 111; exact callD hcl (KZ.out _)) | (go_at_call 116; exact callS hcl (KA.out _))); clear hK K)
  try rw [HD.out]
  with_reducible refine quiet_yes ?_ (fun K hK => ?_)
  · kernel_rfl
  go_simp
  first | (refine hK _ ?_; clear hK K) | (apply Exists.intro; refine ⟨fun _ => ?_, hK _ ?_⟩; (first | (go_at_call 111; exact callD hcl (KZ.out _)) | (go_at_call 116; exact callS hcl (KA.out _))); clear hK K)
  try rw [HD.out]
  with_reducible refine quiet_yes ?_ (fun K hK => ?_)
  · kernel_rfl
  go_simp
  first | (refine hK _ ?_; clear hK K) | (apply Exists.intro; refine ⟨fun _ => ?_, hK _ ?_⟩; (first | (go_at_call 111; exact callD hcl (KZ.out _)) | (go_at_call 116; exact callS hcl (KA.out _))); clear hK K)
  try rw [HD.out]
  quiet_step (first | (go_at_call 111; exact callD hcl (KZ.out _)) | (go_at_call 116; exact callS hcl (KA.out _)))
  try rw [HD.out]
  quiet_step (first | (go_at_call 111; exact callD hcl (KZ.out _)) | (go_at_call 116; exact callS hcl (KA.out _)))
  try rw [HD.out]
  with_reducible refine quiet_yes ?_ (fun K hK => ?_)
  · kernel_rfl
  go_simp
  first | (refine hK _ ?_; clear hK K) | (apply Exists.intro; refine ⟨fun _ => ?_, hK _ ?_⟩; (first | (go_at_call 111; exact callD hcl (KZ.out _)) | (go_at_call 116; exact callS hcl (KA.out _))); clear hK K)
  try rw [HD.out]
  with_reducible refine quiet_yes ?_ (fun K hK => ?_)
  · kernel_rfl
  go_simp
  first | (refine hK _ ?_; clear hK K) | (apply Exists.intro; refine ⟨fun _ => ?_, hK _ ?_⟩; (first | (go_at_call 111; exact callD hcl (KZ.out _)) | (go_at_call 116; exact callS hcl (KA.out _))); clear hK K)
  try rw [HD.out]
  with_reducible refine quiet_yes ?_ (fun K hK => ?_)
  · kernel_rfl
  go_simp
  first | (refine hK _ ?_; clear hK K) | (apply Exists.intro; refine ⟨fun _ => ?_, hK _ ?_⟩; (first | (go_at_call 111; exact callD hcl (KZ.out _)) | (go_at_call 116; exact callS hcl (KA.out _))); clear hK K)
  try rw [HD.out]
  quiet_step (first | (go_at_call 111; exact callD hcl (KZ.out _)) | (go_at_call 116; exact callS hcl (KA.out _)))
  try rw [HD.out]
  quiet_step (first | (go_at_call 111; exact callD hcl (KZ.out _)) | (go_at_call 116; exact callS hcl (KA.out _)))
  try rw [HD.out]
  with_reducible refine quiet_not ?_ ?_
  · kernel_rfl
  with_reducible refine quiet_not ?_ ?_
  · kernel_rfl
  with_reducible refine quiet_not ?_ ?_
  · kernel_rfl
  with_reducible refine quiet_not ?_ ?_
  · kernel_rfl
  with_reducible refine quiet_not ?_ ?_
  · kernel_rfl
  quiet_step (first | (go_at_call 111; exact callD hcl (KZ.out _)) | (go_at_call 116; exact callS hcl (KA.out _)))
  try rw [HD.out]
  quiet_step (first | (go_at_call 111; exact callD hcl (KZ.out _)) | (go_at_call 116; exact callS hcl (KA.out _)))
  try rw [HD.out]
  refine wpQuiet_nil ?_
  intro _ hw'
  obtain ⟨iq, rfl⟩ := hw'
  clear hcl
  have E1 := Hb.mk (HB.out iq)
  go_wp2
  go_ret
  exact ⟨by simp, (by repeat (first | exact Below.refl _ _ | refine Below.on ?_ E1.out (by first | omega | (simp <;> omega)) | refine Below.drews ?_ | refine Below.drew ?_ | refine Below.alloc ?_ (by first | omega | (simp <;> omega)) _ | refine Below.setCell ?_ (by first | omega | (simp <;> omega)) _))⟩
theorem isValid_y1 {z : Nat} {x y : Int} (hz : z ≤ 20) (h1 : 0 ≤ x) (h2 : x < ((2 ^ z : Nat) : Int)) (h3 : 0 ≤ y) (h4 : ¬ y < ((2 ^ z : Nat) : Int)) (w : World) : Calls Try.prog 112 #[tl (z : Int) x y] w (RS (.bool false) w) := by
  have KZ := Hb.mk (fun w => isZoom_any (i := (z : Int)) w)
  rw [show zoomB (z : Int) = true from decide_eq_true (by omega)] at KZ
  have KA := Hb.mk (fun w => across_any (x := x) (y := y) hz w)
  generalize ((2 ^ z : Nat) : Int) = p at *
  have HD := Hb.mk (show decide (y < p) = false from decide_eq_false h4)
  clear h4
  go_enter Try.func112, Try.ntmps112
  go_wp2
  refine region_all (by kernel_rfl) (by kernel_rfl) (fun I F hne HB hcl => ?_)
  have f0 := keepF HB (p := ⟨w.heap.size, 0, none⟩) (v := .int .i64 (z : Int)) (by simp [go_sem])
  have f1 := keepF HB (p := ⟨w.heap.size, 1, none⟩) (v := .int .i64 x) (by simp [go_sem])
  have f2 := keepF HB (p := ⟨w.heap.size, 2, none⟩) (v := .int .i64 y) (by simp [go_sem])
  quiet_step (first | (go_at_call 111; exact callD hcl (KZ.out _)) | (go_at_call 116; exact callS hcl (KA.out _)))
  quiet_step (first | (go_at_call 111; exact callD hcl (KZ.out _)) | (go_at_call 116; exact callS hcl (KA.out _)))
  quiet_step (first | (go_at_call 111; exact callD hcl (KZ.out _)) | (go_at_call 116; exact callS hcl (KA.out _)))
  quiet_step (first | (go_at_call 111; exact callD hcl (KZ.out _)) | (go_at_call 116; exact callS hcl (KA.out _)))
  with_reducible refine quiet_yes ?_ (fun K hK => ?_)
  · kernel_rfl
  go_simp
  first | (refine hK _ ?_; clear hK K) | (apply Exists.intro; refine ⟨fun _ => ?_, hK _ ?_⟩; (first | (go_at_call 111; exact callD hcl (KZ.out _)) | (go_at_call 116; exact callS hcl (KA.out _))); clear hK K)
  try rw [HD.out]
  with_reducible refine quiet_yes ?_ (fun K hK => ?_)
  · kernel_rfl
  go_simp
  first | (refine hK _ ?_; clear hK K) | (apply Exists.intro; refine ⟨fun _ => ?_, hK _ ?_⟩; (first | (go_at_call 111; exact callD hcl (KZ.out _)) | (go_at_call 116; exact callS hcl (KA.out _))); clear hK K)
  try rw [HD.out]
  with_reducible refine quiet_yes ?_ (fun K hK => ?_)
  · kernel_rfl
  go_simp
  first | (refine hK _ ?_; clear hK K) | (apply Exists.intro; refine ⟨fun _ => ?_, hK _ ?_⟩; (first | (go_at_call 111; exact callD hcl (KZ.out _)) | (go_at_call 116; exact callS hcl (KA.out _))); clear hK K)
  try rw [HD.out]
  quiet_step (first | (go_at_call 111; exact callD hcl (KZ.out _)) | (go_at_call 116; exact callS hcl (KA.out _)))
  try rw [HD.out]
  quiet_step (first | (go_at_call 111; exact callD hcl (KZ.out _)) | (go_at_call 116; exact callS hcl (KA.out _)))
  try rw [HD.out]
  with_reducible refine quiet_yes ?_ (fun K hK => ?_)
  · kernel_rfl
  go_simp
  first | (refine hK _ ?_; clear hK K) | (apply Exists.intro; refine ⟨fun _ => ?_, hK _ ?_⟩; (first | (go_at_call 111; exact callD hcl (KZ.out _)) | (go_at_call 116; exact callS hcl (KA.out _))); clear hK K)
  try rw [HD.out]
  with_reducible refine quiet_yes ?_ (fun K hK => ?_)
  · kernel_rfl
  go_simp
  first | (refine hK _ ?_; clear hK K) | (apply Exists.intro; refine ⟨fun _ => ?_, hK _ ?_⟩; (first | (go_at_call 111; exact callD hcl (KZ.out _)) | (go_at_call 116; exact callS hcl (KA.out _))); clear hK K)
  try rw [HD.out]
  with_reducible refine quiet_yes ?_ (fun K hK => ?_)
  · kernel_rfl
  go_simp
  first | (refine hK _ ?_; clear hK K) | (apply Exists.intro; refine ⟨fun _ => ?_, hK _ ?_⟩; (first | (go_at_call 111; exact callD hcl (KZ.out _)) | (go_at_call 116; exact callS hcl (KA.out _))); clear hK K)
  try rw [HD.out]
  with_reducible refine quiet_yes ?_ (fun K hK => ?_)
  · kernel_rfl
  go_simp
  first | (refine hK _ ?_; clear hK K) | (apply Exists.intro; refine ⟨fun _ => ?_, hK _ ?_⟩; (first | (go_at_call 111; exact callD hcl (KZ.out _)) | (go_at_call 116; exact callS hcl (KA.out _))); clear hK K)
  try rw [HD.out]
  with_reducible refine quiet_yes ?_ (fun K hK => ?_)
  · kernel_rfl
  go_simp
  first | (refine hK _ ?_; clear hK K) | (apply Exists.intro; refine ⟨fun _ => ?_, hK _ ?_⟩; (first | (go_at_call 111; exact callD hcl (KZ.out _)) | (go_at_call 116; exact callS hcl (KA.out _))); clear hK K)
  try rw [HD.out]
  quiet_step (first | (go_at_call 111; exact callD hcl (KZ.out _)) | (go_at_call 116; exact callS hcl (KA.out _)))
  try rw [HD.out]
  quiet_step (first | (go_at_call 111; exact callD hcl (KZ.out _)) | (go_at_call 116; exact callS hcl (KA.out _)))
  try rw [HD.out]
  with_reducible refine quiet_yes ?_ (fun K hK => ?_)
  · kernel_rfl
  go_simp
  first | (refine hK _ ?_; clear hK K) | (apply Exists.intro; refine ⟨fun _ => ?_, hK _ ?_⟩; (first | (go_at_call 111; exact callD hcl (KZ.out _)) | (go_at_call 116; exact callS hcl (KA.out _))); clear hK K)
  try rw [HD.out]
  with_reducible refine quiet_yes ?_ (fun K hK => ?_)
  · kernel_rfl
  go_simp
  first | (refine hK _ ?_; clear hK K) | (apply Exists.intro; refine ⟨fun _ => ?_, hK _ ?_⟩; (first | (go_at_call 111; exact callD hcl (KZ.out _)) | (go_at_call 116; exact callS hcl (KA.out _))); clear hK K)
  try rw [HD.out]
  with_reducible refine quiet_yes ?_ (fun K hK => ?_)
  · kernel_rfl
  go_simp
  first | (refine hK _ ?_; clear hK K) | (apply Exists.intro; refine ⟨fun _ => ?_, hK _ ?_⟩; (first | (go_at_call 111; exact callD hcl (KZ.out _)) | (go_at_call 116; exact callS hcl (KA.out _))); clear hK K)
  try rw [HD.out]
  quiet_step (first | (go_at_call 111; exact callD hcl (KZ.out _)) | (go_at_call 116; exact callS hcl (KA.out _)))
  try rw [HD.out]
  quiet_step (first | (go_at_call 111; exact callD hcl (KZ.out _)) | (go_at_call 116; exact callS hcl (KA.out _)))
  try rw [HD.out]
  with_reducible refine quiet_yes ?_ (fun K hK => ?_)
  · kernel_rfl
  go_simp
  first | (refine hK _ ?_; clear hK K) | (apply Exists.intro; refine ⟨fun _ => ?_, hK _ ?_⟩; (first | (go_at_call 111; exact callD hcl (KZ.out _)) | (go_at_call 116; exact callS hcl (KA.out _))); clear hK K)
  try rw [HD.out]
  with_reducible refine quiet_yes ?_ (fun K hK => ?_)
  · kernel_rfl
  go_simp
  first | (refine hK _ ?_; clear hK K) | (apply Exists.intro; refine ⟨fun _ => ?_, hK _ ?_⟩; (first | (go_at_call 111; exact callD hcl (KZ.out _)) | (go_at_call 116; exact callS hcl (KA.out _))); clear hK K)
  try rw [HD.out]
  with_reducible refine quiet_yes ?_ (fun K hK => ?_)
  · kernel_rfl
  go_simp
  first | (refine hK _ ?_; clear hK K) | (apply Exists.intro; refine ⟨fun _ => ?_, hK _ ?_⟩; (first | (go_at_call 111; exact callD hcl (KZ.out _)) | (go_at_call 116; exact callS hcl (KA.out _))); clear hK K)
  try rw [HD.out]
  with_reducible refine quiet_yes ?_ (fun K hK => ?_)
  · kernel_rfl
  go_simp
  first | (refine hK _ ?_; clear hK K) | (apply Exists.intro; refine ⟨fun _ => ?_, hK _ ?_⟩; (first | (go_at_call 111; exact callD hcl (KZ.out _)) | (go_at_call 116; exact callS hcl (KA.out _))); clear hK K)
  try rw [HD.out]
  with_reducible refine quiet_yes ?_ (fun K hK => ?_)
  · kernel_rfl
  go_simp
  first | (refine hK _ ?_; clear hK K) | (apply Exists.intro; refine ⟨fun _ => ?_, hK _ ?_⟩; (first | (go_at_call 111; exact callD hcl (KZ.out _)) | (go_at_call 116; exact callS hcl (KA.out _))); clear hK K)
  try rw [HD.out]
  quiet_step (first | (go_at_call 111; exact callD hcl (KZ.out _)) | (go_at_call 116; exact callS hcl (KA.out _)))
  try rw [HD.out]
  quiet_step (first | (go_at_call 111; exact callD hcl (KZ.out _)) | (go_at_call 116; exact callS hcl (KA.out _)))
  try rw [HD.out]
  refine wpQuiet_nil ?_
  intro _ hw'
  obtain ⟨iq, rfl⟩ := hw'
  clear hcl
  have E1 := Hb.mk (HB.out iq)
  go_wp2
  go_ret
  exact ⟨by simp, (by repeat (first | exact Below.refl _ _ | refine Below.on ?_ E1.out (by first | omega | (simp <;> omega)) | refine Below.drews ?_ | refine Below.drew ?_ | refine Below.alloc ?_ (by first | omega | (simp <;> omega)) _ | refine Below.setCell ?_ (by first | omega | (simp <;> omega)) _))⟩
theorem isValid_yes {z : Nat} {x y : Int} (hz : z ≤ 20) (h1 : 0 ≤ x) (h2 : x < ((2 ^ z : Nat) : Int)) (h3 : 0 ≤ y) (h4 : y < ((2 ^ z : Nat) : Int)) (w : World) : Calls Try.prog 112 #[tl (z : Int) x y] w (RS (.bool true) w) := by
  have KZ := Hb.mk (fun w => isZoom_any (i := (z : Int)) w)
  rw [show zoomB (z : Int) = true from decide_eq_true (by omega)] at KZ
  have KA := Hb.mk (fun w => across_any (x := x) (y := y) hz w)
  generalize ((2 ^ z : Nat) : Int) = p at *
  go_enter Try.func112, Try.ntmps112
  go_wp2
  refine region_all (by kernel_rfl) (by kernel_rfl) (fun I F hne HB hcl => ?_)
  have f0 := keepF HB (p := ⟨w.heap.size, 0, none⟩) (v := .int .i64 (z : Int)) (by simp [go_sem])
  have f1 := keepF HB (p := ⟨w.heap.size, 1, none⟩) (v := .int .i64 x) (by simp [go_sem])
  have f2 := keepF HB (p := ⟨w.heap.size, 2, none⟩) (v := .int .i64 y) (by simp [go_sem])
  quiet_step (first | (go_at_call 111; exact callD hcl (KZ.out _)) | (go_at_call 116; exact callS hcl (KA.out _)))
  quiet_step (first | (go_at_call 111; exact callD hcl (KZ.out _)) | (go_at_call 116; exact callS hcl (KA.out _)))
  quiet_step (first | (go_at_call 111; exact callD hcl (KZ.out _)) | (go_at_call 116; exact callS hcl (KA.out _)))
  quiet_step (first | (go_at_call 111; exact callD hcl (KZ.out _)) | (go_at_call 116; exact callS hcl (KA.out _)))
  with_reducible refine quiet_yes ?_ (fun K hK => ?_)
  · kernel_rfl
  go_simp
  first | (refine hK _ ?_; clear hK K) | (apply Exists.intro; refine ⟨fun _ => ?_, hK _ ?_⟩; (first | (go_at_call 111; exact callD hcl (KZ.out _)) | (go_at_call 116; exact callS hcl (KA.out _))); clear hK K)
  with_reducible refine quiet_yes ?_ (fun K hK => ?_)
  · kernel_rfl
  go_simp
  first | (refine hK _ ?_; clear hK K) | (apply Exists.intro; refine ⟨fun _ => ?_, hK _ ?_⟩; (first | (go_at_call 111; exact callD hcl (KZ.out _)) | (go_at_call 116; exact callS hcl (KA.out _))); clear hK K)
  with_reducible refine quiet_yes ?_ (fun K hK => ?_)
  · kernel_rfl
  go_simp
  first | (refine hK _ ?_; clear hK K) | (apply Exists.intro; refine ⟨fun _ => ?_, hK _ ?_⟩; (first | (go_at_call 111; exact callD hcl (KZ.out _)) | (go_at_call 116; exact callS hcl (KA.out _))); clear hK K)
  quiet_step (first | (go_at_call 111; exact callD hcl (KZ.out _)) | (go_at_call 116; exact callS hcl (KA.out _)))
  quiet_step (first | (go_at_call 111; exact callD hcl (KZ.out _)) | (go_at_call 116; exact callS hcl (KA.out _)))
  with_reducible refine quiet_yes ?_ (fun K hK => ?_)
  · kernel_rfl
  go_simp
  first | (refine hK _ ?_; clear hK K) | (apply Exists.intro; refine ⟨fun _ => ?_, hK _ ?_⟩; (first | (go_at_call 111; exact callD hcl (KZ.out _)) | (go_at_call 116; exact callS hcl (KA.out _))); clear hK K)
  with_reducible refine quiet_yes ?_ (fun K hK => ?_)
  · kernel_rfl
  go_simp
  first | (refine hK _ ?_; clear hK K) | (apply Exists.intro; refine ⟨fun _ => ?_, hK _ ?_⟩; (first | (go_at_call 111; exact callD hcl (KZ.out _)) | (go_at_call 116; exact callS hcl (KA.out _))); clear hK K)
  with_reducible refine quiet_yes ?_ (fun K hK => ?_)
  · kernel_rfl
  go_simp
  first | (refine hK _ ?_; clear hK K) | (apply Exists.intro; refine ⟨fun _ => ?_, hK _ ?_⟩; (first | (go_at_call 111; exact callD hcl (KZ.out _)) | (go_at_call 116; exact callS hcl (KA.out _))); clear hK K)
  with_reducible refine quiet_yes ?_ (fun K hK => ?_)
  · kernel_rfl
  go_simp
  first | (refine hK _ ?_; clear hK K) | (apply Exists.intro; refine ⟨fun _ => ?_, hK _ ?_⟩; (first | (go_at_call 111; exact callD hcl (KZ.out _)) | (go_at_call 116; exact callS hcl (KA.out _))); clear hK K)
  with_reducible refine quiet_yes ?_ (fun K hK => ?_)
  · kernel_rfl
  go_simp
  first | (refine hK _ ?_; clear hK K) | (apply Exists.intro; refine ⟨fun _ => ?_, hK _ ?_⟩; (first | (go_at_call 111; exact callD hcl (KZ.out _)) | (go_at_call 116; exact callS hcl (KA.out _))); clear hK K)
  quiet_step (first | (go_at_call 111; exact callD hcl (KZ.out _)) | (go_at_call 116; exact callS hcl (KA.out _)))
  quiet_step (first | (go_at_call 111; exact callD hcl (KZ.out _)) | (go_at_call 116; exact callS hcl (KA.out _)))
  with_reducible refine quiet_yes ?_ (fun K hK => ?_)
  · kernel_rfl
  go_simp
  first | (refine hK _ ?_; clear hK K) | (apply Exists.intro; refine ⟨fun _ => ?_, hK _ ?_⟩; (first | (go_at_call 111; exact callD hcl (KZ.out _)) | (go_at_call 116; exact callS hcl (KA.out _))); clear hK K)
  with_reducible refine quiet_yes ?_ (fun K hK => ?_)
  · kernel_rfl
  go_simp
  first | (refine hK _ ?_; clear hK K) | (apply Exists.intro; refine ⟨fun _ => ?_, hK _ ?_⟩; (first | (go_at_call 111; exact callD hcl (KZ.out _)) | (go_at_call 116; exact callS hcl (KA.out _))); clear hK K)
  with_reducible refine quiet_yes ?_ (fun K hK => ?_)
  · kernel_rfl
  go_simp
  first | (refine hK _ ?_; clear hK K) | (apply Exists.intro; refine ⟨fun _ => ?_, hK _ ?_⟩; (first | (go_at_call 111; exact callD hcl (KZ.out _)) | (go_at_call 116; exact callS hcl (KA.out _))); clear hK K)
  quiet_step (first | (go_at_call 111; exact callD hcl (KZ.out _)) | (go_at_call 116; exact callS hcl (KA.out _)))
  quiet_step (first | (go_at_call 111; exact callD hcl (KZ.out _)) | (go_at_call 116; exact callS hcl (KA.out _)))
  with_reducible refine quiet_yes ?_ (fun K hK => ?_)
  · kernel_rfl
  go_simp
  first | (refine hK _ ?_; clear hK K) | (apply Exists.intro; refine ⟨fun _ => ?_, hK _ ?_⟩; (first | (go_at_call 111; exact callD hcl (KZ.out _)) | (go_at_call 116; exact callS hcl (KA.out _))); clear hK K)
  with_reducible refine quiet_yes ?_ (fun K hK => ?_)
  · kernel_rfl
  go_simp
  first | (refine hK _ ?_; clear hK K) | (apply Exists.intro; refine ⟨fun _ => ?_, hK _ ?_⟩; (first | (go_at_call 111; exact callD hcl (KZ.out _)) | (go_at_call 116; exact callS hcl (KA.out _))); clear hK K)
  with_reducible refine quiet_yes ?_ (fun K hK => ?_)
  · kernel_rfl
  go_simp
  first | (refine hK _ ?_; clear hK K) | (apply Exists.intro; refine ⟨fun _ => ?_, hK _ ?_⟩; (first | (go_at_call 111; exact callD hcl (KZ.out _)) | (go_at_call 116; exact callS hcl (KA.out _))); clear hK K)
  with_reducible refine quiet_yes ?_ (fun K hK => ?_)
  · kernel_rfl
  go_simp
  first | (refine hK _ ?_; clear hK K) | (apply Exists.intro; refine ⟨fun _ => ?_, hK _ ?_⟩; (first | (go_at_call 111; exact callD hcl (KZ.out _)) | (go_at_call 116; exact callS hcl (KA.out _))); clear hK K)
  with_reducible refine quiet_yes ?_ (fun K hK => ?_)
  · kernel_rfl
  go_simp
  first | (refine hK _ ?_; clear hK K) | (apply Exists.intro; refine ⟨fun _ => ?_, hK _ ?_⟩; (first | (go_at_call 111; exact callD hcl (KZ.out _)) | (go_at_call 116; exact callS hcl (KA.out _))); clear hK K)
  quiet_step (first | (go_at_call 111; exact callD hcl (KZ.out _)) | (go_at_call 116; exact callS hcl (KA.out _)))
  quiet_step (first | (go_at_call 111; exact callD hcl (KZ.out _)) | (go_at_call 116; exact callS hcl (KA.out _)))
  refine wpQuiet_nil ?_
  intro _ hw'
  obtain ⟨iq, rfl⟩ := hw'
  clear hcl
  have E1 := Hb.mk (HB.out iq)
  go_wp2
  go_ret
  exact ⟨by simp, (by repeat (first | exact Below.refl _ _ | refine Below.on ?_ E1.out (by first | omega | (simp <;> omega)) | refine Below.drews ?_ | refine Below.drew ?_ | refine Below.alloc ?_ (by first | omega | (simp <;> omega)) _ | refine Below.setCell ?_ (by first | omega | (simp <;> omega)) _))⟩
/-- Whether there is this tile. -/
def tileB (z x y : Int) : Bool := zoomB z && (decide (0 ≤ x ∧ x < ((2 ^ z.toNat : Nat) : Int)) && decide (0 ≤ y ∧ y < ((2 ^ z.toNat : Nat) : Int)))
theorem zoom_nat {z : Int} (h : zoomB z = true) : ∃ n : Nat, z = (n : Int) ∧ n ≤ 20 := by
  unfold zoomB at h
  rw [decide_eq_true_eq] at h
  exact ⟨z.toNat, by omega, by omega⟩
theorem isValid_bad {z x y : Int} (hz : zoomB z = false) (w : World) : Calls Try.prog 112 #[tl z x y] w (RS (.bool false) w) := by
  have KZ := Hb.mk (fun w => isZoom_any (i := z) w)
  rw [hz] at KZ
  go_enter Try.func112, Try.ntmps112
  go_wp2
  refine region_all (by kernel_rfl) (by kernel_rfl) (fun I F hne HB hcl => ?_)
  have f0 := keepF HB (p := ⟨w.heap.size, 0, none⟩) (v := .int .i64 z) (by simp [go_sem])
  have f1 := keepF HB (p := ⟨w.heap.size, 1, none⟩) (v := .int .i64 x) (by simp [go_sem])
  have f2 := keepF HB (p := ⟨w.heap.size, 2, none⟩) (v := .int .i64 y) (by simp [go_sem])
  quiet_step (first | (go_at_call 111; exact callD hcl (KZ.out _)))
  quiet_step (first | (go_at_call 111; exact callD hcl (KZ.out _)))
  quiet_step (first | (go_at_call 111; exact callD hcl (KZ.out _)))
  quiet_step (first | (go_at_call 111; exact callD hcl (KZ.out _)))
  with_reducible refine quiet_not ?_ ?_
  · kernel_rfl
  with_reducible refine quiet_not ?_ ?_
  · kernel_rfl
  with_reducible refine quiet_not ?_ ?_
  · kernel_rfl
  quiet_step (first | (go_at_call 111; exact callD hcl (KZ.out _)))
  quiet_step (first | (go_at_call 111; exact callD hcl (KZ.out _)))
  with_reducible refine quiet_not ?_ ?_
  · kernel_rfl
  with_reducible refine quiet_not ?_ ?_
  · kernel_rfl
  with_reducible refine quiet_not ?_ ?_
  · kernel_rfl
  with_reducible refine quiet_not ?_ ?_
  · kernel_rfl
  with_reducible refine quiet_not ?_ ?_
  · kernel_rfl
  quiet_step (first | (go_at_call 111; exact callD hcl (KZ.out _)))
  quiet_step (first | (go_at_call 111; exact callD hcl (KZ.out _)))
  with_reducible refine quiet_not ?_ ?_
  · kernel_rfl
  with_reducible refine quiet_not ?_ ?_
  · kernel_rfl
  with_reducible refine quiet_not ?_ ?_
  · kernel_rfl
  quiet_step (first | (go_at_call 111; exact callD hcl (KZ.out _)))
  quiet_step (first | (go_at_call 111; exact callD hcl (KZ.out _)))
  with_reducible refine quiet_not ?_ ?_
  · kernel_rfl
  with_reducible refine quiet_not ?_ ?_
  · kernel_rfl
  with_reducible refine quiet_not ?_ ?_
  · kernel_rfl
  with_reducible refine quiet_not ?_ ?_
  · kernel_rfl
  with_reducible refine quiet_not ?_ ?_
  · kernel_rfl
  quiet_step (first | (go_at_call 111; exact callD hcl (KZ.out _)))
  quiet_step (first | (go_at_call 111; exact callD hcl (KZ.out _)))
  refine wpQuiet_nil ?_
  intro _ hw'
  obtain ⟨iq, rfl⟩ := hw'
  clear hcl
  have E1 := Hb.mk (HB.out iq)
  go_wp2
  go_ret
  exact ⟨by simp, (by repeat (first | exact Below.refl _ _ | refine Below.on ?_ E1.out (by first | omega | (simp <;> omega)) | refine Below.drews ?_ | refine Below.drew ?_ | refine Below.alloc ?_ (by first | omega | (simp <;> omega)) _ | refine Below.setCell ?_ (by first | omega | (simp <;> omega)) _))⟩
theorem isValid_any {z x y : Int} (w : World) : Calls Try.prog 112 #[tl z x y] w (RS (.bool (tileB z x y)) w) := by
  cases hz : zoomB z
  · rw [show tileB z x y = false by unfold tileB; rw [hz]; rfl]
    exact isValid_bad hz w
  · obtain ⟨n, rfl, hn⟩ := zoom_nat hz
    have e : tileB (n : Int) x y = (decide (0 ≤ x ∧ x < ((2 ^ n : Nat) : Int)) && decide (0 ≤ y ∧ y < ((2 ^ n : Nat) : Int))) := by
      unfold tileB; rw [hz, Bool.true_and, Int.toNat_natCast]
    rw [e]
    by_cases h1 : 0 ≤ x
    · by_cases h2 : x < ((2 ^ n : Nat) : Int)
      · rw [decide_eq_true (show 0 ≤ x ∧ x < ((2 ^ n : Nat) : Int) from ⟨h1, h2⟩), Bool.true_and]
        by_cases h3 : 0 ≤ y
        · by_cases h4 : y < ((2 ^ n : Nat) : Int)
          · rw [decide_eq_true (show 0 ≤ y ∧ y < ((2 ^ n : Nat) : Int) from ⟨h3, h4⟩)]
            exact isValid_yes hn h1 h2 h3 h4 w
          · rw [decide_eq_false (fun h => h4 h.2)]
            exact isValid_y1 hn h1 h2 h3 h4 w
        · rw [decide_eq_false (fun h => h3 h.1)]
          exact isValid_y0 hn h1 h2 h3 w
      · rw [decide_eq_false (fun h => h2 h.2), Bool.false_and]
        exact isValid_x1 hn h1 h2 w
    · rw [decide_eq_false (fun h => h1 h.1), Bool.false_and]
      exact isValid_x0 hn h1 w
abbrev stT' (s : ByteArray) (ok : Bool) : Value := .tuple #[.string s, .bool ok]
def tkeyS (z x y : Int) : ByteArray := if tileB z x y = true then keyS z.toNat x.toNat y.toNat else ⟨#[]⟩
theorem tile_nat {z x y : Int} (h : tileB z x y = true) : ∃ n X Y : Nat, z = (n : Int) ∧ x = (X : Int) ∧ y = (Y : Int) ∧ n ≤ 20 ∧ X < 2 ^ n ∧ Y < 2 ^ n := by
  have h' := h
  unfold tileB at h
  rw [Bool.and_eq_true, Bool.and_eq_true, decide_eq_true_eq, decide_eq_true_eq] at h
  obtain ⟨n, rfl, hn⟩ := zoom_nat h.1
  rw [Int.toNat_natCast] at h
  exact ⟨n, x.toNat, y.toNat, rfl, by omega, by omega, hn, by omega, by omega⟩
theorem keyOfTile_any {z x y : Int} (w : World) : Calls Try.prog 67 #[tl z x y] w (RS (stT' (tkeyS z x y) (tileB z x y)) w) := by
  have KV := Hf.mk (fun w => isValid_any (z := z) (x := x) (y := y) w)
  have B0 := Hb.mk (Below.refl w.heap.size w)
  cases hb : tileB z x y
  · rw [hb] at KV
    have KS := Hf.mk (show tkeyS z x y = ⟨#[]⟩ by unfold tkeyS; rw [hb]; rfl)
    go_enter Try.func67, Try.ntmps67
    go_wp2_with (first | (go_at_call 112; refine (KV.out _).mono ?_; rintro e w1 ⟨rfl, b1⟩; have B1 := Hb.mk (Below.on (B := w.heap.size) (a := w) (by repeat (first | exact B0.out | refine Below.drews ?_ | refine Below.drew ?_ | refine Below.alloc ?_ (by have hq_ := B0.out.size; first | omega | (simp <;> omega)) _ | refine Below.setCell ?_ (by have hq_ := B0.out.size; first | omega | (simp <;> omega)) _)) b1 (by have hq_ := B0.out.size; first | omega | (simp <;> omega))); clear b1))
    go_ret2
    rw [KS.out]
    exact ⟨rfl, (by repeat (first | exact B1.out | refine Below.drews ?_ | refine Below.drew ?_ | refine Below.alloc ?_ (by have hq_ := B1.out.size; first | omega | (simp <;> omega)) _ | refine Below.setCell ?_ (by have hq_ := B1.out.size; first | omega | (simp <;> omega)) _))⟩
  · rw [hb] at KV
    have KS := Hf.mk (show tkeyS z x y = keyS z.toNat x.toNat y.toNat by unfold tkeyS; rw [hb]; rfl)
    obtain ⟨n, X, Y, rfl, rfl, rfl, h1, h2, h3⟩ := tile_nat hb
    simp only [Int.toNat_natCast] at KS
    have hp := two20' h1
    have KK := Hf.mk (fun w => key_any (z := n) (X := X) (Y := Y) h1 (by omega) (by omega) w)
    generalize keyS n X Y = K at *
    clear hb hp h1 h2 h3
    go_enter Try.func67, Try.ntmps67
    go_wp2_with (first | (go_at_call 112; refine (KV.out _).mono ?_; rintro e w1 ⟨rfl, b1⟩; have B1 := Hb.mk (Below.on (B := w.heap.size) (a := w) (by repeat (first | exact B0.out | refine Below.drews ?_ | refine Below.drew ?_ | refine Below.alloc ?_ (by have hq_ := B0.out.size; first | omega | (simp <;> omega)) _ | refine Below.setCell ?_ (by have hq_ := B0.out.size; first | omega | (simp <;> omega)) _)) b1 (by have hq_ := B0.out.size; first | omega | (simp <;> omega))); have p0 := Hb.mk (At.keep b1 (p := ⟨(w.heap.size), 0, none⟩) (v := .int .i64 (n : Int)) (by simp [go_sem]) (by simp [go_sem])); obtain ⟨p0c, p0z, p0l⟩ := p0.out; have p1 := Hb.mk (At.keep b1 (p := ⟨(w.heap.size), 1, none⟩) (v := .int .i64 (X : Int)) (by simp [go_sem]) (by simp [go_sem])); obtain ⟨p1c, p1z, p1l⟩ := p1.out; have p2 := Hb.mk (At.keep b1 (p := ⟨(w.heap.size), 2, none⟩) (v := .int .i64 (Y : Int)) (by simp [go_sem]) (by simp [go_sem])); obtain ⟨p2c, p2z, p2l⟩ := p2.out; clear b1) | (go_at_call 88; refine (KK.out _).mono ?_; rintro e w2 ⟨rfl, b2⟩; have B2 := Hb.mk (Below.on (B := w.heap.size) (a := w) (by repeat (first | exact B1.out | refine Below.drews ?_ | refine Below.drew ?_ | refine Below.alloc ?_ (by have hq_ := B1.out.size; first | omega | (simp <;> omega)) _ | refine Below.setCell ?_ (by have hq_ := B1.out.size; first | omega | (simp <;> omega)) _)) b2 (by have hq_ := B1.out.size; first | omega | (simp <;> omega))); clear b2))
    go_ret2
    rw [KS.out]
    exact ⟨rfl, (by repeat (first | exact B2.out | refine Below.drews ?_ | refine Below.drew ?_ | refine Below.alloc ?_ (by have hq_ := B2.out.size; first | omega | (simp <;> omega)) _ | refine Below.setCell ?_ (by have hq_ := B2.out.size; first | omega | (simp <;> omega)) _))⟩
theorem iTileKey_any {z x y : Int} (w : World) : Calls Try.prog 18 #[.int .i64 z, .int .i64 x, .int .i64 y] w (RS (stT' (tkeyS z x y) (tileB z x y)) w) := by
  have KK := Hf.mk (fun w => keyOfTile_any (z := z) (x := x) (y := y) w)
  have B0 := Hb.mk (Below.refl w.heap.size w)
  generalize tkeyS z x y = s at *
  generalize tileB z x y = b at *
  go_enter Try.func18, Try.ntmps18
  go_wp2_with (first | (go_at_call 67; refine (KK.out _).mono ?_; rintro e w1 ⟨rfl, b1⟩; have B1 := Hb.mk (Below.on (B := w.heap.size) (a := w) (by repeat (first | exact B0.out | refine Below.drews ?_ | refine Below.drew ?_ | refine Below.alloc ?_ (by have hq_ := B0.out.size; first | omega | (simp <;> omega)) _ | refine Below.setCell ?_ (by have hq_ := B0.out.size; first | omega | (simp <;> omega)) _)) b1 (by have hq_ := B0.out.size; first | omega | (simp <;> omega))); clear b1))
  go_ret2
  exact ⟨rfl, (by repeat (first | exact B1.out | refine Below.drews ?_ | refine Below.drew ?_ | refine Below.alloc ?_ (by have hq_ := B1.out.size; first | omega | (simp <;> omega)) _ | refine Below.setCell ?_ (by have hq_ := B1.out.size; first | omega | (simp <;> omega)) _))⟩
theorem l07Zoom_any {i : Int} (w : World) : Calls Try.prog 63 #[.int .i64 i] w (RT (.bool (zoomB i)) w) := by
  by_cases h : 0 ≤ i ∧ i ≤ 20
  · rw [show zoomB i = true from decide_eq_true h]
    go_enter Try.func63, Try.ntmps63
    go_wp2_with (first | (go_at_call 68; refine (l00In_yes h.1 h.2 _).mono ?_; rintro e w' ⟨rfl, n1, rfl⟩))
    go_ret
    exact ⟨rfl, (by repeat (first | exact Drew.refl _ | refine Drew.more ?_))⟩
  · have h' : i < 0 ∨ 20 < i := by omega
    rw [show zoomB i = false from decide_eq_false h]
    go_enter Try.func63, Try.ntmps63
    go_wp2_with (first | (go_at_call 68; refine (l00In_no h' _).mono ?_; rintro e w' ⟨rfl, n1, rfl⟩))
    go_ret
    exact ⟨rfl, (by repeat (first | exact Drew.refl _ | refine Drew.more ?_))⟩
end Go.Proofs.Ytgbcgckkjhgchab
