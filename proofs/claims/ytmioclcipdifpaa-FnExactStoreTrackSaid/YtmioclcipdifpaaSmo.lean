/-
  Same places behind pointers into lists, of the model. No condition.
-/
import Derived.Test.YtmioclcipdifpaaSam
namespace Go.Proofs.Ytmioclcipdifpaa
open Go Go.RowKit
set_option maxRecDepth 100000

set_option maxHeartbeats 2000000 in
theorem l02SameAt_any {n e m f a b c d p q u o : Nat} (h1 : Fl .f32 n a) (h2 : Fl .f32 e b) (h3 : Fl .f32 m c) (h4 : Fl .f32 f d) (w : World) (c1 : w.cell? ⟨p, u, none⟩ = some (.float .f32 a)) (c2 : w.cell? ⟨p, u + 1, none⟩ = some (.float .f32 b)) (c3 : w.cell? ⟨q, o, none⟩ = some (.float .f32 c)) (c4 : w.cell? ⟨q, o + 1, none⟩ = some (.float .f32 d)) :
    Calls Try.prog 31 #[.pointer (some ⟨p, u, none⟩), .pointer (some ⟨q, o, none⟩)] w (RS (.bool (sameC n e m f)) w) := by
  have K1 := Hb.mk (fun w => l01Same_any h1 h3 w)
  have K2 := Hb.mk (fun w => l01Same_any h2 h4 w)
  have KV := Hb.mk (show (((n : Int) == (m : Int)) && ((e : Int) == (f : Int))) = sameC n e m f from by unfold sameC; rfl)
  clear h1 h2 h3 h4
  have B0 := Hb.mk (Below.refl w.heap.size w)
  generalize ((e : Int) == (f : Int)) = v at *
  cases hu : ((n : Int) == (m : Int))
  · rw [hu] at K1 KV
    go_enter Try.func31, Try.ntmps31
    go_wp2
    refine region_all (by kernel_rfl) (by kernel_rfl) (fun I F hne HB hcl => ?_)
    have f1 := keepF HB c1
    have f2 := keepF HB c2
    have f3 := keepF HB c3
    have f4 := keepF HB c4
    quiet_step (first | (go_at_call_of 42 (Value.float .f32 a); exact callD hcl (K1.out _)) | (go_at_call_of 42 (Value.float .f32 b); exact callD hcl (K2.out _)))
    quiet_step (first | (go_at_call_of 42 (Value.float .f32 a); exact callD hcl (K1.out _)) | (go_at_call_of 42 (Value.float .f32 b); exact callD hcl (K2.out _)))
    quiet_step (first | (go_at_call_of 42 (Value.float .f32 a); exact callD hcl (K1.out _)) | (go_at_call_of 42 (Value.float .f32 b); exact callD hcl (K2.out _)))
    quiet_step (first | (go_at_call_of 42 (Value.float .f32 a); exact callD hcl (K1.out _)) | (go_at_call_of 42 (Value.float .f32 b); exact callD hcl (K2.out _)))
    quiet_step (first | (go_at_call_of 42 (Value.float .f32 a); exact callD hcl (K1.out _)) | (go_at_call_of 42 (Value.float .f32 b); exact callD hcl (K2.out _)))
    quiet_step (first | (go_at_call_of 42 (Value.float .f32 a); exact callD hcl (K1.out _)) | (go_at_call_of 42 (Value.float .f32 b); exact callD hcl (K2.out _)))
    quiet_step (first | (go_at_call_of 42 (Value.float .f32 a); exact callD hcl (K1.out _)) | (go_at_call_of 42 (Value.float .f32 b); exact callD hcl (K2.out _)))
    quiet_step (first | (go_at_call_of 42 (Value.float .f32 a); exact callD hcl (K1.out _)) | (go_at_call_of 42 (Value.float .f32 b); exact callD hcl (K2.out _)))
    quiet_step (first | (go_at_call_of 42 (Value.float .f32 a); exact callD hcl (K1.out _)) | (go_at_call_of 42 (Value.float .f32 b); exact callD hcl (K2.out _)))
    quiet_step (first | (go_at_call_of 42 (Value.float .f32 a); exact callD hcl (K1.out _)) | (go_at_call_of 42 (Value.float .f32 b); exact callD hcl (K2.out _)))
    with_reducible refine quiet_not ?_ ?_
    · kernel_rfl
    with_reducible refine quiet_not ?_ ?_
    · kernel_rfl
    with_reducible refine quiet_not ?_ ?_
    · kernel_rfl
    with_reducible refine quiet_not ?_ ?_
    · kernel_rfl
    with_reducible refine quiet_not ?_ ?_
    · kernel_rfl
    with_reducible refine quiet_not ?_ ?_
    · kernel_rfl
    with_reducible refine quiet_not ?_ ?_
    · kernel_rfl
    with_reducible refine quiet_not ?_ ?_
    · kernel_rfl
    with_reducible refine quiet_not ?_ ?_
    · kernel_rfl
    with_reducible refine quiet_yes ?_ (fun K hK => ?_)
    · kernel_rfl
    go_simp
    first | (refine hK _ ?_; clear hK K) | (apply Exists.intro; refine ⟨fun _ => ?_, hK _ ?_⟩; (first | (go_at_call_of 42 (Value.float .f32 a); exact callD hcl (K1.out _)) | (go_at_call_of 42 (Value.float .f32 b); exact callD hcl (K2.out _))); clear hK K)
    with_reducible refine quiet_yes ?_ (fun K hK => ?_)
    · kernel_rfl
    go_simp
    first | (refine hK _ ?_; clear hK K) | (apply Exists.intro; refine ⟨fun _ => ?_, hK _ ?_⟩; (first | (go_at_call_of 42 (Value.float .f32 a); exact callD hcl (K1.out _)) | (go_at_call_of 42 (Value.float .f32 b); exact callD hcl (K2.out _))); clear hK K)
    refine wpQuiet_nil ?_
    intro _ hw'
    obtain ⟨iq, rfl⟩ := hw'
    clear hcl
    have E1 := Hb.mk (HB.out iq)
    go_wp2
    go_ret
    rw [← KV.out]
    exact ⟨by simp, (by repeat (first | exact Below.refl _ _ | refine Below.on ?_ E1.out (by first | omega | (simp <;> omega)) | exact B0.out | refine Below.drews ?_ | refine Below.drew ?_ | refine Below.alloc ?_ (by first | omega | (simp <;> omega)) _ | refine Below.setCell ?_ (by first | omega | (simp <;> omega)) _))⟩
  · rw [hu] at K1 KV
    go_enter Try.func31, Try.ntmps31
    go_wp2
    refine region_all (by kernel_rfl) (by kernel_rfl) (fun I F hne HB hcl => ?_)
    have f1 := keepF HB c1
    have f2 := keepF HB c2
    have f3 := keepF HB c3
    have f4 := keepF HB c4
    quiet_step (first | (go_at_call_of 42 (Value.float .f32 a); exact callD hcl (K1.out _)) | (go_at_call_of 42 (Value.float .f32 b); exact callD hcl (K2.out _)))
    quiet_step (first | (go_at_call_of 42 (Value.float .f32 a); exact callD hcl (K1.out _)) | (go_at_call_of 42 (Value.float .f32 b); exact callD hcl (K2.out _)))
    quiet_step (first | (go_at_call_of 42 (Value.float .f32 a); exact callD hcl (K1.out _)) | (go_at_call_of 42 (Value.float .f32 b); exact callD hcl (K2.out _)))
    quiet_step (first | (go_at_call_of 42 (Value.float .f32 a); exact callD hcl (K1.out _)) | (go_at_call_of 42 (Value.float .f32 b); exact callD hcl (K2.out _)))
    quiet_step (first | (go_at_call_of 42 (Value.float .f32 a); exact callD hcl (K1.out _)) | (go_at_call_of 42 (Value.float .f32 b); exact callD hcl (K2.out _)))
    quiet_step (first | (go_at_call_of 42 (Value.float .f32 a); exact callD hcl (K1.out _)) | (go_at_call_of 42 (Value.float .f32 b); exact callD hcl (K2.out _)))
    quiet_step (first | (go_at_call_of 42 (Value.float .f32 a); exact callD hcl (K1.out _)) | (go_at_call_of 42 (Value.float .f32 b); exact callD hcl (K2.out _)))
    quiet_step (first | (go_at_call_of 42 (Value.float .f32 a); exact callD hcl (K1.out _)) | (go_at_call_of 42 (Value.float .f32 b); exact callD hcl (K2.out _)))
    quiet_step (first | (go_at_call_of 42 (Value.float .f32 a); exact callD hcl (K1.out _)) | (go_at_call_of 42 (Value.float .f32 b); exact callD hcl (K2.out _)))
    quiet_step (first | (go_at_call_of 42 (Value.float .f32 a); exact callD hcl (K1.out _)) | (go_at_call_of 42 (Value.float .f32 b); exact callD hcl (K2.out _)))
    with_reducible refine quiet_yes ?_ (fun K hK => ?_)
    · kernel_rfl
    go_simp
    first | (refine hK _ ?_; clear hK K) | (apply Exists.intro; refine ⟨fun _ => ?_, hK _ ?_⟩; (first | (go_at_call_of 42 (Value.float .f32 a); exact callD hcl (K1.out _)) | (go_at_call_of 42 (Value.float .f32 b); exact callD hcl (K2.out _))); clear hK K)
    with_reducible refine quiet_yes ?_ (fun K hK => ?_)
    · kernel_rfl
    go_simp
    first | (refine hK _ ?_; clear hK K) | (apply Exists.intro; refine ⟨fun _ => ?_, hK _ ?_⟩; (first | (go_at_call_of 42 (Value.float .f32 a); exact callD hcl (K1.out _)) | (go_at_call_of 42 (Value.float .f32 b); exact callD hcl (K2.out _))); clear hK K)
    with_reducible refine quiet_yes ?_ (fun K hK => ?_)
    · kernel_rfl
    go_simp
    first | (refine hK _ ?_; clear hK K) | (apply Exists.intro; refine ⟨fun _ => ?_, hK _ ?_⟩; (first | (go_at_call_of 42 (Value.float .f32 a); exact callD hcl (K1.out _)) | (go_at_call_of 42 (Value.float .f32 b); exact callD hcl (K2.out _))); clear hK K)
    with_reducible refine quiet_yes ?_ (fun K hK => ?_)
    · kernel_rfl
    go_simp
    first | (refine hK _ ?_; clear hK K) | (apply Exists.intro; refine ⟨fun _ => ?_, hK _ ?_⟩; (first | (go_at_call_of 42 (Value.float .f32 a); exact callD hcl (K1.out _)) | (go_at_call_of 42 (Value.float .f32 b); exact callD hcl (K2.out _))); clear hK K)
    with_reducible refine quiet_yes ?_ (fun K hK => ?_)
    · kernel_rfl
    go_simp
    first | (refine hK _ ?_; clear hK K) | (apply Exists.intro; refine ⟨fun _ => ?_, hK _ ?_⟩; (first | (go_at_call_of 42 (Value.float .f32 a); exact callD hcl (K1.out _)) | (go_at_call_of 42 (Value.float .f32 b); exact callD hcl (K2.out _))); clear hK K)
    with_reducible refine quiet_yes ?_ (fun K hK => ?_)
    · kernel_rfl
    go_simp
    first | (refine hK _ ?_; clear hK K) | (apply Exists.intro; refine ⟨fun _ => ?_, hK _ ?_⟩; (first | (go_at_call_of 42 (Value.float .f32 a); exact callD hcl (K1.out _)) | (go_at_call_of 42 (Value.float .f32 b); exact callD hcl (K2.out _))); clear hK K)
    with_reducible refine quiet_yes ?_ (fun K hK => ?_)
    · kernel_rfl
    go_simp
    first | (refine hK _ ?_; clear hK K) | (apply Exists.intro; refine ⟨fun _ => ?_, hK _ ?_⟩; (first | (go_at_call_of 42 (Value.float .f32 a); exact callD hcl (K1.out _)) | (go_at_call_of 42 (Value.float .f32 b); exact callD hcl (K2.out _))); clear hK K)
    with_reducible refine quiet_yes ?_ (fun K hK => ?_)
    · kernel_rfl
    go_simp
    first | (refine hK _ ?_; clear hK K) | (apply Exists.intro; refine ⟨fun _ => ?_, hK _ ?_⟩; (first | (go_at_call_of 42 (Value.float .f32 a); exact callD hcl (K1.out _)) | (go_at_call_of 42 (Value.float .f32 b); exact callD hcl (K2.out _))); clear hK K)
    with_reducible refine quiet_yes ?_ (fun K hK => ?_)
    · kernel_rfl
    go_simp
    first | (refine hK _ ?_; clear hK K) | (apply Exists.intro; refine ⟨fun _ => ?_, hK _ ?_⟩; (first | (go_at_call_of 42 (Value.float .f32 a); exact callD hcl (K1.out _)) | (go_at_call_of 42 (Value.float .f32 b); exact callD hcl (K2.out _))); clear hK K)
    with_reducible refine quiet_yes ?_ (fun K hK => ?_)
    · kernel_rfl
    go_simp
    first | (refine hK _ ?_; clear hK K) | (apply Exists.intro; refine ⟨fun _ => ?_, hK _ ?_⟩; (first | (go_at_call_of 42 (Value.float .f32 a); exact callD hcl (K1.out _)) | (go_at_call_of 42 (Value.float .f32 b); exact callD hcl (K2.out _))); clear hK K)
    with_reducible refine quiet_yes ?_ (fun K hK => ?_)
    · kernel_rfl
    go_simp
    first | (refine hK _ ?_; clear hK K) | (apply Exists.intro; refine ⟨fun _ => ?_, hK _ ?_⟩; (first | (go_at_call_of 42 (Value.float .f32 a); exact callD hcl (K1.out _)) | (go_at_call_of 42 (Value.float .f32 b); exact callD hcl (K2.out _))); clear hK K)
    refine wpQuiet_nil ?_
    intro _ hw'
    obtain ⟨iq, rfl⟩ := hw'
    clear hcl
    have E1 := Hb.mk (HB.out iq)
    go_wp2
    go_ret
    rw [← KV.out]
    exact ⟨by simp, (by repeat (first | exact Below.refl _ _ | refine Below.on ?_ E1.out (by first | omega | (simp <;> omega)) | exact B0.out | refine Below.drews ?_ | refine Below.drew ?_ | refine Below.alloc ?_ (by first | omega | (simp <;> omega)) _ | refine Below.setCell ?_ (by first | omega | (simp <;> omega)) _))⟩
end Go.Proofs.Ytmioclcipdifpaa
