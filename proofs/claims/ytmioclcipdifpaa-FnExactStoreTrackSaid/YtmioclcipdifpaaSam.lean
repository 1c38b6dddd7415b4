/-
  Same places, of the program and of its model; the exact law SamePlace. No condition.
-/
import Derived.Test.YtmioclcipdifpaaTail
import Derived.Laws.StructEq
namespace Go.Proofs.Ytmioclcipdifpaa
open Go Go.RowKit
set_option maxRecDepth 100000

theorem run_bits {n e m f : Nat} {u v : Bool} (hu : ((n : Int) == (m : Int)) = u) (hv : ((e : Int) == (f : Int)) = v) : ∀ w, (binOp .eql 74 (.agg #[.int .i64 (n : Int), .int .i64 (e : Int)]) (.agg #[.int .i64 (m : Int), .int .i64 (f : Int)])).run Try.prog w = .ok (.bool (u && v)) w := by
  intro w
  rw [run_eql_struct, run_equalIn_agg _ _ _ _ _ (by kernel_rfl) (by kernel_rfl)]
  cases u
  all_goals cases v
  all_goals go_simp
theorem quiet_not {P : Program} {ops : Array Oper} {C : World → Prop} {o : Oper} {rest : List Oper} {Q : Act → Prop} {a : Act} (h : Region.wanted o (yielded ops a.tmps) = false) (hk : wpQuiet P ops C Q rest (a.put o.dst undef)) : wpQuiet P ops C Q (o :: rest) a :=
  wpQuiet_step fun K hK => by rw [h, if_neg Bool.false_ne_true]; exact hK _ hk
theorem quiet_yes {P : Program} {ops : Array Oper} {C : World → Prop} {o : Oper} {rest : List Oper} {Q : Act → Prop} {a : Act} (h : Region.wanted o (yielded ops a.tmps) = true) (hk : ∀ K : Act → Prop, (∀ a, wpQuiet P ops C Q rest a → K a) → o.quiet P a C K) : wpQuiet P ops C Q (o :: rest) a :=
  wpQuiet_step fun K hK => by rw [h, if_pos rfl]; exact hk K hK
def sameC (n e m f : Nat) : Bool := ((n : Int) == (m : Int)) && ((e : Int) == (f : Int))
abbrev bt (n e : Nat) : Value := .agg #[.int .i64 (n : Int), .int .i64 (e : Int)]
theorem bitsOfPlace_any {n e a b : Nat} (h1 : Fl .f32 n a) (h2 : Fl .f32 e b) (w : World) : Calls Try.prog 48 #[pl a b] w (RS (bt n e) w) := by
  have K1 := Hb.mk (fun w => bitsOf_any h1 w)
  have K2 := Hb.mk (fun w => bitsOf_any h2 w)
  clear h1 h2
  go_enter Try.func48, Try.ntmps48
  go_wp2
  refine region_keep 7 (by kernel_rfl) (by kernel_rfl) (fun I F hne HB hcl => ?_)
  have f1 := keepF HB (p := ⟨w.heap.size, 0, none⟩) (v := .float .f32 a) (by simp)
  have f2 := keepF HB (p := ⟨w.heap.size, 1, none⟩) (v := .float .f32 b) (by simp)
  simp only [List.take_succ_cons, List.take_zero, List.drop_succ_cons, List.drop_zero]
  repeat (quiet_step (first | (go_at_call_of 52 (Value.float .f32 a); exact callD hcl (K1.out _)) | (go_at_call_of 52 (Value.float .f32 b); exact callD hcl (K2.out _))))
  refine wpQuiet_nil ?_
  intro _ hw'
  obtain ⟨iq, rfl⟩ := hw'
  have g0 := keepF HB (p := ⟨w.heap.size + 1, 0, none⟩) (v := .int .i64 0) (by simp) iq
  have g1 := keepF HB (p := ⟨w.heap.size + 1, 1, none⟩) (v := .int .i64 0) (by simp) iq
  have z0 := keepZ HB (p := ⟨w.heap.size + 1, 0, none⟩) (by simp) (by simp) iq
  have z1 := keepZ HB (p := ⟨w.heap.size + 1, 1, none⟩) (by simp) (by simp) iq
  have BQ := Hb.mk (HB.out iq)
  go_wp2
  exact bodyPost_ret (v := bt n e) (by simp [results, Try.results48, go_sem, g0, g1]) rfl ⟨rfl, (by repeat (first | exact Below.refl _ _ | refine Below.drews ?_ | refine Below.drew ?_ | refine Below.setCell ?_ (by simp <;> omega) _ | refine Below.on ?_ BQ.out (by simp <;> omega) | refine Below.alloc ?_ (by simp <;> omega) _))⟩
set_option maxHeartbeats 2000000 in
theorem iSamePlace_any {n e m f a b c d : Nat} (h1 : Fl .f32 n a) (h2 : Fl .f32 e b) (h3 : Fl .f32 m c) (h4 : Fl .f32 f d) (w : World) : Calls Try.prog 44 #[pl a b, pl c d] w (RS (.bool (sameC n e m f)) w) := by
  have K1 := Hb.mk (fun w => bitsOfPlace_any h1 h2 w)
  have K2 := Hb.mk (fun w => bitsOfPlace_any h3 h4 w)
  have KV := Hb.mk (show (((n : Int) == (m : Int)) && ((e : Int) == (f : Int))) = sameC n e m f from by unfold sameC; rfl)
  clear h1 h2 h3 h4
  have B0 := Hb.mk (Below.refl w.heap.size w)
  cases hu : ((n : Int) == (m : Int))
  all_goals cases hv : ((e : Int) == (f : Int))
  all_goals
    rw [hu, hv] at KV
    go_enter Try.func44, Try.ntmps44
    go_wp2
    refine region_all (by kernel_rfl) (by kernel_rfl) (fun I F hne HB hcl => ?_)
    have f1 := keepF HB (p := ⟨w.heap.size, 0, none⟩) (v := .float .f32 a) (by simp [go_sem])
    have f2 := keepF HB (p := ⟨w.heap.size, 1, none⟩) (v := .float .f32 b) (by simp [go_sem])
    have f3 := keepF HB (p := ⟨w.heap.size + 1, 0, none⟩) (v := .float .f32 c) (by simp [go_sem])
    have f4 := keepF HB (p := ⟨w.heap.size + 1, 1, none⟩) (v := .float .f32 d) (by simp [go_sem])
    repeat (quiet_step (first | (go_at_call_of 48 (Value.agg #[Value.float .f32 a, Value.float .f32 b]); exact callS hcl (K1.out _)) | (go_at_call_of 48 (Value.agg #[Value.float .f32 c, Value.float .f32 d]); exact callS hcl (K2.out _))))
    refine wpQuiet_nil ?_
    intro _ hw'
    obtain ⟨iq, rfl⟩ := hw'
    clear hcl
    have E1 := Hb.mk (HB.out iq)
    go_wp2
    go_ret
    rw [← KV.out]
    exact ⟨by simp, (by repeat (first | exact Below.refl _ _ | refine Below.on ?_ E1.out (by first | omega | (simp <;> omega)) | exact B0.out | refine Below.drews ?_ | refine Below.drew ?_ | refine Below.alloc ?_ (by first | omega | (simp <;> omega)) _ | refine Below.setCell ?_ (by first | omega | (simp <;> omega)) _))⟩
set_option maxHeartbeats 2000000 in
theorem l02Same_any {n e m f a b c d p q : Nat} (h1 : Fl .f32 n a) (h2 : Fl .f32 e b) (h3 : Fl .f32 m c) (h4 : Fl .f32 f d) (w : World) (c1 : w.cell? ⟨p, 0, none⟩ = some (.float .f32 a)) (c2 : w.cell? ⟨p, 1, none⟩ = some (.float .f32 b)) (c3 : w.cell? ⟨q, 0, none⟩ = some (.float .f32 c)) (c4 : w.cell? ⟨q, 1, none⟩ = some (.float .f32 d)) :
    Calls Try.prog 31 #[.pointer (some ⟨p, 0, none⟩), .pointer (some ⟨q, 0, none⟩)] w (RS (.bool (sameC n e m f)) w) := by
  have K1 := Hb.mk (fun w => l01Same_any h1 h3 w)
  have K2 := Hb.mk (fun w => l01Same_any h2 h4 w)
  have KV := Hb.mk (show (((n : Int) == (m : Int)) && ((e : Int) == (f : Int))) = sameC n e m f from by unfold sameC; rfl)
  clear h1 h2 h3 h4
  have B0 := Hb.mk (Below.refl w.heap.size w)
  generalize ((e : Int) == (f : Int)) = v at *
  cases hu : ((n : Int) == (m : Int))
  · rw [hu] at K1 KV
    go_enter Try.func31, Try.ntmps31
    go_wp2
    refine region_all (by kernel_rfl) (by kernel_rfl) (fun I F hne HB hcl => ?_)
    have f1 := keepF HB c1
    have f2 := keepF HB c2
    have f3 := keepF HB c3
    have f4 := keepF HB c4
    quiet_step (first | (go_at_call_of 42 (Value.float .f32 a); exact callD hcl (K1.out _)) | (go_at_call_of 42 (Value.float .f32 b); exact callD hcl (K2.out _)))
    quiet_step (first | (go_at_call_of 42 (Value.float .f32 a); exact callD hcl (K1.out _)) | (go_at_call_of 42 (Value.float .f32 b); exact callD hcl (K2.out _)))
    quiet_step (first | (go_at_call_of 42 (Value.float .f32 a); exact callD hcl (K1.out _)) | (go_at_call_of 42 (Value.float .f32 b); exact callD hcl (K2.out _)))
    quiet_step (first | (go_at_call_of 42 (Value.float .f32 a); exact callD hcl (K1.out _)) | (go_at_call_of 42 (Value.float .f32 b); exact callD hcl (K2.out _)))
    quiet_step (first | (go_at_call_of 42 (Value.float .f32 a); exact callD hcl (K1.out _)) | (go_at_call_of 42 (Value.float .f32 b); exact callD hcl (K2.out _)))
    quiet_step (first | (go_at_call_of 42 (Value.float .f32 a); exact callD hcl (K1.out _)) | (go_at_call_of 42 (Value.float .f32 b); exact callD hcl (K2.out _)))
    quiet_step (first | (go_at_call_of 42 (Value.float .f32 a); exact callD hcl (K1.out _)) | (go_at_call_of 42 (Value.float .f32 b); exact callD hcl (K2.out _)))
    quiet_step (first | (go_at_call_of 42 (Value.float .f32 a); exact callD hcl (K1.out _)) | (go_at_call_of 42 (Value.float .f32 b); exact callD hcl (K2.out _)))
    quiet_step (first | (go_at_call_of 42 (Value.float .f32 a); exact callD hcl (K1.out _)) | (go_at_call_of 42 (Value.float .f32 b); exact callD hcl (K2.out _)))
    quiet_step (first | (go_at_call_of 42 (Value.float .f32 a); exact callD hcl (K1.out _)) | (go_at_call_of 42 (Value.float .f32 b); exact callD hcl (K2.out _)))
    with_reducible refine quiet_not ?_ ?_
    · kernel_rfl
    with_reducible refine quiet_not ?_ ?_
    · kernel_rfl
    with_reducible refine quiet_not ?_ ?_
    · kernel_rfl
    with_reducible refine quiet_not ?_ ?_
    · kernel_rfl
    with_reducible refine quiet_not ?_ ?_
    · kernel_rfl
    with_reducible refine quiet_not ?_ ?_
    · kernel_rfl
    with_reducible refine quiet_not ?_ ?_
    · kernel_rfl
    with_reducible refine quiet_not ?_ ?_
    · kernel_rfl
    with_reducible refine quiet_not ?_ ?_
    · kernel_rfl
    with_reducible refine quiet_yes ?_ (fun K hK => ?_)
    · kernel_rfl
    go_simp
    first | (refine hK _ ?_; clear hK K) | (apply Exists.intro; refine ⟨fun _ => ?_, hK _ ?_⟩; (first | (go_at_call_of 42 (Value.float .f32 a); exact callD hcl (K1.out _)) | (go_at_call_of 42 (Value.float .f32 b); exact callD hcl (K2.out _))); clear hK K)
    with_reducible refine quiet_yes ?_ (fun K hK => ?_)
    · kernel_rfl
    go_simp
    first | (refine hK _ ?_; clear hK K) | (apply Exists.intro; refine ⟨fun _ => ?_, hK _ ?_⟩; (first | (go_at_call_of 42 (Value.float .f32 a); exact callD hcl (K1.out _)) | (go_at_call_of 42 (Value.float .f32 b); exact callD hcl (K2.out _))); clear hK K)
    refine wpQuiet_nil ?_
    intro _ hw'
    obtain ⟨iq, rfl⟩ := hw'
    clear hcl
    have E1 := Hb.mk (HB.out iq)
    go_wp2
    go_ret
    rw [← KV.out]
    exact ⟨by simp, (by repeat (first | exact Below.refl _ _ | refine Below.on ?_ E1.out (by first | omega | (simp <;> omega)) | exact B0.out | refine Below.drews ?_ | refine Below.drew ?_ | refine Below.alloc ?_ (by first | omega | (simp <;> omega)) _ | refine Below.setCell ?_ (by first | omega | (simp <;> omega)) _))⟩
  · rw [hu] at K1 KV
    go_enter Try.func31, Try.ntmps31
    go_wp2
    refine region_all (by kernel_rfl) (by kernel_rfl) (fun I F hne HB hcl => ?_)
    have f1 := keepF HB c1
    have f2 := keepF HB c2
    have f3 := keepF HB c3
    have f4 := keepF HB c4
    quiet_step (first | (go_at_call_of 42 (Value.float .f32 a); exact callD hcl (K1.out _)) | (go_at_call_of 42 (Value.float .f32 b); exact callD hcl (K2.out _)))
    quiet_step (first | (go_at_call_of 42 (Value.float .f32 a); exact callD hcl (K1.out _)) | (go_at_call_of 42 (Value.float .f32 b); exact callD hcl (K2.out _)))
    quiet_step (first | (go_at_call_of 42 (Value.float .f32 a); exact callD hcl (K1.out _)) | (go_at_call_of 42 (Value.float .f32 b); exact callD hcl (K2.out _)))
    quiet_step (first | (go_at_call_of 42 (Value.float .f32 a); exact callD hcl (K1.out _)) | (go_at_call_of 42 (Value.float .f32 b); exact callD hcl (K2.out _)))
    quiet_step (first | (go_at_call_of 42 (Value.float .f32 a); exact callD hcl (K1.out _)) | (go_at_call_of 42 (Value.float .f32 b); exact callD hcl (K2.out _)))
    quiet_step (first | (go_at_call_of 42 (Value.float .f32 a); exact callD hcl (K1.out _)) | (go_at_call_of 42 (Value.float .f32 b); exact callD hcl (K2.out _)))
    quiet_step (first | (go_at_call_of 42 (Value.float .f32 a); exact callD hcl (K1.out _)) | (go_at_call_of 42 (Value.float .f32 b); exact callD hcl (K2.out _)))
    quiet_step (first | (go_at_call_of 42 (Value.float .f32 a); exact callD hcl (K1.out _)) | (go_at_call_of 42 (Value.float .f32 b); exact callD hcl (K2.out _)))
    quiet_step (first | (go_at_call_of 42 (Value.float .f32 a); exact callD hcl (K1.out _)) | (go_at_call_of 42 (Value.float .f32 b); exact callD hcl (K2.out _)))
    quiet_step (first | (go_at_call_of 42 (Value.float .f32 a); exact callD hcl (K1.out _)) | (go_at_call_of 42 (Value.float .f32 b); exact callD hcl (K2.out _)))
    with_reducible refine quiet_yes ?_ (fun K hK => ?_)
    · kernel_rfl
    go_simp
    first | (refine hK _ ?_; clear hK K) | (apply Exists.intro; refine ⟨fun _ => ?_, hK _ ?_⟩; (first | (go_at_call_of 42 (Value.float .f32 a); exact callD hcl (K1.out _)) | (go_at_call_of 42 (Value.float .f32 b); exact callD hcl (K2.out _))); clear hK K)
    with_reducible refine quiet_yes ?_ (fun K hK => ?_)
    · kernel_rfl
    go_simp
    first | (refine hK _ ?_; clear hK K) | (apply Exists.intro; refine ⟨fun _ => ?_, hK _ ?_⟩; (first | (go_at_call_of 42 (Value.float .f32 a); exact callD hcl (K1.out _)) | (go_at_call_of 42 (Value.float .f32 b); exact callD hcl (K2.out _))); clear hK K)
    with_reducible refine quiet_yes ?_ (fun K hK => ?_)
    · kernel_rfl
    go_simp
    first | (refine hK _ ?_; clear hK K) | (apply Exists.intro; refine ⟨fun _ => ?_, hK _ ?_⟩; (first | (go_at_call_of 42 (Value.float .f32 a); exact callD hcl (K1.out _)) | (go_at_call_of 42 (Value.float .f32 b); exact callD hcl (K2.out _))); clear hK K)
    with_reducible refine quiet_yes ?_ (fun K hK => ?_)
    · kernel_rfl
    go_simp
    first | (refine hK _ ?_; clear hK K) | (apply Exists.intro; refine ⟨fun _ => ?_, hK _ ?_⟩; (first | (go_at_call_of 42 (Value.float .f32 a); exact callD hcl (K1.out _)) | (go_at_call_of 42 (Value.float .f32 b); exact callD hcl (K2.out _))); clear hK K)
    with_reducible refine quiet_yes ?_ (fun K hK => ?_)
    · kernel_rfl
    go_simp
    first | (refine hK _ ?_; clear hK K) | (apply Exists.intro; refine ⟨fun _ => ?_, hK _ ?_⟩; (first | (go_at_call_of 42 (Value.float .f32 a); exact callD hcl (K1.out _)) | (go_at_call_of 42 (Value.float .f32 b); exact callD hcl (K2.out _))); clear hK K)
    with_reducible refine quiet_yes ?_ (fun K hK => ?_)
    · kernel_rfl
    go_simp
    first | (refine hK _ ?_; clear hK K) | (apply Exists.intro; refine ⟨fun _ => ?_, hK _ ?_⟩; (first | (go_at_call_of 42 (Value.float .f32 a); exact callD hcl (K1.out _)) | (go_at_call_of 42 (Value.float .f32 b); exact callD hcl (K2.out _))); clear hK K)
    with_reducible refine quiet_yes ?_ (fun K hK => ?_)
    · kernel_rfl
    go_simp
    first | (refine hK _ ?_; clear hK K) | (apply Exists.intro; refine ⟨fun _ => ?_, hK _ ?_⟩; (first | (go_at_call_of 42 (Value.float .f32 a); exact callD hcl (K1.out _)) | (go_at_call_of 42 (Value.float .f32 b); exact callD hcl (K2.out _))); clear hK K)
    with_reducible refine quiet_yes ?_ (fun K hK => ?_)
    · kernel_rfl
    go_simp
    first | (refine hK _ ?_; clear hK K) | (apply Exists.intro; refine ⟨fun _ => ?_, hK _ ?_⟩; (first | (go_at_call_of 42 (Value.float .f32 a); exact callD hcl (K1.out _)) | (go_at_call_of 42 (Value.float .f32 b); exact callD hcl (K2.out _))); clear hK K)
    with_reducible refine quiet_yes ?_ (fun K hK => ?_)
    · kernel_rfl
    go_simp
    first | (refine hK _ ?_; clear hK K) | (apply Exists.intro; refine ⟨fun _ => ?_, hK _ ?_⟩; (first | (go_at_call_of 42 (Value.float .f32 a); exact callD hcl (K1.out _)) | (go_at_call_of 42 (Value.float .f32 b); exact callD hcl (K2.out _))); clear hK K)
    with_reducible refine quiet_yes ?_ (fun K hK => ?_)
    · kernel_rfl
    go_simp
    first | (refine hK _ ?_; clear hK K) | (apply Exists.intro; refine ⟨fun _ => ?_, hK _ ?_⟩; (first | (go_at_call_of 42 (Value.float .f32 a); exact callD hcl (K1.out _)) | (go_at_call_of 42 (Value.float .f32 b); exact callD hcl (K2.out _))); clear hK K)
    with_reducible refine quiet_yes ?_ (fun K hK => ?_)
    · kernel_rfl
    go_simp
    first | (refine hK _ ?_; clear hK K) | (apply Exists.intro; refine ⟨fun _ => ?_, hK _ ?_⟩; (first | (go_at_call_of 42 (Value.float .f32 a); exact callD hcl (K1.out _)) | (go_at_call_of 42 (Value.float .f32 b); exact callD hcl (K2.out _))); clear hK K)
    refine wpQuiet_nil ?_
    intro _ hw'
    obtain ⟨iq, rfl⟩ := hw'
    clear hcl
    have E1 := Hb.mk (HB.out iq)
    go_wp2
    go_ret
    rw [← KV.out]
    exact ⟨by simp, (by repeat (first | exact Below.refl _ _ | refine Below.on ?_ E1.out (by first | omega | (simp <;> omega)) | exact B0.out | refine Below.drews ?_ | refine Below.drew ?_ | refine Below.alloc ?_ (by first | omega | (simp <;> omega)) _ | refine Below.setCell ?_ (by first | omega | (simp <;> omega)) _))⟩
end Go.Proofs.Ytmioclcipdifpaa
