/-
  Same maps, of the program and of its model; the exact law SameMap. No condition.
-/
import Derived.Test.YtjjhklfpdllijabMap
import Derived.Laws.StructEq
namespace Go.Proofs.Ytjjhklfpdllijab
open Go Go.RowKit
set_option maxRecDepth 100000

theorem quiet_not {P : Program} {ops : Array Oper} {C : World → Prop} {o : Oper} {rest : List Oper} {Q : Act → Prop} {a : Act} (h : Region.wanted o (yielded ops a.tmps) = false) (hk : wpQuiet P ops C Q rest (a.put o.dst undef)) : wpQuiet P ops C Q (o :: rest) a :=
  wpQuiet_step fun K hK => by rw [h, if_neg Bool.false_ne_true]; exact hK _ hk
theorem quiet_yes {P : Program} {ops : Array Oper} {C : World → Prop} {o : Oper} {rest : List Oper} {Q : Act → Prop} {a : Act} (h : Region.wanted o (yielded ops a.tmps) = true) (hk : ∀ K : Act → Prop, (∀ a, wpQuiet P ops C Q rest a → K a) → o.quiet P a C K) : wpQuiet P ops C Q (o :: rest) a :=
  wpQuiet_step fun K hK => by rw [h, if_pos rfl]; exact hk K hK
def sameC (n e m f : Nat) : Bool := ((n : Int) == (m : Int)) && ((e : Int) == (f : Int))
abbrev bt (n e : Nat) : Value := .agg #[.int .i64 (n : Int), .int .i64 (e : Int)]
abbrev bm (k : Int) (n e f : Nat) : Value := .agg #[.int .i64 k, .int .i64 (n : Int), .int .i64 (e : Int), .int .i64 (f : Int)]
def sameM (k : Int) (n e f : Nat) (k' : Int) (n' e' f' : Nat) : Bool := (k == k') && (sameC n e n' e' && ((f : Int) == (f' : Int)))
theorem run_mbits {k k' : Int} {n e f n' e' f' : Nat} {u v x y : Bool} (hu : (k == k') = u) (hv : ((n : Int) == (n' : Int)) = v) (hx : ((e : Int) == (e' : Int)) = x) (hy : ((f : Int) == (f' : Int)) = y) : ∀ w, (binOp .eql 81 (bm k n e f) (bm k' n' e' f')).run Try.prog w = .ok (.bool (u && ((v && x) && y))) w := by
  intro w
  rw [run_eql_struct, run_equalIn_agg _ _ _ _ _ (by kernel_rfl) (by kernel_rfl)]
  cases u
  all_goals cases v
  all_goals cases x
  all_goals cases y
  all_goals go_simp
theorem bitsOfPlace_any {n e a b : Nat} (h1 : Fl .f32 n a) (h2 : Fl .f32 e b) (w : World) : Calls Try.prog 86 #[pl a b] w (RS (bt n e) w) := by
  have K1 := Hb.mk (fun w => bitsOf_any h1 w)
  have K2 := Hb.mk (fun w => bitsOf_any h2 w)
  clear h1 h2
  go_enter Try.func86, Try.ntmps86
  go_wp2
  refine region_keep 7 (by kernel_rfl) (by kernel_rfl) (fun I F hne HB hcl => ?_)
  have f1 := keepF HB (p := ⟨w.heap.size, 0, none⟩) (v := .float .f32 a) (by simp)
  have f2 := keepF HB (p := ⟨w.heap.size, 1, none⟩) (v := .float .f32 b) (by simp)
  simp only [List.take_succ_cons, List.take_zero, List.drop_succ_cons, List.drop_zero]
  repeat (quiet_step (first | (go_at_call_of 87 (Value.float .f32 a); exact callD hcl (K1.out _)) | (go_at_call_of 87 (Value.float .f32 b); exact callD hcl (K2.out _))))
  refine wpQuiet_nil ?_
  intro _ hw'
  obtain ⟨iq, rfl⟩ := hw'
  have g0 := keepF HB (p := ⟨w.heap.size + 1, 0, none⟩) (v := .int .i64 0) (by simp) iq
  have g1 := keepF HB (p := ⟨w.heap.size + 1, 1, none⟩) (v := .int .i64 0) (by simp) iq
  have z0 := keepZ HB (p := ⟨w.heap.size + 1, 0, none⟩) (by simp) (by simp) iq
  have z1 := keepZ HB (p := ⟨w.heap.size + 1, 1, none⟩) (by simp) (by simp) iq
  have BQ := Hb.mk (HB.out iq)
  go_wp2
  exact bodyPost_ret (v := bt n e) (by simp [results, Try.results86, go_sem, g0, g1]) rfl ⟨rfl, (by repeat (first | exact Below.refl _ _ | refine Below.drews ?_ | refine Below.drew ?_ | refine Below.setCell ?_ (by simp <;> omega) _ | refine Below.on ?_ BQ.out (by simp <;> omega) | refine Below.alloc ?_ (by simp <;> omega) _))⟩
theorem bitsOfMap_any {k : Int} {n e f a b c : Nat} (h1 : Fl .f32 n a) (h2 : Fl .f32 e b) (h3 : Fl .f32 f c) (w : World) : Calls Try.prog 51 #[mp k a b c] w (RS (bm k n e f) w) := by
  have K1 := Hb.mk (fun w => bitsOfPlace_any h1 h2 w)
  have K2 := Hb.mk (fun w => bitsOf_any h3 w)
  clear h1 h2 h3
  go_enter Try.func51, Try.ntmps51
  go_wp2
  refine region_keep 9 (by kernel_rfl) (by kernel_rfl) (fun I F hne HB hcl => ?_)
  have f0 := keepF HB (p := ⟨w.heap.size, 0, none⟩) (v := .int .i64 k) (by first | simp | simp [go_sem])
  have f1 := keepF HB (p := ⟨w.heap.size, 1, none⟩) (v := .float .f32 a) (by first | simp | simp [go_sem])
  have f2 := keepF HB (p := ⟨w.heap.size, 2, none⟩) (v := .float .f32 b) (by first | simp | simp [go_sem])
  have f3 := keepF HB (p := ⟨w.heap.size, 3, none⟩) (v := .float .f32 c) (by first | simp | simp [go_sem])
  simp only [List.take_succ_cons, List.take_zero, List.drop_succ_cons, List.drop_zero]
  repeat (quiet_step (first | (go_at_call 86; exact callS hcl (K1.out _)) | (go_at_call 87; exact callD hcl (K2.out _))))
  refine wpQuiet_nil ?_
  intro _ hw'
  obtain ⟨iq, rfl⟩ := hw'
  have g0 := keepF HB (p := ⟨w.heap.size + 1, 0, none⟩) (v := .int .i64 0) (by first | simp | simp [go_sem]) iq
  have g1 := keepF HB (p := ⟨w.heap.size + 1, 1, none⟩) (v := .int .i64 0) (by first | simp | simp [go_sem]) iq
  have g2 := keepF HB (p := ⟨w.heap.size + 1, 2, none⟩) (v := .int .i64 0) (by first | simp | simp [go_sem]) iq
  have g3 := keepF HB (p := ⟨w.heap.size + 1, 3, none⟩) (v := .int .i64 0) (by first | simp | simp [go_sem]) iq
  have z0 := keepZ HB (p := ⟨w.heap.size + 1, 0, none⟩) (by simp) (by first | simp | simp [go_sem]) iq
  have z1 := keepZ HB (p := ⟨w.heap.size + 1, 1, none⟩) (by simp) (by first | simp | simp [go_sem]) iq
  have z2 := keepZ HB (p := ⟨w.heap.size + 1, 2, none⟩) (by simp) (by first | simp | simp [go_sem]) iq
  have z3 := keepZ HB (p := ⟨w.heap.size + 1, 3, none⟩) (by simp) (by first | simp | simp [go_sem]) iq
  have E1 := Hb.mk (HB.out iq)
  have B0 := Hb.mk (Below.refl w.heap.size w)
  go_wp2
  exact bodyPost_ret (v := bm k n e f) (by simp [results, Try.results51, go_sem, g0, g1, g2, g3]) rfl ⟨rfl, (by repeat (first | with_reducible refine Below.setCell ?_ (by first | omega | (simp <;> omega)) _ | with_reducible refine Below.drews ?_ | with_reducible refine Below.drew ?_ | with_reducible refine Below.alloc ?_ (by first | omega | (simp <;> omega)) _ | with_reducible refine Below.on ?_ E1.out (by first | omega | (simp <;> omega)) | with_reducible exact B0.out | with_reducible exact Below.refl _ _))⟩
set_option maxHeartbeats 4000000 in
theorem iSameMap_any {k k' : Int} {n e f n' e' f' a b c a' b' c' : Nat} (h1 : Fl .f32 n a) (h2 : Fl .f32 e b) (h3 : Fl .f32 f c) (h4 : Fl .f32 n' a') (h5 : Fl .f32 e' b') (h6 : Fl .f32 f' c') (w : World) : Calls Try.prog 24 #[mp k a b c, mp k' a' b' c'] w (RS (.bool (sameM k n e f k' n' e' f')) w) := by
  have K1 := Hb.mk (fun w => bitsOfMap_any (k := k) h1 h2 h3 w)
  have K2 := Hb.mk (fun w => bitsOfMap_any (k := k') h4 h5 h6 w)
  obtain ⟨v, hv⟩ : ∃ v, sameM k n e f k' n' e' f' = v := ⟨_, rfl⟩
  have mE : Hb (∀ w, (binOp .eql 81 (bm k n e f) (bm k' n' e' f')).run Try.prog w = .ok (.bool v) w) := ⟨fun w => by rw [← hv]; exact run_mbits rfl rfl rfl rfl w⟩
  rw [hv]
  clear h1 h2 h3 h4 h5 h6 hv
  have B0 := Hb.mk (Below.refl w.heap.size w)
  go_enter Try.func24, Try.ntmps24
  go_wp2
  refine region_all (by kernel_rfl) (by kernel_rfl) (fun I F hne HB hcl => ?_)
  have f0 := keepF HB (p := ⟨w.heap.size, 0, none⟩) (v := .int .i64 k) (by first | simp | simp [go_sem])
  have f1 := keepF HB (p := ⟨w.heap.size, 1, none⟩) (v := .float .f32 a) (by first | simp | simp [go_sem])
  have f2 := keepF HB (p := ⟨w.heap.size, 2, none⟩) (v := .float .f32 b) (by first | simp | simp [go_sem])
  have f3 := keepF HB (p := ⟨w.heap.size, 3, none⟩) (v := .float .f32 c) (by first | simp | simp [go_sem])
  have g0 := keepF HB (p := ⟨w.heap.size + 1, 0, none⟩) (v := .int .i64 k') (by first | simp | simp [go_sem])
  have g1 := keepF HB (p := ⟨w.heap.size + 1, 1, none⟩) (v := .float .f32 a') (by first | simp | simp [go_sem])
  have g2 := keepF HB (p := ⟨w.heap.size + 1, 2, none⟩) (v := .float .f32 b') (by first | simp | simp [go_sem])
  have g3 := keepF HB (p := ⟨w.heap.size + 1, 3, none⟩) (v := .float .f32 c') (by first | simp | simp [go_sem])
  have mE' := mE.out
  repeat (quiet_step (first | (go_at_call_of 51 (Value.agg #[Value.int .i64 k, Value.float .f32 a, Value.float .f32 b, Value.float .f32 c]); exact callS hcl (K1.out _)) | (go_at_call_of 51 (Value.agg #[Value.int .i64 k', Value.float .f32 a', Value.float .f32 b', Value.float .f32 c']); exact callS hcl (K2.out _))))
  refine wpQuiet_nil ?_
  intro _ hw'
  obtain ⟨iq, rfl⟩ := hw'
  clear hcl mE'
  have E1 := Hb.mk (HB.out iq)
  go_wp2
  go_ret
  exact ⟨rfl, (by repeat (first | with_reducible refine Below.setCell ?_ (by first | omega | (simp <;> omega)) _ | with_reducible refine Below.drews ?_ | with_reducible refine Below.drew ?_ | with_reducible refine Below.alloc ?_ (by first | omega | (simp <;> omega)) _ | with_reducible refine Below.on ?_ E1.out (by first | omega | (simp <;> omega)) | with_reducible exact B0.out | with_reducible exact Below.refl _ _))⟩
set_option maxHeartbeats 2000000 in
theorem l02SameAt_any {n e m f a b c d p q : Nat} (h1 : Fl .f32 n a) (h2 : Fl .f32 e b) (h3 : Fl .f32 m c) (h4 : Fl .f32 f d) (w : World) (c1 : w.cell? ⟨p, 1, none⟩ = some (.float .f32 a)) (c2 : w.cell? ⟨p, 2, none⟩ = some (.float .f32 b)) (c3 : w.cell? ⟨q, 1, none⟩ = some (.float .f32 c)) (c4 : w.cell? ⟨q, 2, none⟩ = some (.float .f32 d)) :
    Calls Try.prog 49 #[.pointer (some ⟨p, 1, none⟩), .pointer (some ⟨q, 1, none⟩)] w (RS (.bool (sameC n e m f)) w) := by
  have K1 := Hb.mk (fun w => l01Same_any h1 h3 w)
  have K2 := Hb.mk (fun w => l01Same_any h2 h4 w)
  have KV := Hb.mk (show (((n : Int) == (m : Int)) && ((e : Int) == (f : Int))) = sameC n e m f from by unfold sameC; rfl)
  clear h1 h2 h3 h4
  have B0 := Hb.mk (Below.refl w.heap.size w)
  generalize ((e : Int) == (f : Int)) = v at *
  cases hu : ((n : Int) == (m : Int))
  · rw [hu] at K1 KV
    go_enter Try.func49, Try.ntmps49
    go_wp2
    refine region_all (by kernel_rfl) (by kernel_rfl) (fun I F hne HB hcl => ?_)
    have f1 := keepF HB c1
    have f2 := keepF HB c2
    have f3 := keepF HB c3
    have f4 := keepF HB c4
    quiet_step (first | (go_at_call_of 50 (Value.float .f32 a); exact callD hcl (K1.out _)) | (go_at_call_of 50 (Value.float .f32 b); exact callD hcl (K2.out _)))
    quiet_step (first | (go_at_call_of 50 (Value.float .f32 a); exact callD hcl (K1.out _)) | (go_at_call_of 50 (Value.float .f32 b); exact callD hcl (K2.out _)))
    quiet_step (first | (go_at_call_of 50 (Value.float .f32 a); exact callD hcl (K1.out _)) | (go_at_call_of 50 (Value.float .f32 b); exact callD hcl (K2.out _)))
    quiet_step (first | (go_at_call_of 50 (Value.float .f32 a); exact callD hcl (K1.out _)) | (go_at_call_of 50 (Value.float .f32 b); exact callD hcl (K2.out _)))
    quiet_step (first | (go_at_call_of 50 (Value.float .f32 a); exact callD hcl (K1.out _)) | (go_at_call_of 50 (Value.float .f32 b); exact callD hcl (K2.out _)))
    quiet_step (first | (go_at_call_of 50 (Value.float .f32 a); exact callD hcl (K1.out _)) | (go_at_call_of 50 (Value.float .f32 b); exact callD hcl (K2.out _)))
    quiet_step (first | (go_at_call_of 50 (Value.float .f32 a); exact callD hcl (K1.out _)) | (go_at_call_of 50 (Value.float .f32 b); exact callD hcl (K2.out _)))
    quiet_step (first | (go_at_call_of 50 (Value.float .f32 a); exact callD hcl (K1.out _)) | (go_at_call_of 50 (Value.float .f32 b); exact callD hcl (K2.out _)))
    quiet_step (first | (go_at_call_of 50 (Value.float .f32 a); exact callD hcl (K1.out _)) | (go_at_call_of 50 (Value.float .f32 b); exact callD hcl (K2.out _)))
    quiet_step (first | (go_at_call_of 50 (Value.float .f32 a); exact callD hcl (K1.out _)) | (go_at_call_of 50 (Value.float .f32 b); exact callD hcl (K2.out _)))
    with_reducible refine quiet_not ?_ ?_
    · kernel_rfl
    with_reducible refine quiet_not ?_ ?_
    · kernel_rfl
    with_reducible refine quiet_not ?_ ?_
    · kernel_rfl
    with_reducible refine quiet_not ?_ ?_
    · kernel_rfl
    with_reducible refine quiet_not ?_ ?_
    · kernel_rfl
    with_reducible refine quiet_not ?_ ?_
    · kernel_rfl
    with_reducible refine quiet_not ?_ ?_
    · kernel_rfl
    with_reducible refine quiet_not ?_ ?_
    · kernel_rfl
    with_reducible refine quiet_not ?_ ?_
    · kernel_rfl
    with_reducible refine quiet_yes ?_ (fun K hK => ?_)
    · kernel_rfl
    go_simp
    first | (refine hK _ ?_; clear hK K) | (apply Exists.intro; refine ⟨fun _ => ?_, hK _ ?_⟩; (first | (go_at_call_of 50 (Value.float .f32 a); exact callD hcl (K1.out _)) | (go_at_call_of 50 (Value.float .f32 b); exact callD hcl (K2.out _))); clear hK K)
    with_reducible refine quiet_yes ?_ (fun K hK => ?_)
    · kernel_rfl
    go_simp
    first | (refine hK _ ?_; clear hK K) | (apply Exists.intro; refine ⟨fun _ => ?_, hK _ ?_⟩; (first | (go_at_call_of 50 (Value.float .f32 a); exact callD hcl (K1.out _)) | (go_at_call_of 50 (Value.float .f32 b); exact callD hcl (K2.out _))); clear hK K)
    refine wpQuiet_nil ?_
    intro _ hw'
    obtain ⟨iq, rfl⟩ := hw'
    clear hcl
    have E1 := Hb.mk (HB.out iq)
    go_wp2
    go_ret
    rw [← KV.out]
    exact ⟨by simp, (by repeat (first | exact Below.refl _ _ | refine Below.on ?_ E1.out (by first | omega | (simp <;> omega)) | exact B0.out | refine Below.drews ?_ | refine Below.drew ?_ | refine Below.alloc ?_ (by first | omega | (simp <;> omega)) _ | refine Below.setCell ?_ (by first | omega | (simp <;> omega)) _))⟩
  · rw [hu] at K1 KV
    go_enter Try.func49, Try.ntmps49
    go_wp2
    refine region_all (by kernel_rfl) (by kernel_rfl) (fun I F hne HB hcl => ?_)
    have f1 := keepF HB c1
    have f2 := keepF HB c2
    have f3 := keepF HB c3
    have f4 := keepF HB c4
    quiet_step (first | (go_at_call_of 50 (Value.float .f32 a); exact callD hcl (K1.out _)) | (go_at_call_of 50 (Value.float .f32 b); exact callD hcl (K2.out _)))
    quiet_step (first | (go_at_call_of 50 (Value.float .f32 a); exact callD hcl (K1.out _)) | (go_at_call_of 50 (Value.float .f32 b); exact callD hcl (K2.out _)))
    quiet_step (first | (go_at_call_of 50 (Value.float .f32 a); exact callD hcl (K1.out _)) | (go_at_call_of 50 (Value.float .f32 b); exact callD hcl (K2.out _)))
    quiet_step (first | (go_at_call_of 50 (Value.float .f32 a); exact callD hcl (K1.out _)) | (go_at_call_of 50 (Value.float .f32 b); exact callD hcl (K2.out _)))
    quiet_step (first | (go_at_call_of 50 (Value.float .f32 a); exact callD hcl (K1.out _)) | (go_at_call_of 50 (Value.float .f32 b); exact callD hcl (K2.out _)))
    quiet_step (first | (go_at_call_of 50 (Value.float .f32 a); exact callD hcl (K1.out _)) | (go_at_call_of 50 (Value.float .f32 b); exact callD hcl (K2.out _)))
    quiet_step (first | (go_at_call_of 50 (Value.float .f32 a); exact callD hcl (K1.out _)) | (go_at_call_of 50 (Value.float .f32 b); exact callD hcl (K2.out _)))
    quiet_step (first | (go_at_call_of 50 (Value.float .f32 a); exact callD hcl (K1.out _)) | (go_at_call_of 50 (Value.float .f32 b); exact callD hcl (K2.out _)))
    quiet_step (first | (go_at_call_of 50 (Value.float .f32 a); exact callD hcl (K1.out _)) | (go_at_call_of 50 (Value.float .f32 b); exact callD hcl (K2.out _)))
    quiet_step (first | (go_at_call_of 50 (Value.float .f32 a); exact callD hcl (K1.out _)) | (go_at_call_of 50 (Value.float .f32 b); exact callD hcl (K2.out _)))
    with_reducible refine quiet_yes ?_ (fun K hK => ?_)
    · kernel_rfl
    go_simp
    first | (refine hK _ ?_; clear hK K) | (apply Exists.intro; refine ⟨fun _ => ?_, hK _ ?_⟩; (first | (go_at_call_of 50 (Value.float .f32 a); exact callD hcl (K1.out _)) | (go_at_call_of 50 (Value.float .f32 b); exact callD hcl (K2.out _))); clear hK K)
    with_reducible refine quiet_yes ?_ (fun K hK => ?_)
    · kernel_rfl
    go_simp
    first | (refine hK _ ?_; clear hK K) | (apply Exists.intro; refine ⟨fun _ => ?_, hK _ ?_⟩; (first | (go_at_call_of 50 (Value.float .f32 a); exact callD hcl (K1.out _)) | (go_at_call_of 50 (Value.float .f32 b); exact callD hcl (K2.out _))); clear hK K)
    with_reducible refine quiet_yes ?_ (fun K hK => ?_)
    · kernel_rfl
    go_simp
    first | (refine hK _ ?_; clear hK K) | (apply Exists.intro; refine ⟨fun _ => ?_, hK _ ?_⟩; (first | (go_at_call_of 50 (Value.float .f32 a); exact callD hcl (K1.out _)) | (go_at_call_of 50 (Value.float .f32 b); exact callD hcl (K2.out _))); clear hK K)
    with_reducible refine quiet_yes ?_ (fun K hK => ?_)
    · kernel_rfl
    go_simp
    first | (refine hK _ ?_; clear hK K) | (apply Exists.intro; refine ⟨fun _ => ?_, hK _ ?_⟩; (first | (go_at_call_of 50 (Value.float .f32 a); exact callD hcl (K1.out _)) | (go_at_call_of 50 (Value.float .f32 b); exact callD hcl (K2.out _))); clear hK K)
    with_reducible refine quiet_yes ?_ (fun K hK => ?_)
    · kernel_rfl
    go_simp
    first | (refine hK _ ?_; clear hK K) | (apply Exists.intro; refine ⟨fun _ => ?_, hK _ ?_⟩; (first | (go_at_call_of 50 (Value.float .f32 a); exact callD hcl (K1.out _)) | (go_at_call_of 50 (Value.float .f32 b); exact callD hcl (K2.out _))); clear hK K)
    with_reducible refine quiet_yes ?_ (fun K hK => ?_)
    · kernel_rfl
    go_simp
    first | (refine hK _ ?_; clear hK K) | (apply Exists.intro; refine ⟨fun _ => ?_, hK _ ?_⟩; (first | (go_at_call_of 50 (Value.float .f32 a); exact callD hcl (K1.out _)) | (go_at_call_of 50 (Value.float .f32 b); exact callD hcl (K2.out _))); clear hK K)
    with_reducible refine quiet_yes ?_ (fun K hK => ?_)
    · kernel_rfl
    go_simp
    first | (refine hK _ ?_; clear hK K) | (apply Exists.intro; refine ⟨fun _ => ?_, hK _ ?_⟩; (first | (go_at_call_of 50 (Value.float .f32 a); exact callD hcl (K1.out _)) | (go_at_call_of 50 (Value.float .f32 b); exact callD hcl (K2.out _))); clear hK K)
    with_reducible refine quiet_yes ?_ (fun K hK => ?_)
    · kernel_rfl
    go_simp
    first | (refine hK _ ?_; clear hK K) | (apply Exists.intro; refine ⟨fun _ => ?_, hK _ ?_⟩; (first | (go_at_call_of 50 (Value.float .f32 a); exact callD hcl (K1.out _)) | (go_at_call_of 50 (Value.float .f32 b); exact callD hcl (K2.out _))); clear hK K)
    with_reducible refine quiet_yes ?_ (fun K hK => ?_)
    · kernel_rfl
    go_simp
    first | (refine hK _ ?_; clear hK K) | (apply Exists.intro; refine ⟨fun _ => ?_, hK _ ?_⟩; (first | (go_at_call_of 50 (Value.float .f32 a); exact callD hcl (K1.out _)) | (go_at_call_of 50 (Value.float .f32 b); exact callD hcl (K2.out _))); clear hK K)
    with_reducible refine quiet_yes ?_ (fun K hK => ?_)
    · kernel_rfl
    go_simp
    first | (refine hK _ ?_; clear hK K) | (apply Exists.intro; refine ⟨fun _ => ?_, hK _ ?_⟩; (first | (go_at_call_of 50 (Value.float .f32 a); exact callD hcl (K1.out _)) | (go_at_call_of 50 (Value.float .f32 b); exact callD hcl (K2.out _))); clear hK K)
    with_reducible refine quiet_yes ?_ (fun K hK => ?_)
    · kernel_rfl
    go_simp
    first | (refine hK _ ?_; clear hK K) | (apply Exists.intro; refine ⟨fun _ => ?_, hK _ ?_⟩; (first | (go_at_call_of 50 (Value.float .f32 a); exact callD hcl (K1.out _)) | (go_at_call_of 50 (Value.float .f32 b); exact callD hcl (K2.out _))); clear hK K)
    refine wpQuiet_nil ?_
    intro _ hw'
    obtain ⟨iq, rfl⟩ := hw'
    clear hcl
    have E1 := Hb.mk (HB.out iq)
    go_wp2
    go_ret
    rw [← KV.out]
    exact ⟨by simp, (by repeat (first | exact Below.refl _ _ | refine Below.on ?_ E1.out (by first | omega | (simp <;> omega)) | exact B0.out | refine Below.drews ?_ | refine Below.drew ?_ | refine Below.alloc ?_ (by first | omega | (simp <;> omega)) _ | refine Below.setCell ?_ (by first | omega | (simp <;> omega)) _))⟩
set_option maxHeartbeats 2000000 in
theorem sSameMap_any {k k' : Int} {n e f n' e' f' a b c a' b' c' : Nat} (h1 : Fl .f32 n a) (h2 : Fl .f32 e b) (h3 : Fl .f32 f c) (h4 : Fl .f32 n' a') (h5 : Fl .f32 e' b') (h6 : Fl .f32 f' c') (w : World) : Calls Try.prog 23 #[mp k a b c, mp k' a' b' c'] w (RS (.bool (sameM k n e f k' n' e' f')) w) := by
  have B0 := Hb.mk (Below.refl w.heap.size w)
  have K2 := Hb.mk (fun w => l01Same_any h3 h6 w)
  cases hk : (k == k')
  · have KV := Hb.mk (show sameM k n e f k' n' e' f' = false by unfold sameM; rw [hk]; rfl)
    go_enter Try.func23, Try.ntmps23
    go_wp2
    go_ret
    rw [KV.out]
    exact ⟨rfl, (by repeat (first | with_reducible refine Below.setCell ?_ (by first | omega | (simp <;> omega)) _ | with_reducible refine Below.drews ?_ | with_reducible refine Below.drew ?_ | with_reducible refine Below.alloc ?_ (by first | omega | (simp <;> omega)) _ | with_reducible exact B0.out | with_reducible exact Below.refl _ _))⟩
  · cases hs : sameC n e n' e'
    · have KV := Hb.mk (show sameM k n e f k' n' e' f' = false by unfold sameM; rw [hk, hs]; rfl)
      have HS := Hb.mk hs
      clear hs
      go_enter Try.func23, Try.ntmps23
      go_wp2_with (first | (go_at_call 49; refine (l02SameAt_any h1 h2 h4 h5 _ (by first | simp | simp [go_sem]) (by first | simp | simp [go_sem]) (by first | simp | simp [go_sem]) (by first | simp | simp [go_sem])).mono ?_; rw [HS.out]; rintro ex w1 ⟨rfl, b1⟩; have B1 := Hb.mk (Below.on (B := w.heap.size) (a := w) (by repeat (first | exact B0.out | refine Below.drews ?_ | refine Below.drew ?_ | refine Below.alloc ?_ (by have hq_ := B0.out.size; first | omega | (simp <;> omega)) _ | refine Below.setCell ?_ (by have hq_ := B0.out.size; first | omega | (simp <;> omega)) _)) b1 (by have hq_ := B0.out.size; first | omega | (simp <;> omega))); clear b1))
      go_ret
      rw [KV.out]
      exact ⟨rfl, (by repeat (first | with_reducible refine Below.setCell ?_ (by first | omega | (simp <;> omega)) _ | with_reducible refine Below.drews ?_ | with_reducible refine Below.drew ?_ | with_reducible refine Below.alloc ?_ (by first | omega | (simp <;> omega)) _ | with_reducible exact B1.out | with_reducible exact Below.refl _ _))⟩
    · have KV := Hb.mk (show sameM k n e f k' n' e' f' = ((f : Int) == (f' : Int)) by unfold sameM; rw [hk, hs]; rfl)
      have HS := Hb.mk hs
      clear hs
      go_enter Try.func23, Try.ntmps23
      go_wp2_with (first | (go_at_call 49; refine (l02SameAt_any h1 h2 h4 h5 _ (by first | simp | simp [go_sem]) (by first | simp | simp [go_sem]) (by first | simp | simp [go_sem]) (by first | simp | simp [go_sem])).mono ?_; rw [HS.out]; rintro ex w1 ⟨rfl, b1⟩; have B1 := Hb.mk (Below.on (B := w.heap.size) (a := w) (by repeat (first | exact B0.out | refine Below.drews ?_ | refine Below.drew ?_ | refine Below.alloc ?_ (by have hq_ := B0.out.size; first | omega | (simp <;> omega)) _ | refine Below.setCell ?_ (by have hq_ := B0.out.size; first | omega | (simp <;> omega)) _)) b1 (by have hq_ := B0.out.size; first | omega | (simp <;> omega))); have p0 := Hb.mk (At.keep b1 (p := ⟨w.heap.size, 0, none⟩) (v := .int .i64 k) (by simp [go_sem]) (by simp [go_sem])); obtain ⟨p0c, p0z, p0l⟩ := p0.out; have p1 := Hb.mk (At.keep b1 (p := ⟨w.heap.size, 1, none⟩) (v := .float .f32 a) (by simp [go_sem]) (by simp [go_sem])); obtain ⟨p1c, p1z, p1l⟩ := p1.out; have p2 := Hb.mk (At.keep b1 (p := ⟨w.heap.size, 2, none⟩) (v := .float .f32 b) (by simp [go_sem]) (by simp [go_sem])); obtain ⟨p2c, p2z, p2l⟩ := p2.out; have p3 := Hb.mk (At.keep b1 (p := ⟨w.heap.size, 3, none⟩) (v := .float .f32 c) (by simp [go_sem]) (by simp [go_sem])); obtain ⟨p3c, p3z, p3l⟩ := p3.out; have q0 := Hb.mk (At.keep b1 (p := ⟨w.heap.size + 1, 0, none⟩) (v := .int .i64 k') (by simp [go_sem]) (by simp [go_sem])); obtain ⟨q0c, q0z, q0l⟩ := q0.out; have q1 := Hb.mk (At.keep b1 (p := ⟨w.heap.size + 1, 1, none⟩) (v := .float .f32 a') (by simp [go_sem]) (by simp [go_sem])); obtain ⟨q1c, q1z, q1l⟩ := q1.out; have q2 := Hb.mk (At.keep b1 (p := ⟨w.heap.size + 1, 2, none⟩) (v := .float .f32 b') (by simp [go_sem]) (by simp [go_sem])); obtain ⟨q2c, q2z, q2l⟩ := q2.out; have q3 := Hb.mk (At.keep b1 (p := ⟨w.heap.size + 1, 3, none⟩) (v := .float .f32 c') (by simp [go_sem]) (by simp [go_sem])); obtain ⟨q3c, q3z, q3l⟩ := q3.out; clear b1) | (go_at_call 50; refine (K2.out _).mono ?_; rintro e w' ⟨rfl, n, rfl⟩))
      go_ret
      rw [KV.out]
      exact ⟨rfl, (by repeat (first | with_reducible refine Below.setCell ?_ (by first | omega | (simp <;> omega)) _ | with_reducible refine Below.drews ?_ | with_reducible refine Below.drew ?_ | with_reducible refine Below.alloc ?_ (by first | omega | (simp <;> omega)) _ | with_reducible exact B1.out | with_reducible exact Below.refl _ _))⟩
set_option maxHeartbeats 2000000 in
theorem law_SameMap {k0 : Int} {n0 e0 f0 : Nat} {k1 : Int} {n1 e1 f1 : Nat} (_wk0 : (Lit.int .i64 k0).wf = true) (wn0 : (Lit.float .f32 n0).wf = true) (we0 : (Lit.float .f32 e0).wf = true) (wf0 : (Lit.float .f32 f0).wf = true) (_wk1 : (Lit.int .i64 k1).wf = true) (wn1 : (Lit.float .f32 n1).wf = true) (we1 : (Lit.float .f32 e1).wf = true) (wf1 : (Lit.float .f32 f1).wf = true) (w : World) : Calls Try.prog 6 #[mp k0 n0 e0 f0, mp k1 n1 e1 f1] w (RS (.bool true) w) := by
  have KS := Hb.mk (fun w => sSameMap_any (k := k0) (k' := k1) (Fl.own wn0) (Fl.own we0) (Fl.own wf0) (Fl.own wn1) (Fl.own we1) (Fl.own wf1) w)
  have KG := Hb.mk (fun w => iSameMap_any (k := k0) (k' := k1) (Fl.own wn0) (Fl.own we0) (Fl.own wf0) (Fl.own wn1) (Fl.own we1) (Fl.own wf1) w)
  generalize sameM k0 (nrm .f32 n0) (nrm .f32 e0) (nrm .f32 f0) k1 (nrm .f32 n1) (nrm .f32 e1) (nrm .f32 f1) = v at *
  clear wn0 we0 wf0 wn1 we1 wf1
  have B0 := Hb.mk (Below.refl w.heap.size w)
  cases v
  all_goals
    go_enter Try.func6, Try.ntmps6
    go_wp2
    refine region_all (by kernel_rfl) (by kernel_rfl) (fun I1 F1 hne1 HB1 hcl => ?_)
    have p1_k0 := keepF HB1 (p := ⟨w.heap.size, 0, none⟩) (v := .int .i64 k0) (by first | simp | simp [go_sem])
    have p1_n0 := keepF HB1 (p := ⟨w.heap.size, 1, none⟩) (v := .float .f32 n0) (by first | simp | simp [go_sem])
    have p1_e0 := keepF HB1 (p := ⟨w.heap.size, 2, none⟩) (v := .float .f32 e0) (by first | simp | simp [go_sem])
    have p1_f0 := keepF HB1 (p := ⟨w.heap.size, 3, none⟩) (v := .float .f32 f0) (by first | simp | simp [go_sem])
    have p1_k1 := keepF HB1 (p := ⟨w.heap.size + 1, 0, none⟩) (v := .int .i64 k1) (by first | simp | simp [go_sem])
    have p1_n1 := keepF HB1 (p := ⟨w.heap.size + 1, 1, none⟩) (v := .float .f32 n1) (by first | simp | simp [go_sem])
    have p1_e1 := keepF HB1 (p := ⟨w.heap.size + 1, 2, none⟩) (v := .float .f32 e1) (by first | simp | simp [go_sem])
    have p1_f1 := keepF HB1 (p := ⟨w.heap.size + 1, 3, none⟩) (v := .float .f32 f1) (by first | simp | simp [go_sem])
    repeat (quiet_step (first | (go_at_call 21; exact callS hcl (toMap_any _ _ _ _ _)) | (go_at_call 23; exact callS hcl (KS.out _)) | (go_at_call 24; exact callS hcl (KG.out _))))
    refine wpQuiet_nil ?_
    intro _ hw'
    obtain ⟨i1, rfl⟩ := hw'
    clear hcl
    go_wp2
    refine region_all (by kernel_rfl) (by kernel_rfl) (fun I2 F2 hne2 HB2 hcl => ?_)
    have p2_k0 := keepF HB2 (p := ⟨w.heap.size, 0, none⟩) (v := .int .i64 k0) (p1_k0 i1)
    have p2_n0 := keepF HB2 (p := ⟨w.heap.size, 1, none⟩) (v := .float .f32 n0) (p1_n0 i1)
    have p2_e0 := keepF HB2 (p := ⟨w.heap.size, 2, none⟩) (v := .float .f32 e0) (p1_e0 i1)
    have p2_f0 := keepF HB2 (p := ⟨w.heap.size, 3, none⟩) (v := .float .f32 f0) (p1_f0 i1)
    have p2_k1 := keepF HB2 (p := ⟨w.heap.size + 1, 0, none⟩) (v := .int .i64 k1) (p1_k1 i1)
    have p2_n1 := keepF HB2 (p := ⟨w.heap.size + 1, 1, none⟩) (v := .float .f32 n1) (p1_n1 i1)
    have p2_e1 := keepF HB2 (p := ⟨w.heap.size + 1, 2, none⟩) (v := .float .f32 e1) (p1_e1 i1)
    have p2_f1 := keepF HB2 (p := ⟨w.heap.size + 1, 3, none⟩) (v := .float .f32 f1) (p1_f1 i1)
    repeat (quiet_step (first | (go_at_call 21; exact callS hcl (toMap_any _ _ _ _ _)) | (go_at_call 23; exact callS hcl (KS.out _)) | (go_at_call 24; exact callS hcl (KG.out _))))
    refine wpQuiet_nil ?_
    intro _ hw'
    obtain ⟨i2, rfl⟩ := hw'
    clear hcl
    have E1 := Hb.mk (HB1.out i1)
    have E2 := Hb.mk (HB2.out i2)
    go_wp2
    go_ret
    exact ⟨rfl, Below.on (Below.on (by repeat (first | exact Below.refl _ _ | with_reducible assumption | refine Below.drews ?_ | refine Below.drew ?_ | refine Below.alloc ?_ (by simp <;> omega) _ | refine Below.setCell ?_ (by simp <;> omega) _)) E1.out (by simp <;> omega)) E2.out (by have := E1.out.size; simp at this; omega)⟩
end Go.Proofs.Ytjjhklfpdllijab
