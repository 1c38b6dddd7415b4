/-
  The law CrossWays, given what the program's and the model's cross yield.
-/
import Derived.Test.YtbpfheefhdlglaaLate
import Derived.Test.YtbpfheefhdlglaaWay
namespace Go.Proofs.Ytbpfheefhdlglaa
open Go Go.RowKit
set_option maxRecDepth 100000
theorem extract_pure {P : Program} {ops : Array Oper} {o : Oper} {x : Operand} {j : Nat} (ho : o.op = .extract x j) (C : World → Prop) (R : World → World → Prop) (a : Act) (v : Value) (hC : ∃ w, C w) (hy : YR P ops C R o v a) : Yields P ops o v a := by
  obtain ⟨dst, op, ty, pos, af, gd⟩ := o
  change op = .extract x j at ho
  subst ho
  rcases hy with ⟨h1, h2⟩ | h
  · obtain ⟨w0, hw0⟩ := hC
    refine .inl ⟨h1, fun w => ?_⟩
    have h3 := h2 w0 hw0
    revert h3
    simp only [execOp]
    generalize a.eval x = y
    unfold Instr.extract
    cases y
    case tuple vs =>
      cases hv : vs[j]?
      · simp [Oper.quietUpon, stuck, hv, Result.andThen, go_sem]
      · simp [Oper.quietUpon, hv, go_sem]
    all_goals simp [Oper.quietUpon, stuck, Result.andThen, go_sem]
  · exact .inr h
set_option maxHeartbeats 4000000 in
theorem law_CrossWays_of {a0 b0 c0 a1 b1 c1 X Y Z : Nat} {ok : Bool} (KS : Hb (∀ w, Calls Try.prog 67 #[wy a0 b0 c0, wy a1 b1 c1] w (RS (wyT X Y Z ok) w))) (KG : Hb (∀ w, Calls Try.prog 22 #[wy a0 b0 c0, wy a1 b1 c1] w (RS (wyT X Y Z ok) w))) (f0 : Fl .f32 X X) (f1 : Fl .f32 Y Y) (f2 : Fl .f32 Z Z) (w : World) :
    Calls Try.prog 12 #[wy a0 b0 c0, wy a1 b1 c1] w (RS (.bool true) w) := by
  have B0 := Hb.mk (Below.refl w.heap.size w)
  cases ok
  all_goals
    go_enter Try.func12, Try.ntmps12
    go_wp2
    refine region_freshl (o := ?o1) 8 7 (by kernel_rfl) (by kernel_rfl) (by kernel_rfl) rfl rfl (extract_pure rfl) (fun d v c a w h => by cases d <;> exact h) rfl rfl (fun a w => ?hA1) (fun I1 F1 hne1 HB1 => ?h1)
    case hA1 =>
      go_simp
      try rfl
    case h1 =>
      have p1_0_0 := keepF HB1 (p := ⟨w.heap.size, 0, none⟩) (v := .float .f32 a0) (by first | simp | simp [go_sem])
      have p1_0_1 := keepF HB1 (p := ⟨w.heap.size, 1, none⟩) (v := .float .f32 b0) (by first | simp | simp [go_sem])
      have p1_0_2 := keepF HB1 (p := ⟨w.heap.size, 2, none⟩) (v := .float .f32 c0) (by first | simp | simp [go_sem])
      have p1_1_0 := keepF HB1 (p := ⟨w.heap.size + 1, 0, none⟩) (v := .float .f32 a1) (by first | simp | simp [go_sem])
      have p1_1_1 := keepF HB1 (p := ⟨w.heap.size + 1, 1, none⟩) (v := .float .f32 b1) (by first | simp | simp [go_sem])
      have p1_1_2 := keepF HB1 (p := ⟨w.heap.size + 1, 2, none⟩) (v := .float .f32 c1) (by first | simp | simp [go_sem])
      simp only [List.take_succ_cons, List.take_zero, List.drop_succ_cons, List.drop_zero]
      repeat (refine lex_step (fun K hK => ?_); go_simp; first | (refine hK _ ?_; clear hK K) | (apply Exists.intro; refine ⟨fun _ => ?_, hK _ ?_⟩; (first | (go_at_call 66; exact callR (toWay_any _ _ _ _)) | (go_at_call 67; exact callR (KS.out _)) | (go_at_call 22; exact callR (KG.out _))); clear hK K))
      refine lex_nil ?_
      intro i1 w1 hb1
      have bF1 : Below (F1 i1).heap.size (F1 i1) w1 := Below.on ((Below.refl _ _).alloc (Nat.le_refl _) _) hb1 (by simp)
      have d1_0 := Below.keep hb1 (p := ⟨(F1 i1).heap.size, 0, none⟩) (v := .float .f32 0) (by simp)
      have z1_0 : w1.frozen? ⟨(F1 i1).heap.size, 0, none⟩ = false := by rw [hb1.frozen (by simp)]; simp
      have d1_1 := Below.keep hb1 (p := ⟨(F1 i1).heap.size, 1, none⟩) (v := .float .f32 0) (by simp)
      have z1_1 : w1.frozen? ⟨(F1 i1).heap.size, 1, none⟩ = false := by rw [hb1.frozen (by simp)]; simp
      have d1_2 := Below.keep hb1 (p := ⟨(F1 i1).heap.size, 2, none⟩) (v := .float .f32 0) (by simp)
      have z1_2 : w1.frozen? ⟨(F1 i1).heap.size, 2, none⟩ = false := by rw [hb1.frozen (by simp)]; simp
      have q1_0_0 := Below.keep bF1 (p1_0_0 i1)
      have q1_0_1 := Below.keep bF1 (p1_0_1 i1)
      have q1_0_2 := Below.keep bF1 (p1_0_2 i1)
      have q1_1_0 := Below.keep bF1 (p1_1_0 i1)
      have q1_1_1 := Below.keep bF1 (p1_1_1 i1)
      have q1_1_2 := Below.keep bF1 (p1_1_2 i1)
      have BF1 := Hb.mk (Below.on (HB1.out i1) bF1 (HB1.out i1).size)
      have lt1 : (F1 i1).heap.size < w1.heap.size := by have := hb1.size; simp at this; omega
      have hs1 := (HB1.out i1).size
      simp at hs1
      have n1_0 : w.heap.size ≠ (F1 i1).heap.size := by omega
      have n1_1 : w.heap.size + 1 ≠ (F1 i1).heap.size := by omega
      go_wp2
      generalize hW : World.setCell (World.setCell (World.setCell (w1) ⟨(F1 i1).heap.size, 0, none⟩ (.float .f32 X)) ⟨(F1 i1).heap.size, 1, none⟩ (.float .f32 Y)) ⟨(F1 i1).heap.size, 2, none⟩ (.float .f32 Z) = W
      have r1_0_0 : W.cell? ⟨w.heap.size, 0, none⟩ = some (.float .f32 a0) := by rw [← hW]; simp [go_sem, q1_0_0]
      have r1_0_1 : W.cell? ⟨w.heap.size, 1, none⟩ = some (.float .f32 b0) := by rw [← hW]; simp [go_sem, q1_0_1]
      have r1_0_2 : W.cell? ⟨w.heap.size, 2, none⟩ = some (.float .f32 c0) := by rw [← hW]; simp [go_sem, q1_0_2]
      have r1_1_0 : W.cell? ⟨w.heap.size + 1, 0, none⟩ = some (.float .f32 a1) := by rw [← hW]; simp [go_sem, q1_1_0]
      have r1_1_1 : W.cell? ⟨w.heap.size + 1, 1, none⟩ = some (.float .f32 b1) := by rw [← hW]; simp [go_sem, q1_1_1]
      have r1_1_2 : W.cell? ⟨w.heap.size + 1, 2, none⟩ = some (.float .f32 c1) := by rw [← hW]; simp [go_sem, q1_1_2]
      have s1_0 : W.cell? ⟨(F1 i1).heap.size, 0, none⟩ = some (.float .f32 X) := by rw [← hW]; simp [go_sem, d1_0]
      have s1_1 : W.cell? ⟨(F1 i1).heap.size, 1, none⟩ = some (.float .f32 Y) := by rw [← hW]; simp [go_sem, d1_1]
      have s1_2 : W.cell? ⟨(F1 i1).heap.size, 2, none⟩ = some (.float .f32 Z) := by rw [← hW]; simp [go_sem, d1_2]
      have lW : (F1 i1).heap.size < W.heap.size := by rw [← hW]; simp; exact lt1
      have BW : Below w.heap.size w W := by
        rw [← hW]
        refine Below.setCell ?_ (by show w.heap.size ≤ (F1 i1).heap.size; omega) _
        refine Below.setCell ?_ (by show w.heap.size ≤ (F1 i1).heap.size; omega) _
        refine Below.setCell ?_ (by show w.heap.size ≤ (F1 i1).heap.size; omega) _
        exact Below.on (by repeat (first | exact Below.refl _ _ | refine Below.alloc ?_ (by first | omega | (simp <;> omega)) _)) BF1.out (by simp <;> omega)
      generalize (F1 i1).heap.size = N at *
      clear hW HB1 BF1 bF1 hb1 lt1 hs1 B0 p1_0_0 q1_0_0 p1_0_1 q1_0_1 p1_0_2 q1_0_2 p1_1_0 q1_1_0 p1_1_1 q1_1_1 p1_1_2 q1_1_2 d1_0 z1_0 d1_1 z1_1 d1_2 z1_2 n1_0 n1_1
      refine region_freshl (o := ?o2) 8 7 (by kernel_rfl) (by kernel_rfl) (by kernel_rfl) rfl rfl (extract_pure rfl) (fun d v c a w h => by cases d <;> exact h) rfl rfl (fun a w => ?hA2) (fun I2 F2 hne2 HB2 => ?h2)
      case hA2 =>
        go_simp
        try rfl
      case h2 =>
        have p2_0_0 := keepF HB2 (p := ⟨w.heap.size, 0, none⟩) (v := .float .f32 a0) r1_0_0
        have p2_0_1 := keepF HB2 (p := ⟨w.heap.size, 1, none⟩) (v := .float .f32 b0) r1_0_1
        have p2_0_2 := keepF HB2 (p := ⟨w.heap.size, 2, none⟩) (v := .float .f32 c0) r1_0_2
        have p2_1_0 := keepF HB2 (p := ⟨w.heap.size + 1, 0, none⟩) (v := .float .f32 a1) r1_1_0
        have p2_1_1 := keepF HB2 (p := ⟨w.heap.size + 1, 1, none⟩) (v := .float .f32 b1) r1_1_1
        have p2_1_2 := keepF HB2 (p := ⟨w.heap.size + 1, 2, none⟩) (v := .float .f32 c1) r1_1_2
        simp only [List.take_succ_cons, List.take_zero, List.drop_succ_cons, List.drop_zero]
        repeat (refine lex_step (fun K hK => ?_); go_simp; first | (refine hK _ ?_; clear hK K) | (apply Exists.intro; refine ⟨fun _ => ?_, hK _ ?_⟩; (first | (go_at_call 66; exact callR (toWay_any _ _ _ _)) | (go_at_call 67; exact callR (KS.out _)) | (go_at_call 22; exact callR (KG.out _))); clear hK K))
        refine lex_nil ?_
        intro i2 w2 hb2
        have bF2 : Below (F2 i2).heap.size (F2 i2) w2 := Below.on ((Below.refl _ _).alloc (Nat.le_refl _) _) hb2 (by simp)
        have d2_0 := Below.keep hb2 (p := ⟨(F2 i2).heap.size, 0, none⟩) (v := .float .f32 0) (by simp)
        have z2_0 : w2.frozen? ⟨(F2 i2).heap.size, 0, none⟩ = false := by rw [hb2.frozen (by simp)]; simp
        have d2_1 := Below.keep hb2 (p := ⟨(F2 i2).heap.size, 1, none⟩) (v := .float .f32 0) (by simp)
        have z2_1 : w2.frozen? ⟨(F2 i2).heap.size, 1, none⟩ = false := by rw [hb2.frozen (by simp)]; simp
        have d2_2 := Below.keep hb2 (p := ⟨(F2 i2).heap.size, 2, none⟩) (v := .float .f32 0) (by simp)
        have z2_2 : w2.frozen? ⟨(F2 i2).heap.size, 2, none⟩ = false := by rw [hb2.frozen (by simp)]; simp
        have q2_0_0 := Below.keep bF2 (p2_0_0 i2)
        have q2_0_1 := Below.keep bF2 (p2_0_1 i2)
        have q2_0_2 := Below.keep bF2 (p2_0_2 i2)
        have q2_1_0 := Below.keep bF2 (p2_1_0 i2)
        have q2_1_1 := Below.keep bF2 (p2_1_1 i2)
        have q2_1_2 := Below.keep bF2 (p2_1_2 i2)
        have t2_0 := Below.keep bF2 (Below.keep (HB2.out i2) s1_0)
        have t2_1 := Below.keep bF2 (Below.keep (HB2.out i2) s1_1)
        have t2_2 := Below.keep bF2 (Below.keep (HB2.out i2) s1_2)
        have BF2 := Hb.mk (Below.on (HB2.out i2) bF2 (HB2.out i2).size)
        have lt2 : (F2 i2).heap.size < w2.heap.size := by have := hb2.size; simp at this; omega
        have hs2 := (HB2.out i2).size
        have n2 : N ≠ (F2 i2).heap.size := by omega
        have n2' : (F2 i2).heap.size ≠ N := by omega
        go_wp2_with (first | (go_at_call 64; refine (eqWay_any f0 f1 f2 f0 f1 f2 _).mono ?_; rintro e w5 ⟨rfl, b5⟩; have B5 := Hb.mk b5; clear b5))
        go_ret
        refine ⟨rfl, ?_⟩
        refine Below.on ?_ B5.out (by have := BW.size; simp; omega)
        refine Below.setCell ?_ (by have := BW.size; show w.heap.size ≤ (F2 i2).heap.size; omega) _
        refine Below.setCell ?_ (by have := BW.size; show w.heap.size ≤ (F2 i2).heap.size; omega) _
        refine Below.setCell ?_ (by have := BW.size; show w.heap.size ≤ (F2 i2).heap.size; omega) _
        exact Below.on BW BF2.out BW.size
end Go.Proofs.Ytbpfheefhdlglaa
