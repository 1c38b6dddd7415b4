/-
  The exact law TileKey, on the contracts of both sides. No condition.
-/
import Derived.Test.YtgbcgckkjhgchabTiv
namespace Go.Proofs.Ytgbcgckkjhgchab
open Go Go.RowKit
set_option maxRecDepth 100000

set_option maxHeartbeats 2000000 in
theorem sTileKey_any {z x y : Int} (w : World) : Calls Try.prog 17 #[.int .i64 z, .int .i64 x, .int .i64 y] w (RS (stT' (tkeyS z x y) (tileB z x y)) w) := by
  have KZ := Hf.mk (fun w => l07Zoom_any (i := z) w)
  have B0 := Hb.mk (Below.refl w.heap.size w)
  cases hz : zoomB z
  · rw [hz] at KZ
    have hb : tileB z x y = false := by unfold tileB; rw [hz, Bool.false_and]
    have KS := Hf.mk (show tkeyS z x y = ⟨#[]⟩ by unfold tkeyS; rw [hb]; rfl)
    have KB := Hf.mk hb
    clear hb hz
    go_enter Try.func17, Try.ntmps17
    go_wp2_with (first | (go_at_call 63; refine (KZ.out _).mono ?_; rintro e w' ⟨rfl, n1, rfl⟩))
    go_ret2
    rw [KS.out, KB.out]
    exact ⟨rfl, (by repeat (first | exact B0.out | refine Below.drews ?_ | refine Below.drew ?_ | refine Below.alloc ?_ (by have hq_ := B0.out.size; first | omega | (simp <;> omega)) _ | refine Below.setCell ?_ (by have hq_ := B0.out.size; first | omega | (simp <;> omega)) _))⟩
  · rw [hz] at KZ
    obtain ⟨n, rfl, hn⟩ := zoom_nat hz
    have hp := two20' hn
    have e : tileB (n : Int) x y = (decide (0 ≤ x ∧ x < ((2 ^ n : Nat) : Int)) && decide (0 ≤ y ∧ y < ((2 ^ n : Nat) : Int))) := by
      unfold tileB; rw [hz, Bool.true_and, Int.toNat_natCast]
    have hw := w64_pow hn
    have e2 : ((2 ^ n : Nat) : Int) = (2 : Int) ^ n := by simp
    rw [e2] at e
    have hp2 : (2 : Int) ^ n ≤ 1048576 := by rw [← e2]; omega
    have hp3 : (1 : Int) ≤ (2 : Int) ^ n := by rw [← e2]; have := Nat.two_pow_pos n; omega
    clear hz
    by_cases h1 : 0 ≤ x ∧ x < (2 : Int) ^ n
    · by_cases h2 : 0 ≤ y ∧ y < (2 : Int) ^ n
      · have hb : tileB (n : Int) x y = true := by rw [e, decide_eq_true h1, decide_eq_true h2]; rfl
        obtain ⟨X, rfl⟩ : ∃ X : Nat, x = (X : Int) := ⟨x.toNat, by omega⟩
        obtain ⟨Y, rfl⟩ : ∃ Y : Nat, y = (Y : Int) := ⟨y.toNat, by omega⟩
        have KS := Hf.mk (show tkeyS (n : Int) (X : Int) (Y : Int) = keyS n X Y by unfold tkeyS; rw [hb]; simp)
        have KB := Hf.mk hb
        have KK := Hf.mk (fun w => l07Key_any (z := n) (X := X) (Y := Y) hn (by omega) (by omega) w)
        have a1 : (0 : Int) ≤ X := by omega
        have a2 : (X : Int) ≤ (2 : Int) ^ n - 1 := by omega
        have a3 : (0 : Int) ≤ Y := by omega
        have a4 : (Y : Int) ≤ (2 : Int) ^ n - 1 := by omega
        clear hb e h1 h2 e2
        generalize keyS n X Y = K at *
        go_enter Try.func17, Try.ntmps17
        have tk_a : True := trivial; have tk_b : True := trivial
        go_wp2_with (first | (go_at_call 63; refine (KZ.out _).mono ?_; rintro e w' ⟨rfl, n1, rfl⟩) | (go_at_call 68; clear tk_a; ((with_reducible refine (l00In_yes a1 a2 _).mono ?_); rintro e w' ⟨rfl, n2, rfl⟩)) | (go_at_call 68; clear tk_b; ((with_reducible refine (l00In_yes a3 a4 _).mono ?_); rintro e w' ⟨rfl, n3, rfl⟩)) | (go_at_call 65; refine (KK.out _).mono ?_; rintro e w1 ⟨rfl, b1⟩; have B1 := Hb.mk (Below.on (B := w.heap.size) (a := w) (by repeat (first | exact B0.out | refine Below.drews ?_ | refine Below.drew ?_ | refine Below.alloc ?_ (by have hq_ := B0.out.size; first | omega | (simp <;> omega)) _ | refine Below.setCell ?_ (by have hq_ := B0.out.size; first | omega | (simp <;> omega)) _)) b1 (by have hq_ := B0.out.size; first | omega | (simp <;> omega))); clear b1))
        go_ret2
        rw [KS.out, KB.out]
        exact ⟨rfl, (by repeat (first | exact B1.out | refine Below.drews ?_ | refine Below.drew ?_ | refine Below.alloc ?_ (by have hq_ := B1.out.size; first | omega | (simp <;> omega)) _ | refine Below.setCell ?_ (by have hq_ := B1.out.size; first | omega | (simp <;> omega)) _))⟩
      · have hb : tileB (n : Int) x y = false := by rw [e, decide_eq_false h2, Bool.and_false]
        have KS := Hf.mk (show tkeyS (n : Int) x y = ⟨#[]⟩ by unfold tkeyS; rw [hb]; rfl)
        have KB := Hf.mk hb
        have a1 : (0 : Int) ≤ x := by omega
        have a2 : x ≤ (2 : Int) ^ n - 1 := by omega
        have a3 : y < 0 ∨ (2 : Int) ^ n - 1 < y := by omega
        clear hb e h1 h2 e2
        go_enter Try.func17, Try.ntmps17
        have tk_a : True := trivial; have tk_b : True := trivial
        go_wp2_with (first | (go_at_call 63; refine (KZ.out _).mono ?_; rintro e w' ⟨rfl, n1, rfl⟩) | (go_at_call 68; clear tk_a; ((with_reducible refine (l00In_yes a1 a2 _).mono ?_); rintro e w' ⟨rfl, n2, rfl⟩)) | (go_at_call 68; clear tk_b; ((with_reducible refine (l00In_no a3 _).mono ?_); rintro e w' ⟨rfl, n3, rfl⟩)))
        go_ret2
        rw [KS.out, KB.out]
        exact ⟨rfl, (by repeat (first | exact B0.out | refine Below.drews ?_ | refine Below.drew ?_ | refine Below.alloc ?_ (by have hq_ := B0.out.size; first | omega | (simp <;> omega)) _ | refine Below.setCell ?_ (by have hq_ := B0.out.size; first | omega | (simp <;> omega)) _))⟩
    · have hb : tileB (n : Int) x y = false := by rw [e, decide_eq_false h1, Bool.false_and]
      have KS := Hf.mk (show tkeyS (n : Int) x y = ⟨#[]⟩ by unfold tkeyS; rw [hb]; rfl)
      have KB := Hf.mk hb
      have a3 : x < 0 ∨ (2 : Int) ^ n - 1 < x := by omega
      clear hb e h1 e2
      go_enter Try.func17, Try.ntmps17
      have tk_a : True := trivial; have tk_b : True := trivial
      go_wp2_with (first | (go_at_call 63; refine (KZ.out _).mono ?_; rintro e w' ⟨rfl, n1, rfl⟩) | (go_at_call 68; clear tk_a; ((with_reducible refine (l00In_no a3 _).mono ?_); rintro e w' ⟨rfl, n2, rfl⟩)))
      go_ret2
      rw [KS.out, KB.out]
      exact ⟨rfl, (by repeat (first | exact B0.out | refine Below.drews ?_ | refine Below.drew ?_ | refine Below.alloc ?_ (by have hq_ := B0.out.size; first | omega | (simp <;> omega)) _ | refine Below.setCell ?_ (by have hq_ := B0.out.size; first | omega | (simp <;> omega)) _))⟩
theorem law_TileKey {z x y : Int} (_w0 : (Lit.int .i64 z).wf = true) (_w1 : (Lit.int .i64 x).wf = true) (_w2 : (Lit.int .i64 y).wf = true) (w : World) : Calls Try.prog 4 #[.int .i64 z, .int .i64 x, .int .i64 y] w (fun e w' => e = .returned (.bool true) ∧ Below w.heap.size w w') := by
  have KS := Hf.mk (fun w => sTileKey_any (z := z) (x := x) (y := y) w)
  have KI := Hf.mk (fun w => iTileKey_any (z := z) (x := x) (y := y) w)
  have B0 := Hb.mk (Below.refl w.heap.size w)
  generalize tkeyS z x y = s at *
  generalize tileB z x y = b at *
  go_enter Try.func4, Try.ntmps4
  go_wp2_with (first | (go_at_call 17; refine (KS.out _).mono ?_; rintro e w1 ⟨rfl, b1⟩; have B1 := Hb.mk (Below.on (B := w.heap.size) (a := w) (by repeat (first | exact B0.out | refine Below.drews ?_ | refine Below.drew ?_ | refine Below.alloc ?_ (by have hq_ := B0.out.size; first | omega | (simp <;> omega)) _ | refine Below.setCell ?_ (by have hq_ := B0.out.size; first | omega | (simp <;> omega)) _)) b1 (by have hq_ := B0.out.size; first | omega | (simp <;> omega))); clear b1) | (go_at_call 18; refine (KI.out _).mono ?_; rintro e w2 ⟨rfl, b2⟩; have B2 := Hb.mk (Below.on (B := w.heap.size) (a := w) (by repeat (first | exact B1.out | refine Below.drews ?_ | refine Below.drew ?_ | refine Below.alloc ?_ (by have hq_ := B1.out.size; first | omega | (simp <;> omega)) _ | refine Below.setCell ?_ (by have hq_ := B1.out.size; first | omega | (simp <;> omega)) _)) b2 (by have hq_ := B1.out.size; first | omega | (simp <;> omega))); clear b2))
  go_ret
  exact ⟨rfl, (by repeat (first | exact B2.out | refine Below.drews ?_ | refine Below.drew ?_ | refine Below.alloc ?_ (by have hq_ := B2.out.size; first | omega | (simp <;> omega)) _ | refine Below.setCell ?_ (by have hq_ := B2.out.size; first | omega | (simp <;> omega)) _))⟩
end Go.Proofs.Ytgbcgckkjhgchab
