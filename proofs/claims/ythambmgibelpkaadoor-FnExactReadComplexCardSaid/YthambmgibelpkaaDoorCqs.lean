/-
ReadComplex of the model and of the program.
-/
import Derived.Test.YthambmgibelpkaaDoorCqn
namespace Go.Proofs.YthambmgibelpkaaDoor
open Go Go.RowKit
set_option maxRecDepth 100000
set_option maxHeartbeats 1000000 in
theorem l01Digits_any {A : ByteArray} (h8 : A.size = 8) (w : World) : Calls Tryd.prog 14 #[.string A] w (RW A.data.toList w) := by
  obtain ⟨l, hl⟩ : ∃ l, l = A.data.toList := ⟨_, rfl⟩
  have HA := Hf.mk hl.symm
  rw [← hl]
  have hl8 := Hf.mk (show l.length = 8 by rw [hl]; exact h8)
  have H8 := Hf.mk h8
  clear hl h8
  go_enter Tryd.func14, Tryd.ntmps14
  go_wp2
  go_loopw [4, 5] (fun n k w' => ∃ q : Nat, q ≤ 8 ∧ k = .int .i64 q ∧ n = .int .i64 (hval (l.take q) : Nat) ∧ Hf (upH l q) ∧ Drew w w') (fun _ k _ => 8 - (intOf k).toNat)
  case atStart => exact ⟨0, by omega, rfl, rfl, ⟨fun j hj => absurd hj (Nat.not_lt_zero j)⟩, (by repeat (first | exact Drew.refl _ | refine Drew.more ?_))⟩
  case round =>
    obtain ⟨q, hq, rfl, rfl, hH, nd, rfl⟩ := hrel
    have hv := hval_32 hl8.out hq hH.out
    obtain ⟨X, hX⟩ : ∃ X, X = hval (l.take q) := ⟨_, rfl⟩
    rw [← hX] at hv ⊢
    have HX := Hf.mk hX
    clear hX
    by_cases hq8 : q < 8
    · have hlt8 : q < A.size := by rw [H8.out]; exact hq8
      have hb : (A[q]'hlt8).toNat < 256 := UInt8.toNat_lt _
      have hb2 : (A.data[q]'hlt8).toNat < 256 := hb
      have HB := Hf.mk (show (l.getD q 0).toNat = (A[q]'hlt8).toNat by rw [← HA.out, ← byt_d, ← byt_at A q hlt8])
      have KNo := Hf.mk (fun (h : hxd (l.getD q 0) = false) => hwOk_dig (l := l) (m := q) (by rw [hl8.out]; exact hq8) h)
      by_cases c1 : (A[q]'hlt8).toNat < 48
      · have c1' : (A.data[q]'hlt8).toNat < 48 := c1
        have K := Hf.mk (KNo.out (by unfold hxd; rw [HB.out]; exact decide_eq_false (by omega)))
        go_wp2
        go_ret2
        exact RW.no K.out (by repeat (first | exact Below.refl _ _ | with_reducible assumption | refine Below.drews ?_ | refine Below.drew ?_ | refine Below.alloc ?_ (by simp <;> omega) _ | refine Below.setCell ?_ (by simp <;> omega) _))
      · have c1' : ¬ (A.data[q]'hlt8).toNat < 48 := c1
        by_cases c2 : (A[q]'hlt8).toNat ≤ 57
        · have c2' : (A.data[q]'hlt8).toNat ≤ 57 := c2
          have KD := Hf.mk (show hxd (l.getD q 0) = true by unfold hxd; rw [HB.out]; exact decide_eq_true (by omega))
          have KH := Hf.mk (show hval (l.take (q + 1)) = 16 * X + ((A[q]'hlt8).toNat - 48) by rw [hval_up (by rw [hl8.out]; exact hq8), ← HX.out]; unfold hxv; rw [HB.out]; split <;> omega)
          go_wp2
          go_roundw
          case rel => exact ⟨q + 1, by omega, i_ext2 (by omega), i_ext2 (by rw [KH.out]; omega), ⟨hH.out.up KD.out⟩, (by repeat (first | exact Drew.refl _ | refine Drew.more ?_))⟩
          case measure => simp [intOf]; omega
        · have c2' : ¬ (A.data[q]'hlt8).toNat ≤ 57 := c2
          by_cases c3 : (A[q]'hlt8).toNat < 97
          · have c3' : (A.data[q]'hlt8).toNat < 97 := c3
            have K := Hf.mk (KNo.out (by unfold hxd; rw [HB.out]; exact decide_eq_false (by omega)))
            go_wp2
            go_ret2
            exact RW.no K.out (by repeat (first | exact Below.refl _ _ | with_reducible assumption | refine Below.drews ?_ | refine Below.drew ?_ | refine Below.alloc ?_ (by simp <;> omega) _ | refine Below.setCell ?_ (by simp <;> omega) _))
          · have c3' : ¬ (A.data[q]'hlt8).toNat < 97 := c3
            by_cases c4 : (A[q]'hlt8).toNat ≤ 102
            · have c4' : (A.data[q]'hlt8).toNat ≤ 102 := c4
              have KD := Hf.mk (show hxd (l.getD q 0) = true by unfold hxd; rw [HB.out]; exact decide_eq_true (by omega))
              have KH := Hf.mk (show hval (l.take (q + 1)) = 16 * X + ((A[q]'hlt8).toNat - 97 + 10) by rw [hval_up (by rw [hl8.out]; exact hq8), ← HX.out]; unfold hxv; rw [HB.out]; split <;> omega)
              go_wp2
              go_roundw
              case rel => exact ⟨q + 1, by omega, i_ext2 (by omega), i_ext2 (by rw [KH.out]; omega), ⟨hH.out.up KD.out⟩, (by repeat (first | exact Drew.refl _ | refine Drew.more ?_))⟩
              case measure => simp [intOf]; omega
            · have c4' : ¬ (A.data[q]'hlt8).toNat ≤ 102 := c4
              have K := Hf.mk (KNo.out (by unfold hxd; rw [HB.out]; exact decide_eq_false (by omega)))
              go_wp2
              go_ret2
              exact RW.no K.out (by repeat (first | exact Below.refl _ _ | with_reducible assumption | refine Below.drews ?_ | refine Below.drew ?_ | refine Below.alloc ?_ (by simp <;> omega) _ | refine Below.setCell ?_ (by simp <;> omega) _))
    · obtain rfl : q = 8 := by omega
      have hX8 := Hf.mk (show X = hval l by rw [HX.out, List.take_of_length_le (by rw [hl8.out]; exact Nat.le_refl _)])
      have HE := Hf.mk (hwOk_end hl8.out hH.out)
      rw [← hX8.out] at HE
      have HFr := Hf.mk (show ∀ w, Calls Tryd.prog 18 #[.int .i64 (X : Int)] w (RT (.float .f32 X) w) from fun w => by have := l01From_any (n := (X : Int)) (by omega) (by omega) w; rw [Int.toNat_natCast] at this; exact this)
      have HBt := Hf.mk (fun w => l01Bits_any (Fl.own (k := .f32) (x := X) (wf_of_lt .f32 _ (by show _ < 2 ^ 32; omega))) w)
      have hlt8 : ¬ (8 : Int) < (A.size : Int) := by rw [H8.out]; omega
      clear HX hq8
      by_cases hc : nrm .f32 X = X
      · rw [hc] at HBt
        have hk := Hf.mk (HE.out.trans (decide_eq_true hc))
        clear HE hc
        go_wp2_with (first | (go_at_call 18; refine (HFr.out _).mono ?_; rintro e w' ⟨rfl, n1, rfl⟩) | (go_at_call 19; refine (HBt.out _).mono ?_; rintro e w' ⟨rfl, n2, rfl⟩))
        go_ret2
        exact RW.yes hk.out hX8.out (by repeat (first | exact Below.refl _ _ | with_reducible assumption | refine Below.drews ?_ | refine Below.drew ?_ | refine Below.alloc ?_ (by simp <;> omega) _ | refine Below.setCell ?_ (by simp <;> omega) _))
      · have hk := Hf.mk (HE.out.trans (decide_eq_false hc))
        have hne : (((nrm .f32 X : Nat) : Int) != (X : Int)) = true := by rw [bne_iff_ne]; omega
        generalize nrm .f32 X = Y at HBt hne
        clear HE hc
        go_wp2_with (first | (go_at_call 18; refine (HFr.out _).mono ?_; rintro e w' ⟨rfl, n1, rfl⟩) | (go_at_call 19; refine (HBt.out _).mono ?_; rintro e w' ⟨rfl, n2, rfl⟩))
        go_ret2
        exact RW.no hk.out (by repeat (first | exact Below.refl _ _ | with_reducible assumption | refine Below.drews ?_ | refine Below.drew ?_ | refine Below.alloc ?_ (by simp <;> omega) _ | refine Below.setCell ?_ (by simp <;> omega) _))
/-- 'returns a complex number and whether the word says it' -/
def RWc (l : List UInt8) (w : World) (e : Ending) (w' : World) : Prop := ∃ x y, e = .returned (.tuple #[.complex .f32 x y, .bool (cwOk l)]) ∧ (cwOk l = true → (x, y) = cwP l) ∧ Below w.heap.size w w'
theorem RWc.no {l : List UInt8} {w w' : World} {x y : Nat} (h : cwOk l = false) (b : Below w.heap.size w w') : RWc l w (.returned (.tuple #[.complex .f32 x y, .bool false])) w' := ⟨x, y, by rw [h], (by intro e; rw [h] at e; cases e), b⟩
theorem RWc.yes {l : List UInt8} {w w' : World} {x y : Nat} (h : cwOk l = true) (hx : (x, y) = cwP l) (b : Below w.heap.size w w') : RWc l w (.returned (.tuple #[.complex .f32 x y, .bool true])) w' := ⟨x, y, by rw [h], fun _ => hx, b⟩
theorem RWc.out_no {l : List UInt8} {w w' : World} {e : Ending} (hk : cwOk l = false) (h : RWc l w e w') : ∃ x y, e = .returned (.tuple #[.complex .f32 x y, .bool false]) ∧ Below w.heap.size w w' := by
  obtain ⟨x, y, he, _, hb⟩ := h
  rw [hk] at he
  exact ⟨x, y, he, hb⟩
theorem RWc.out_yes {l : List UInt8} {w w' : World} {e : Ending} (hk : cwOk l = true) (h : RWc l w e w') : RS (.tuple #[.complex .f32 (cwP l).1 (cwP l).2, .bool true]) w e w' := by
  obtain ⟨x, y, he, hx, hb⟩ := h
  have := hx hk
  rw [hk] at he
  rw [← this]
  exact ⟨he, hb⟩
set_option maxHeartbeats 400000 in
theorem iCword_any (z : ByteArray) (w : World) : Calls Tryd.prog 11 #[.string z] w (RWc z.data.toList w) := by
  have hsl : z.data.toList.length = z.size := rfl
  by_cases h16 : z.size = 16
  · have hd : ((z.size : Int) != 16) = false := by rw [h16]; rfl
    have h8 : (8 : Int) ≤ (z.size : Int) := by omega
    have H1 := Hf.mk (fun w => iWord_any (z.extract 0 8) w)
    have H2 := Hf.mk (fun w => iWord_any (z.extract 8 z.size) w)
    rw [ext_lo] at H1
    rw [ext_hi z h16] at H2
    have HC := Hf.mk (cwOk_two (l := z.data.toList) (by rw [hsl]; exact h16))
    have HP : Hf (cwP z.data.toList = (hval (z.data.toList.take 8), hval (z.data.toList.drop 8))) := ⟨rfl⟩
    clear hsl h16
    generalize z.data.toList = l at *
    have B0 := Hb.mk (Below.refl w.heap.size w)
    cases k1 : hwOk (l.take 8)
    · have G1 := Hf.mk (fun w => (H1.out w).mono fun e w' h => RW.out_no k1 h)
      cases k2 : hwOk (l.drop 8)
      all_goals
        rw [k1, k2] at HC
      · have G2 := Hf.mk (fun w => (H2.out w).mono fun e w' h => RW.out_no k2 h)
        clear H1 H2 k1 k2
        go_enter Tryd.func11, Tryd.ntmps11
        have tk_a : True := trivial; have tk_b : True := trivial
        go_wp2_with (first | (go_at_call 16; clear tk_a; refine (G1.out _).mono ?_; rintro e w1 ⟨x, rfl, b1⟩; have B1 := Hb.mk (Below.on (B := w.heap.size) (a := w) (by repeat (first | exact B0.out | refine Below.drews ?_ | refine Below.drew ?_ | refine Below.alloc ?_ (by have hq_ := B0.out.size; first | omega | (simp <;> omega)) _ | refine Below.setCell ?_ (by have hq_ := B0.out.size; first | omega | (simp <;> omega)) _)) b1 (by have hq_ := B0.out.size; first | omega | (simp <;> omega))); clear b1) | (go_at_call 16; clear tk_b; refine (G2.out _).mono ?_; rintro e w2 ⟨y, rfl, b2⟩; have B2 := Hb.mk (Below.on (B := w.heap.size) (a := w) (by repeat (first | exact B1.out | refine Below.drews ?_ | refine Below.drew ?_ | refine Below.alloc ?_ (by have hq_ := B1.out.size; first | omega | (simp <;> omega)) _ | refine Below.setCell ?_ (by have hq_ := B1.out.size; first | omega | (simp <;> omega)) _)) b2 (by have hq_ := B1.out.size; first | omega | (simp <;> omega))); clear b2))
        go_ret2
        exact RWc.no HC.out (by repeat (first | exact B2.out | refine Below.drews ?_ | refine Below.drew ?_ | refine Below.alloc ?_ (by have hq_ := B2.out.size; first | omega | (simp <;> omega)) _ | refine Below.setCell ?_ (by have hq_ := B2.out.size; first | omega | (simp <;> omega)) _))
      · have G2 := Hf.mk (fun w => (H2.out w).mono fun e w' h => RW.out_yes k2 h)
        clear H1 H2 k1 k2
        go_enter Tryd.func11, Tryd.ntmps11
        have tk_a : True := trivial; have tk_b : True := trivial
        go_wp2_with (first | (go_at_call 16; clear tk_a; refine (G1.out _).mono ?_; rintro e w1 ⟨x, rfl, b1⟩; have B1 := Hb.mk (Below.on (B := w.heap.size) (a := w) (by repeat (first | exact B0.out | refine Below.drews ?_ | refine Below.drew ?_ | refine Below.alloc ?_ (by have hq_ := B0.out.size; first | omega | (simp <;> omega)) _ | refine Below.setCell ?_ (by have hq_ := B0.out.size; first | omega | (simp <;> omega)) _)) b1 (by have hq_ := B0.out.size; first | omega | (simp <;> omega))); clear b1) | (go_at_call 16; clear tk_b; refine (G2.out _).mono ?_; rintro e w2 ⟨rfl, b2⟩; have B2 := Hb.mk (Below.on (B := w.heap.size) (a := w) (by repeat (first | exact B1.out | refine Below.drews ?_ | refine Below.drew ?_ | refine Below.alloc ?_ (by have hq_ := B1.out.size; first | omega | (simp <;> omega)) _ | refine Below.setCell ?_ (by have hq_ := B1.out.size; first | omega | (simp <;> omega)) _)) b2 (by have hq_ := B1.out.size; first | omega | (simp <;> omega))); clear b2))
        go_ret2
        exact RWc.no HC.out (by repeat (first | exact B2.out | refine Below.drews ?_ | refine Below.drew ?_ | refine Below.alloc ?_ (by have hq_ := B2.out.size; first | omega | (simp <;> omega)) _ | refine Below.setCell ?_ (by have hq_ := B2.out.size; first | omega | (simp <;> omega)) _))
    · have G1 := Hf.mk (fun w => (H1.out w).mono fun e w' h => RW.out_yes k1 h)
      cases k2 : hwOk (l.drop 8)
      all_goals
        rw [k1, k2] at HC
      · have G2 := Hf.mk (fun w => (H2.out w).mono fun e w' h => RW.out_no k2 h)
        clear H1 H2 k1 k2
        go_enter Tryd.func11, Tryd.ntmps11
        have tk_a : True := trivial; have tk_b : True := trivial
        go_wp2_with (first | (go_at_call 16; clear tk_a; refine (G1.out _).mono ?_; rintro e w1 ⟨rfl, b1⟩; have B1 := Hb.mk (Below.on (B := w.heap.size) (a := w) (by repeat (first | exact B0.out | refine Below.drews ?_ | refine Below.drew ?_ | refine Below.alloc ?_ (by have hq_ := B0.out.size; first | omega | (simp <;> omega)) _ | refine Below.setCell ?_ (by have hq_ := B0.out.size; first | omega | (simp <;> omega)) _)) b1 (by have hq_ := B0.out.size; first | omega | (simp <;> omega))); clear b1) | (go_at_call 16; clear tk_b; refine (G2.out _).mono ?_; rintro e w2 ⟨y, rfl, b2⟩; have B2 := Hb.mk (Below.on (B := w.heap.size) (a := w) (by repeat (first | exact B1.out | refine Below.drews ?_ | refine Below.drew ?_ | refine Below.alloc ?_ (by have hq_ := B1.out.size; first | omega | (simp <;> omega)) _ | refine Below.setCell ?_ (by have hq_ := B1.out.size; first | omega | (simp <;> omega)) _)) b2 (by have hq_ := B1.out.size; first | omega | (simp <;> omega))); clear b2))
        go_ret2
        exact RWc.no HC.out (by repeat (first | exact B2.out | refine Below.drews ?_ | refine Below.drew ?_ | refine Below.alloc ?_ (by have hq_ := B2.out.size; first | omega | (simp <;> omega)) _ | refine Below.setCell ?_ (by have hq_ := B2.out.size; first | omega | (simp <;> omega)) _))
      · have G2 := Hf.mk (fun w => (H2.out w).mono fun e w' h => RW.out_yes k2 h)
        clear H1 H2 k1 k2
        go_enter Tryd.func11, Tryd.ntmps11
        have tk_a : True := trivial; have tk_b : True := trivial
        go_wp2_with (first | (go_at_call 16; clear tk_a; refine (G1.out _).mono ?_; rintro e w1 ⟨rfl, b1⟩; have B1 := Hb.mk (Below.on (B := w.heap.size) (a := w) (by repeat (first | exact B0.out | refine Below.drews ?_ | refine Below.drew ?_ | refine Below.alloc ?_ (by have hq_ := B0.out.size; first | omega | (simp <;> omega)) _ | refine Below.setCell ?_ (by have hq_ := B0.out.size; first | omega | (simp <;> omega)) _)) b1 (by have hq_ := B0.out.size; first | omega | (simp <;> omega))); clear b1) | (go_at_call 16; clear tk_b; refine (G2.out _).mono ?_; rintro e w2 ⟨rfl, b2⟩; have B2 := Hb.mk (Below.on (B := w.heap.size) (a := w) (by repeat (first | exact B1.out | refine Below.drews ?_ | refine Below.drew ?_ | refine Below.alloc ?_ (by have hq_ := B1.out.size; first | omega | (simp <;> omega)) _ | refine Below.setCell ?_ (by have hq_ := B1.out.size; first | omega | (simp <;> omega)) _)) b2 (by have hq_ := B1.out.size; first | omega | (simp <;> omega))); clear b2))
        go_ret2
        exact RWc.yes HC.out HP.out.symm (by repeat (first | exact B2.out | refine Below.drews ?_ | refine Below.drew ?_ | refine Below.alloc ?_ (by have hq_ := B2.out.size; first | omega | (simp <;> omega)) _ | refine Below.setCell ?_ (by have hq_ := B2.out.size; first | omega | (simp <;> omega)) _))
  · have hd : ((z.size : Int) != 16) = true := by rw [bne_iff_ne]; omega
    have K := Hf.mk (cwOk_len (l := z.data.toList) (by rw [hsl]; exact h16))
    clear h16 hsl
    go_enter Tryd.func11, Tryd.ntmps11
    go_wp2
    go_ret2
    exact RWc.no K.out (by repeat (first | exact Below.refl _ _ | with_reducible assumption | refine Below.drews ?_ | refine Below.drew ?_ | refine Below.alloc ?_ (by simp <;> omega) _ | refine Below.setCell ?_ (by simp <;> omega) _))
end Go.Proofs.YthambmgibelpkaaDoor
