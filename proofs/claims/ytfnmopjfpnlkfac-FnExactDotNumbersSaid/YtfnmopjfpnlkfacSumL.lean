/-
  FnExactSumNumbers: the law's own walk. No condition.
-/
import Derived.Test.YtfnmopjfpnlkfacSum
namespace Go.Proofs.Ytfnmopjfpnlkfac
open Go Go.RowKit

theorem FRow.drews {w w' : World} {a : Option Addr} {xs : List Nat} (h : FRow w a xs) (d : Drew w w') : FRow w' a xs := by
  obtain ⟨n, rfl⟩ := d; exact h.drew n
theorem below_drews {w w' : World} (d : Drew w w') : Below w.heap.size w w' := by
  obtain ⟨n, rfl⟩ := d; exact ⟨rfl, rfl, rfl, Nat.le_refl _, fun _ _ => rfl⟩
theorem below_on {w w1 w2 : World} (h : Below w.heap.size w w1) (k : Below w1.heap.size w1 w2) : Below w.heap.size w w2 := h.trans (k.mono h.size)
theorem below_over {w w1 w1' w2 : World} (h : Below w.heap.size w w1) (d : Drew w1 w1') (k : Below w1'.heap.size w1' w2) : Below w.heap.size w w2 := below_on (below_on h (below_drews d)) k
theorem law_SumNumbers {a : Option Addr} {cap : Nat} {xs : List Nat} (w : World) (hr : FRow w a xs) (hw : Wf xs) : Calls Try.prog 3 #[.slice a xs.length cap] w (fun e w' => e = .returned (.bool true) ∧ Below w.heap.size w w') := by
  have HR := Hf.mk hr
  have HW := Hf.mk hw
  clear hr hw
  by_cases hl : xs.length ≤ 1048576
  · by_cases hs : xs.length ≤ 256
    · go_enter Try.func3, Try.ntmps3
      have tk_a : True := trivial; have tk_b : True := trivial; have tk_c : True := trivial
      go_wp2_with (first
        | (go_at_call 9; clear tk_a; refine (toF_any _ HR.out hl).mono ?_; rintro e w1 ⟨rfl, ho, hb⟩; have HO1 := Hf.mk (frow_own rfl ho); have HB1 := Hf.mk hb; clear ho hb)
        | (go_at_call 8; refine (sSum_yes _ HO1.out HW.out hs).mono ?_; rintro e w2 ⟨r1, rfl, hr1, n1, rfl⟩)
        | (go_at_call 9; clear tk_b; refine (toF_any _ ((HR.out.below HB1.out).drews (by repeat (first | exact Drew.refl _ | refine Drew.more ?_))) hl).mono ?_; rintro e w3 ⟨rfl, ho, hb⟩; have HO3 := Hf.mk (frow_own rfl ho); have HB3 := Hf.mk (below_over HB1.out (by repeat (first | exact Drew.refl _ | refine Drew.more ?_)) hb); clear ho hb)
        | (go_at_call 10; refine (iSum_yes _ HO3.out HW.out hs).mono ?_; rintro e w4 ⟨r2, rfl, hr2, n2, rfl⟩)
        | (refine wpList_fcv rfl rfl rfl (by kernel_rfl) Try.underlying28 (by decide) (by first | (with_reducible assumption) | (with_reducible exact Fl.ofInt _ _) | exact Fl.not (by decide +kernel) (by decide +kernel)) (fits_wide _) ?_; intro r n hr; simp only [Act.put, List.setIfInBounds_toArray, List.set_cons_succ, List.set_cons_zero]) | (go_at_call 11; refine (sameFloat_any (by assumption) (by assumption) _).mono ?_; rintro e w' ⟨rfl, n, rfl⟩)
        | (go_at_call 9; clear tk_c; refine (toF_any _ ((HR.out.below HB3.out).drews (by repeat (first | exact Drew.refl _ | refine Drew.more ?_))) hl).mono ?_; rintro e w5 ⟨rfl, ho, hb⟩; have HO5 := Hf.mk (frow_own rfl ho); have HB5 := Hf.mk (below_over HB3.out (by repeat (first | exact Drew.refl _ | refine Drew.more ?_)) hb); have HO3' := Hf.mk ((HO3.out.drews (by repeat (first | exact Drew.refl _ | refine Drew.more ?_))).below hb); clear ho hb)
        | (go_at_call 12; refine (eqF_any _ rfl HO3'.out HO5.out HW.out hl).mono ?_; rintro e w6 ⟨rfl, n6, rfl⟩))
      go_ret
      exact ⟨rfl, below_on HB5.out (below_drews (by repeat (first | exact Drew.refl _ | refine Drew.more ?_)))⟩
    · go_enter Try.func3, Try.ntmps3
      have tk_a : True := trivial; have tk_b : True := trivial; have tk_c : True := trivial
      go_wp2_with (first
        | (go_at_call 9; clear tk_a; refine (toF_any _ HR.out hl).mono ?_; rintro e w1 ⟨rfl, ho, hb⟩; have HO1 := Hf.mk (frow_own rfl ho); have HB1 := Hf.mk hb; clear ho hb)
        | (go_at_call 8; refine (sSum_no _ (by omega)).mono ?_; rintro e w2 ⟨rfl, n1, rfl⟩)
        | (go_at_call 9; clear tk_b; refine (toF_any _ ((HR.out.below HB1.out).drews (by repeat (first | exact Drew.refl _ | refine Drew.more ?_))) hl).mono ?_; rintro e w3 ⟨rfl, ho, hb⟩; have HO3 := Hf.mk (frow_own rfl ho); have HB3 := Hf.mk (below_over HB1.out (by repeat (first | exact Drew.refl _ | refine Drew.more ?_)) hb); clear ho hb)
        | (go_at_call 10; refine (iSum_no _ (by omega)).mono ?_; rintro e w4 ⟨rfl, n2, rfl⟩)
        | (refine wpList_fcv rfl rfl rfl (by kernel_rfl) Try.underlying28 (by decide) (by first | (with_reducible assumption) | (with_reducible exact Fl.ofInt _ _) | exact Fl.not (by decide +kernel) (by decide +kernel)) (fits_wide _) ?_; intro r n hr; simp only [Act.put, List.setIfInBounds_toArray, List.set_cons_succ, List.set_cons_zero]) | (go_at_call 11; refine (sameFloat_any (by assumption) (by assumption) _).mono ?_; rintro e w' ⟨rfl, n, rfl⟩)
        | (go_at_call 9; clear tk_c; refine (toF_any _ ((HR.out.below HB3.out).drews (by repeat (first | exact Drew.refl _ | refine Drew.more ?_))) hl).mono ?_; rintro e w5 ⟨rfl, ho, hb⟩; have HO5 := Hf.mk (frow_own rfl ho); have HB5 := Hf.mk (below_over HB3.out (by repeat (first | exact Drew.refl _ | refine Drew.more ?_)) hb); have HO3' := Hf.mk ((HO3.out.drews (by repeat (first | exact Drew.refl _ | refine Drew.more ?_))).below hb); clear ho hb)
        | (go_at_call 12; refine (eqF_any _ rfl HO3'.out HO5.out HW.out hl).mono ?_; rintro e w6 ⟨rfl, n6, rfl⟩))
      go_ret
      exact ⟨rfl, below_on HB5.out (below_drews (by repeat (first | exact Drew.refl _ | refine Drew.more ?_)))⟩
  · go_enter Try.func3, Try.ntmps3
    go_wp2
    go_ret
    exact ⟨rfl, Below.refl _ _⟩
end Go.Proofs.Ytfnmopjfpnlkfac
