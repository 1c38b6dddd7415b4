/-
  DotNumbers, of the program and of its model, compute the same Lean function; its exact law. No condition.
-/
import Derived.Test.YtfnmopjfpnlkfacSumL
namespace Go.Proofs.Ytfnmopjfpnlkfac
open Go Go.RowKit

def dotN (xs ys : List Nat) : Nat → Nat
  | 0 => 0
  | m + 1 => fop .add .f32 (dotN xs ys m) (fop .mul .f32 (nrm .f32 (xs.getD m 0)) (nrm .f32 (ys.getD m 0)))
theorem iDot_yes {a b : Option Addr} {cap cap2 n : Nat} {xs ys : List Nat} (w : World) (hn : n = xs.length) (hr : FRow w a xs) (hw : Wf xs) (hr2 : FRow w b ys) (hw2 : Wf ys) (hl : xs.length ≤ 256) (hy : ys.length = xs.length) : Calls Try.prog 14 #[.slice a xs.length cap, .slice b n cap2] w (fun e w' => ∃ r, e = .returned (.tuple #[.float .f32 r, .bool true]) ∧ Fl .f32 (dotN xs ys xs.length) r ∧ Drew w w') := by
  subst hn
  have HR := Hf.mk hr
  have HW := Hf.mk hw
  have HR2 := Hf.mk hr2
  have HW2 := Hf.mk hw2
  have hl2 : ¬ (256 : Int) < (xs.length : Int) := by omega
  clear hr hw hr2 hw2
  go_enter Try.func14, Try.ntmps14
  go_wp2
  go_loopw [6, 21] (fun s i wr => ∃ (m x : Nat), m ≤ xs.length ∧ s = .float .f32 x ∧ Fl .f32 (dotN xs ys m) x ∧ i = .int .i64 m ∧ Drew w wr) (fun _ i _ => xs.length - (intOf i).toNat)
  case atStart => exact ⟨0, 0, by omega, rfl, zero32, rfl, (by repeat (first | exact Drew.refl _ | refine Drew.more ?_))⟩
  case round =>
    obtain ⟨m, x, hm, rfl, hs, rfl, q, rfl⟩ := hrel
    by_cases hlt : m < xs.length
    · obtain ⟨p, rfl, hcell⟩ := (HR.out.drew q) m hlt
      have hlt2 : m < ys.length := by omega
      obtain ⟨p2, rfl, hcell2⟩ := (HR2.out.drew q) m hlt2
      have hx := HW.out.at hlt
      have hx2 := HW2.out.at hlt2
      go_wp2_with (refine wpList_fop rfl rfl rfl rfl rfl (by first | (with_reducible assumption) | (with_reducible exact Fl.ofInt _ _) | exact Fl.not (by decide +kernel) (by decide +kernel)) (by first | (with_reducible assumption) | (with_reducible exact Fl.ofInt _ _) | exact Fl.not (by decide +kernel) (by decide +kernel)) ?_; intro r n hr; simp only [Act.put, List.setIfInBounds_toArray, List.set_cons_succ, List.set_cons_zero])
      go_roundw
      case rel => exact ⟨m + 1, _, by omega, rfl, hr, i_ext2 (by omega), (by repeat (first | exact Drew.refl _ | refine Drew.more ?_))⟩
      case measure => simp [intOf]; omega
    · obtain rfl : m = xs.length := by omega
      go_wp2
      go_ret2
      exact ⟨_, rfl, hs, (by repeat (first | exact Drew.refl _ | refine Drew.more ?_))⟩
theorem iDot_no {a b : Option Addr} {n n2 cap cap2 : Nat} (w : World) (hl : 256 < n ∨ n ≠ n2) : Calls Try.prog 14 #[.slice a n cap, .slice b n2 cap2] w (RT (.tuple #[.float .f32 0, .bool false]) w) := by
  by_cases h1 : (256 : Int) < (n : Int)
  · clear hl
    go_enter Try.func14, Try.ntmps14
    go_wp2
    all_goals go_ret2
    all_goals exact RT.any (by repeat (first | exact Drew.refl _ | refine Drew.more ?_))
  · have h2 : ((n : Int) == (n2 : Int)) = false := by rw [beq_eq_false_iff_ne]; omega
    clear hl
    go_enter Try.func14, Try.ntmps14
    go_wp2
    all_goals go_ret2
    all_goals exact RT.any (by repeat (first | exact Drew.refl _ | refine Drew.more ?_))
theorem fop_all (P : Program) {op : BinOp} (ha : arithOp op = true) (t : TypeId) {cx cy x y : Nat} (hx : Fl .f32 cx x) (hy : Fl .f32 cy y) :
    ∃ R N : World → Nat, (∀ w, (binOp op t (.float .f32 x) (.float .f32 y)).run P w = .ok (.float .f32 (R w)) (w.drewN (N w))) ∧ ∀ w, Fl .f32 (fop op .f32 cx cy) (R w) := by
  have h : ∀ w : World, ∃ rn : Nat × Nat, (binOp op t (.float .f32 x) (.float .f32 y)).run P w = .ok (.float .f32 rn.1) (w.drewN rn.2) ∧ Fl .f32 (fop op .f32 cx cy) rn.1 := by
    intro w
    obtain ⟨r, n, h1, h2⟩ := fop_run (P := P) w ha t hx hy
    exact ⟨(r, n), h1, h2⟩
  exact ⟨fun w => (Classical.choose (h w)).1, fun w => (Classical.choose (h w)).2, fun w => (Classical.choose_spec (h w)).1, fun w => (Classical.choose_spec (h w)).2⟩
theorem fop_all2 (P : Program) {op : BinOp} (ha : arithOp op = true) (t : TypeId) {cx cy x : Nat} {Y : World → Nat} (hx : Fl .f32 cx x) (hy : ∀ w, Fl .f32 cy (Y w)) :
    ∃ R N : World → World → Nat, (∀ w1 w, (binOp op t (.float .f32 x) (.float .f32 (Y w1))).run P w = .ok (.float .f32 (R w1 w)) (w.drewN (N w1 w))) ∧ ∀ w1 w, Fl .f32 (fop op .f32 cx cy) (R w1 w) := by
  have h := fun w1 => fop_all P ha t hx (hy w1)
  exact ⟨fun w1 => Classical.choose (h w1), fun w1 => Classical.choose (Classical.choose_spec (h w1)), fun w1 => (Classical.choose_spec (Classical.choose_spec (h w1))).1, fun w1 => (Classical.choose_spec (Classical.choose_spec (h w1))).2⟩
set_option maxHeartbeats 4000000 in
theorem l01Dot_any {a b : Option Addr} {cap cap2 n : Nat} {xs ys : List Nat} (w : World) (hn : n = xs.length) (hr : FRow w a xs) (hw : Wf xs) (hr2 : FRow w b ys) (hw2 : Wf ys) (hl : xs.length ≤ 1048576) (hy : ys.length = xs.length) : Calls Try.prog 32 #[.slice a xs.length cap, .slice b n cap2] w (RF .f32 (dotN xs ys xs.length) w) := by
  subst hn
  have HR := Hf.mk hr
  have HW := Hf.mk hw
  have HR2 := Hf.mk hr2
  have HW2 := Hf.mk hw2
  clear hr hw hr2 hw2
  go_enter Try.func32, Try.ntmps32
  go_wp2
  go_loopw [5, 6] (fun s i wr => ∃ (m x : Nat), m ≤ xs.length ∧ s = .float .f32 x ∧ Fl .f32 (dotN xs ys m) x ∧ i = .int .i64 m ∧ Drew w wr) (fun _ i _ => xs.length - (intOf i).toNat)
  case atStart => exact ⟨0, 0, by omega, rfl, zero32, rfl, (by repeat (first | exact Drew.refl _ | refine Drew.more ?_))⟩
  case round =>
    obtain ⟨m, x, hm, rfl, hs, rfl, q, rfl⟩ := hrel
    by_cases hlt : m < xs.length
    · obtain ⟨p, rfl, hcell⟩ := HR.out m hlt
      have hlt2 : m < ys.length := by omega
      obtain ⟨p2, rfl, hcell2⟩ := HR2.out m hlt2
      have hx := HW.out.at hlt
      have hx2 := HW2.out.at hlt2
      have hD1 : ∀ (W : World) (x : Addr), W.drew.cell? x = W.cell? x := fun _ _ => rfl
      have hD2 : ∀ (W : World) (n : Nat) (x : Addr), (W.drewN n).cell? x = W.cell? x := fun _ _ _ => rfl
      obtain ⟨R1, N1, hm1, hf1⟩ := fop_all Try.prog (op := .mul) rfl 23 hx hx2
      obtain ⟨R2, N2, hm2, hf2⟩ := fop_all2 Try.prog (op := .add) rfl 23 hs hf1
      have HF := Hf.mk hf2
      clear hf1 hf2
      go_wp2
      go_region
      all_goals go_wp2
      all_goals go_roundw
      all_goals first | exact ⟨m + 1, _, by omega, rfl, HF.out _ _, i_ext2 (by omega), ⟨_, rfl⟩⟩ | (simp [intOf]; omega)
    · obtain rfl : m = xs.length := by omega
      go_wp2
      go_ret
      exact RF.any hs (by repeat (first | exact Drew.refl _ | refine Drew.more ?_))
theorem sDot_yes {a b : Option Addr} {cap cap2 n : Nat} {xs ys : List Nat} (w : World) (hn : n = xs.length) (hr : FRow w a xs) (hw : Wf xs) (hr2 : FRow w b ys) (hw2 : Wf ys) (hl : xs.length ≤ 256) (hy : ys.length = xs.length) : Calls Try.prog 13 #[.slice a xs.length cap, .slice b n cap2] w (fun e w' => ∃ r, e = .returned (.tuple #[.float .f32 r, .bool true]) ∧ Fl .f32 (dotN xs ys xs.length) r ∧ Drew w w') := by
  subst hn
  have HR := Hf.mk hr
  have HW := Hf.mk hw
  have HR2 := Hf.mk hr2
  have HW2 := Hf.mk hw2
  have HY := Hf.mk hy
  clear hr hw hr2 hw2 hy
  go_enter Try.func13, Try.ntmps13
  go_wp2_with (first | (go_at_call 32; refine (l01Dot_any _ rfl (HR.out.drew _) HW.out (HR2.out.drew _) HW2.out (by omega) HY.out).mono ?_; rintro e w' ⟨r, n, rfl, hr, rfl⟩) | (go_at_call 30; refine (l01Few_any _).mono ?_; rw [decide_eq_true hl]; rintro e w' ⟨rfl, n, rfl⟩))
  go_ret2
  exact ⟨_, rfl, hr, (by repeat (first | exact Drew.refl _ | refine Drew.more ?_))⟩
theorem sDot_no {a b : Option Addr} {n n2 cap cap2 : Nat} (w : World) (hl : 256 < n ∨ n ≠ n2) : Calls Try.prog 13 #[.slice a n cap, .slice b n2 cap2] w (RT (.tuple #[.float .f32 0, .bool false]) w) := by
  by_cases h1 : n ≤ 256
  · have h2 : ((n : Int) == (n2 : Int)) = false := by rw [beq_eq_false_iff_ne]; omega
    clear hl
    go_enter Try.func13, Try.ntmps13
    go_wp2_with (go_at_call 30; refine (l01Few_any _).mono ?_; rw [decide_eq_true h1]; rintro e w' ⟨rfl, n, rfl⟩)
    all_goals go_ret2
    all_goals exact RT.any (by repeat (first | exact Drew.refl _ | refine Drew.more ?_))
  · clear hl
    go_enter Try.func13, Try.ntmps13
    go_wp2_with (go_at_call 30; refine (l01Few_any _).mono ?_; rw [decide_eq_false h1]; rintro e w' ⟨rfl, n, rfl⟩)
    all_goals go_ret2
    all_goals exact RT.any (by repeat (first | exact Drew.refl _ | refine Drew.more ?_))
theorem law_DotNumbers {a b : Option Addr} {cap cap2 : Nat} {xs ys : List Nat} (w : World) (hr : FRow w a xs) (hw : Wf xs) (hr2 : FRow w b ys) (hw2 : Wf ys) : Calls Try.prog 4 #[.slice a xs.length cap, .slice b ys.length cap2] w (fun e w' => e = .returned (.bool true) ∧ Below w.heap.size w w') := by
  have HR := Hf.mk hr
  have HW := Hf.mk hw
  have HR2 := Hf.mk hr2
  have HW2 := Hf.mk hw2
  clear hr hw hr2 hw2
  by_cases hl : xs.length ≤ 1048576
  · by_cases hl2 : ys.length ≤ 1048576
    · by_cases hc : xs.length ≤ 256 ∧ ys.length = xs.length
      · obtain ⟨hs, hy⟩ := hc
        have HY := Hf.mk hy
        clear hy
        go_enter Try.func4, Try.ntmps4
        have tk_a : True := trivial; have tk_b : True := trivial; have tk_c : True := trivial; have tk_d : True := trivial; have tk_e : True := trivial; have tk_f : True := trivial; have tk_g : True := trivial; have tk_h : True := trivial
        go_wp2_with (first
          | (go_at_call 9; clear tk_a; refine (toF_any _ HR.out hl).mono ?_; rintro e w1 ⟨rfl, ho, hb⟩; have A1 := Hf.mk (frow_own rfl ho); have B1 := Hf.mk hb; clear ho hb)
          | (go_at_call 9; clear tk_b; refine (toF_any _ ((HR2.out.below B1.out).drews (by repeat (first | exact Drew.refl _ | refine Drew.more ?_))) hl2).mono ?_; rintro e w2 ⟨rfl, ho, hb⟩; have G2 := Hf.mk (frow_own rfl ho); have A2 := Hf.mk ((A1.out.drews (by repeat (first | exact Drew.refl _ | refine Drew.more ?_))).below hb); have B2 := Hf.mk (below_over B1.out (by repeat (first | exact Drew.refl _ | refine Drew.more ?_)) hb); clear ho hb)
          | (go_at_call 13; refine (sDot_yes _ HY.out A2.out HW.out G2.out HW2.out hs HY.out).mono ?_; rintro e wa ⟨r1, rfl, hr1, n1, rfl⟩)
          | (go_at_call 9; clear tk_c; refine (toF_any _ ((HR.out.below B2.out).drews (by repeat (first | exact Drew.refl _ | refine Drew.more ?_))) hl).mono ?_; rintro e w3 ⟨rfl, ho, hb⟩; have C3 := Hf.mk (frow_own rfl ho); have B3 := Hf.mk (below_over B2.out (by repeat (first | exact Drew.refl _ | refine Drew.more ?_)) hb); clear ho hb)
          | (go_at_call 9; clear tk_d; refine (toF_any _ ((HR2.out.below B3.out).drews (by repeat (first | exact Drew.refl _ | refine Drew.more ?_))) hl2).mono ?_; rintro e w4 ⟨rfl, ho, hb⟩; have G4 := Hf.mk (frow_own rfl ho); have C4 := Hf.mk ((C3.out.drews (by repeat (first | exact Drew.refl _ | refine Drew.more ?_))).below hb); have B4 := Hf.mk (below_over B3.out (by repeat (first | exact Drew.refl _ | refine Drew.more ?_)) hb); clear ho hb)
          | (go_at_call 14; refine (iDot_yes _ HY.out C4.out HW.out G4.out HW2.out hs HY.out).mono ?_; rintro e wb ⟨r2, rfl, hr2, n2, rfl⟩)
          | (refine wpList_fcv rfl rfl rfl (by kernel_rfl) Try.underlying28 (by decide) (by first | (with_reducible assumption) | (with_reducible exact Fl.ofInt _ _) | exact Fl.not (by decide +kernel) (by decide +kernel)) (fits_wide _) ?_; intro r n hr; simp only [Act.put, List.setIfInBounds_toArray, List.set_cons_succ, List.set_cons_zero]) | (go_at_call 11; refine (sameFloat_any (by assumption) (by assumption) _).mono ?_; rintro e w' ⟨rfl, n, rfl⟩)
          | (go_at_call 9; clear tk_e; refine (toF_any _ ((HR.out.below B4.out).drews (by repeat (first | exact Drew.refl _ | refine Drew.more ?_))) hl).mono ?_; rintro e w5 ⟨rfl, ho, hb⟩; have E5 := Hf.mk (frow_own rfl ho); have C5 := Hf.mk ((C4.out.drews (by repeat (first | exact Drew.refl _ | refine Drew.more ?_))).below hb); have G5 := Hf.mk ((G4.out.drews (by repeat (first | exact Drew.refl _ | refine Drew.more ?_))).below hb); have B5 := Hf.mk (below_over B4.out (by repeat (first | exact Drew.refl _ | refine Drew.more ?_)) hb); clear ho hb)
          | (go_at_call 12; clear tk_g; refine (eqF_any _ rfl (C5.out.drews (by repeat (first | exact Drew.refl _ | refine Drew.more ?_))) (E5.out.drews (by repeat (first | exact Drew.refl _ | refine Drew.more ?_))) HW.out hl).mono ?_; rintro e w6 ⟨rfl, n6, rfl⟩)
          | (go_at_call 9; clear tk_f; refine (toF_any _ ((HR2.out.below B5.out).drews (by repeat (first | exact Drew.refl _ | refine Drew.more ?_))) hl2).mono ?_; rintro e w7 ⟨rfl, ho, hb⟩; have F7 := Hf.mk (frow_own rfl ho); have G7 := Hf.mk ((G5.out.drews (by repeat (first | exact Drew.refl _ | refine Drew.more ?_))).below hb); have B7 := Hf.mk (below_over B5.out (by repeat (first | exact Drew.refl _ | refine Drew.more ?_)) hb); clear ho hb)
          | (go_at_call 12; clear tk_h; refine (eqF_any _ rfl (G7.out.drews (by repeat (first | exact Drew.refl _ | refine Drew.more ?_))) (F7.out.drews (by repeat (first | exact Drew.refl _ | refine Drew.more ?_))) HW2.out hl2).mono ?_; rintro e w8 ⟨rfl, n8, rfl⟩))
        go_ret
        exact ⟨rfl, below_on B7.out (below_drews (by repeat (first | exact Drew.refl _ | refine Drew.more ?_)))⟩
      · have HN := Hf.mk (show 256 < xs.length ∨ xs.length ≠ ys.length by omega)
        clear hc
        go_enter Try.func4, Try.ntmps4
        have tk_a : True := trivial; have tk_b : True := trivial; have tk_c : True := trivial; have tk_d : True := trivial; have tk_e : True := trivial; have tk_f : True := trivial; have tk_g : True := trivial; have tk_h : True := trivial
        go_wp2_with (first
          | (go_at_call 9; clear tk_a; refine (toF_any _ HR.out hl).mono ?_; rintro e w1 ⟨rfl, ho, hb⟩; have A1 := Hf.mk (frow_own rfl ho); have B1 := Hf.mk hb; clear ho hb)
          | (go_at_call 9; clear tk_b; refine (toF_any _ ((HR2.out.below B1.out).drews (by repeat (first | exact Drew.refl _ | refine Drew.more ?_))) hl2).mono ?_; rintro e w2 ⟨rfl, ho, hb⟩; have G2 := Hf.mk (frow_own rfl ho); have A2 := Hf.mk ((A1.out.drews (by repeat (first | exact Drew.refl _ | refine Drew.more ?_))).below hb); have B2 := Hf.mk (below_over B1.out (by repeat (first | exact Drew.refl _ | refine Drew.more ?_)) hb); clear ho hb)
          | (go_at_call 13; refine (sDot_no _ HN.out).mono ?_; rintro e wa ⟨rfl, n1, rfl⟩)
          | (go_at_call 9; clear tk_c; refine (toF_any _ ((HR.out.below B2.out).drews (by repeat (first | exact Drew.refl _ | refine Drew.more ?_))) hl).mono ?_; rintro e w3 ⟨rfl, ho, hb⟩; have C3 := Hf.mk (frow_own rfl ho); have B3 := Hf.mk (below_over B2.out (by repeat (first | exact Drew.refl _ | refine Drew.more ?_)) hb); clear ho hb)
          | (go_at_call 9; clear tk_d; refine (toF_any _ ((HR2.out.below B3.out).drews (by repeat (first | exact Drew.refl _ | refine Drew.more ?_))) hl2).mono ?_; rintro e w4 ⟨rfl, ho, hb⟩; have G4 := Hf.mk (frow_own rfl ho); have C4 := Hf.mk ((C3.out.drews (by repeat (first | exact Drew.refl _ | refine Drew.more ?_))).below hb); have B4 := Hf.mk (below_over B3.out (by repeat (first | exact Drew.refl _ | refine Drew.more ?_)) hb); clear ho hb)
          | (go_at_call 14; refine (iDot_no _ HN.out).mono ?_; rintro e wb ⟨rfl, n2, rfl⟩)
          | (refine wpList_fcv rfl rfl rfl (by kernel_rfl) Try.underlying28 (by decide) (by first | (with_reducible assumption) | (with_reducible exact Fl.ofInt _ _) | exact Fl.not (by decide +kernel) (by decide +kernel)) (fits_wide _) ?_; intro r n hr; simp only [Act.put, List.setIfInBounds_toArray, List.set_cons_succ, List.set_cons_zero]) | (go_at_call 11; refine (sameFloat_any (by assumption) (by assumption) _).mono ?_; rintro e w' ⟨rfl, n, rfl⟩)
          | (go_at_call 9; clear tk_e; refine (toF_any _ ((HR.out.below B4.out).drews (by repeat (first | exact Drew.refl _ | refine Drew.more ?_))) hl).mono ?_; rintro e w5 ⟨rfl, ho, hb⟩; have E5 := Hf.mk (frow_own rfl ho); have C5 := Hf.mk ((C4.out.drews (by repeat (first | exact Drew.refl _ | refine Drew.more ?_))).below hb); have G5 := Hf.mk ((G4.out.drews (by repeat (first | exact Drew.refl _ | refine Drew.more ?_))).below hb); have B5 := Hf.mk (below_over B4.out (by repeat (first | exact Drew.refl _ | refine Drew.more ?_)) hb); clear ho hb)
          | (go_at_call 12; clear tk_g; refine (eqF_any _ rfl (C5.out.drews (by repeat (first | exact Drew.refl _ | refine Drew.more ?_))) (E5.out.drews (by repeat (first | exact Drew.refl _ | refine Drew.more ?_))) HW.out hl).mono ?_; rintro e w6 ⟨rfl, n6, rfl⟩)
          | (go_at_call 9; clear tk_f; refine (toF_any _ ((HR2.out.below B5.out).drews (by repeat (first | exact Drew.refl _ | refine Drew.more ?_))) hl2).mono ?_; rintro e w7 ⟨rfl, ho, hb⟩; have F7 := Hf.mk (frow_own rfl ho); have G7 := Hf.mk ((G5.out.drews (by repeat (first | exact Drew.refl _ | refine Drew.more ?_))).below hb); have B7 := Hf.mk (below_over B5.out (by repeat (first | exact Drew.refl _ | refine Drew.more ?_)) hb); clear ho hb)
          | (go_at_call 12; clear tk_h; refine (eqF_any _ rfl (G7.out.drews (by repeat (first | exact Drew.refl _ | refine Drew.more ?_))) (F7.out.drews (by repeat (first | exact Drew.refl _ | refine Drew.more ?_))) HW2.out hl2).mono ?_; rintro e w8 ⟨rfl, n8, rfl⟩))
        go_ret
        exact ⟨rfl, below_on B7.out (below_drews (by repeat (first | exact Drew.refl _ | refine Drew.more ?_)))⟩
    · go_enter Try.func4, Try.ntmps4
      go_wp2
      go_ret
      exact ⟨rfl, Below.refl _ _⟩
  · go_enter Try.func4, Try.ntmps4
    go_wp2
    go_ret
    exact ⟨rfl, Below.refl _ _⟩
end Go.Proofs.Ytfnmopjfpnlkfac
