/-
  Packed places, of the program and of its model: ArePacked and its exact law. No condition.
-/
import Derived.Test.YtmioclcipdifpaaSmo
import Derived.Test.YtmioclcipdifpaaSteps
import Derived.Test.YtmioclcipdifpaaPle
namespace Go.Proofs.Ytmioclcipdifpaa
open Go Go.RowKit
set_option maxRecDepth 100000

/-- Whether a valid place is that of its steps. -/
def pkC (n e : Nat) : Bool := stepsIn (stepC n) (eastStep e) && sameC (quoC (stepC n)) (quoC (eastStep e)) n e
def pkAt (ys : List Nat) (i : Nat) : Bool := pkC (nC ys i) (eC ys i)
def allPk (ys : List Nat) : Nat → Bool
  | 0 => true
  | m + 1 => allPk ys m && pkAt ys m
def packB (ys : List Nat) (n : Nat) : Bool := arePl ys n && allPk ys n
theorem allPk_at {ys : List Nat} : ∀ {n : Nat}, allPk ys n = true → ∀ i, i < n → pkAt ys i = true := by
  intro n
  induction n with
  | zero => intro _ i hi; omega
  | succ n ih =>
    intro h i hi
    unfold allPk at h
    rw [Bool.and_eq_true] at h
    by_cases he : i = n
    · rw [he]; exact h.2
    · exact ih h.1 i (by omega)
theorem allPk_no {ys : List Nat} : ∀ {n i : Nat}, i < n → pkAt ys i = false → allPk ys n = false := by
  intro n
  induction n with
  | zero => intro i hi; omega
  | succ n ih =>
    intro i hi h
    unfold allPk
    by_cases he : i = n
    · rw [← he, h, Bool.and_false]
    · rw [ih (by omega) h, Bool.false_and]
theorem packB_of {ys : List Nat} {n : Nat} (h : packB ys n = true) : arePl ys n = true ∧ ∀ i, i < n → pkAt ys i = true := by
  unfold packB at h
  rw [Bool.and_eq_true] at h
  exact ⟨h.1, allPk_at h.2⟩
theorem steps_yes {n e : Int} (h : stepsIn n e = true) : -4194304 ≤ n ∧ n ≤ 4194304 ∧ -8388608 ≤ e ∧ e ≤ 8388607 := by
  unfold stepsIn at h; rw [decide_eq_true_eq] at h; exact h
set_option maxHeartbeats 1000000 in
theorem isPacked_any {n e a b : Nat} (h1 : Fl .f32 n a) (h2 : Fl .f32 e b) (hv : validC n e = true) (w : World) : Calls Try.prog 35 #[pl a b] w (RS (.bool (pkC n e)) w) := by
  have KS := Hf.mk (fun w => iStepsOf_yes h1 h2 hv w)
  have B0 := Hb.mk (Below.refl w.heap.size w)
  cases hi : stepsIn (stepC n) (eastStep e)
  · have KR := Hf.mk (show pkC n e = false by unfold pkC; rw [hi, Bool.false_and])
    have KP := Hf.mk (fun w => iPlaceOfSteps_no (steps_no hi).1 w)
    generalize stepC n = N at *
    generalize eastStep e = E at *
    go_enter Try.func35, Try.ntmps35
    go_wp2_with (first
      | (go_at_call 24; refine (KS.out _).mono ?_; rintro e w1 ⟨rfl, b1⟩; have B1 := Hb.mk (Below.on (B := w.heap.size) (a := w) (by repeat (first | exact B0.out | refine Below.drews ?_ | refine Below.drew ?_ | refine Below.alloc ?_ (by have hq_ := B0.out.size; first | omega | (simp <;> omega)) _ | refine Below.setCell ?_ (by have hq_ := B0.out.size; first | omega | (simp <;> omega)) _)) b1 (by have hq_ := B0.out.size; first | omega | (simp <;> omega))); have p0 := Hb.mk (At.keep b1 (p := ⟨(w.heap.size), 0, none⟩) (v := .float .f32 a) (by simp [go_sem]) (by simp [go_sem])); obtain ⟨p0c, p0z, p0l⟩ := p0.out; have p1 := Hb.mk (At.keep b1 (p := ⟨(w.heap.size), 1, none⟩) (v := .float .f32 b) (by simp [go_sem]) (by simp [go_sem])); obtain ⟨p1c, p1z, p1l⟩ := p1.out; clear b1)
      | (go_at_call 43; refine (KP.out _).mono ?_; rintro e w2 ⟨x2, y2, rfl, f2, g2, b2⟩; have B2 := Hb.mk (Below.on (B := w.heap.size) (a := w) (by repeat (first | exact B1.out | refine Below.drews ?_ | refine Below.drew ?_ | refine Below.alloc ?_ (by have hq_ := B1.out.size; first | omega | (simp <;> omega)) _ | refine Below.setCell ?_ (by have hq_ := B1.out.size; first | omega | (simp <;> omega)) _)) b2 (by have hq_ := B1.out.size; first | omega | (simp <;> omega))); have p0 := Hb.mk (At.re p0.out b2 (by first | exact p0c | simp [go_sem, p0c, p0l]) (by first | exact p0z | simp [go_sem, p0z, p0l])); obtain ⟨p0c, p0z, p0l⟩ := p0.out; have p1 := Hb.mk (At.re p1.out b2 (by first | exact p1c | simp [go_sem, p1c, p1l]) (by first | exact p1z | simp [go_sem, p1z, p1l])); obtain ⟨p1c, p1z, p1l⟩ := p1.out; clear b2))
    go_ret
    rw [KR.out]
    exact ⟨rfl, (by repeat (first | exact B2.out | refine Below.drews ?_ | refine Below.drew ?_ | refine Below.alloc ?_ (by have hq_ := B2.out.size; first | omega | (simp <;> omega)) _ | refine Below.setCell ?_ (by have hq_ := B2.out.size; first | omega | (simp <;> omega)) _))⟩
  · obtain ⟨i1, i2, i3, i4⟩ := steps_yes hi
    have KR := Hf.mk (show pkC n e = sameC (quoC (stepC n)) (quoC (eastStep e)) n e by unfold pkC; rw [hi, Bool.true_and])
    have KP := Hf.mk (fun w => iPlaceOfSteps_yes i1 i2 i3 i4 w)
    clear i1 i2 i3 i4 hi
    generalize stepC n = N at *
    generalize eastStep e = E at *
    go_enter Try.func35, Try.ntmps35
    go_wp2_with (first
      | (go_at_call 24; refine (KS.out _).mono ?_; rintro e w1 ⟨rfl, b1⟩; have B1 := Hb.mk (Below.on (B := w.heap.size) (a := w) (by repeat (first | exact B0.out | refine Below.drews ?_ | refine Below.drew ?_ | refine Below.alloc ?_ (by have hq_ := B0.out.size; first | omega | (simp <;> omega)) _ | refine Below.setCell ?_ (by have hq_ := B0.out.size; first | omega | (simp <;> omega)) _)) b1 (by have hq_ := B0.out.size; first | omega | (simp <;> omega))); have p0 := Hb.mk (At.keep b1 (p := ⟨(w.heap.size), 0, none⟩) (v := .float .f32 a) (by simp [go_sem]) (by simp [go_sem])); obtain ⟨p0c, p0z, p0l⟩ := p0.out; have p1 := Hb.mk (At.keep b1 (p := ⟨(w.heap.size), 1, none⟩) (v := .float .f32 b) (by simp [go_sem]) (by simp [go_sem])); obtain ⟨p1c, p1z, p1l⟩ := p1.out; clear b1)
      | (go_at_call 43; refine (KP.out _).mono ?_; rintro e w2 ⟨x2, y2, rfl, f2, g2, b2⟩; have B2 := Hb.mk (Below.on (B := w.heap.size) (a := w) (by repeat (first | exact B1.out | refine Below.drews ?_ | refine Below.drew ?_ | refine Below.alloc ?_ (by have hq_ := B1.out.size; first | omega | (simp <;> omega)) _ | refine Below.setCell ?_ (by have hq_ := B1.out.size; first | omega | (simp <;> omega)) _)) b2 (by have hq_ := B1.out.size; first | omega | (simp <;> omega))); have p0 := Hb.mk (At.re p0.out b2 (by first | exact p0c | simp [go_sem, p0c, p0l]) (by first | exact p0z | simp [go_sem, p0z, p0l])); obtain ⟨p0c, p0z, p0l⟩ := p0.out; have p1 := Hb.mk (At.re p1.out b2 (by first | exact p1c | simp [go_sem, p1c, p1l]) (by first | exact p1z | simp [go_sem, p1z, p1l])); obtain ⟨p1c, p1z, p1l⟩ := p1.out; clear b2)
      | (go_at_call 44; refine (iSamePlace_any f2 g2 h1 h2 _).mono ?_; rintro e w3 ⟨rfl, b3⟩; have B3 := Hb.mk (Below.on (B := w.heap.size) (a := w) (by repeat (first | exact B2.out | refine Below.drews ?_ | refine Below.drew ?_ | refine Below.alloc ?_ (by have hq_ := B2.out.size; first | omega | (simp <;> omega)) _ | refine Below.setCell ?_ (by have hq_ := B2.out.size; first | omega | (simp <;> omega)) _)) b3 (by have hq_ := B2.out.size; first | omega | (simp <;> omega))); clear b3))
    go_ret
    rw [KR.out]
    exact ⟨rfl, (by repeat (first | exact B3.out | refine Below.drews ?_ | refine Below.drew ?_ | refine Below.alloc ?_ (by have hq_ := B3.out.size; first | omega | (simp <;> omega)) _ | refine Below.setCell ?_ (by have hq_ := B3.out.size; first | omega | (simp <;> omega)) _))⟩
set_option maxHeartbeats 1000000 in
theorem areAllP_any {g n : Nat} {ys : List Nat} (w : World) (hr : FRow w (some ⟨g, 0, none⟩) ys) (hw : Wf ys) (hn : ys.length = 2 * n) (hl : n ≤ 1048576) (hv : ∀ i, i < n → vAt ys i = true) : Calls Try.prog 34 #[.slice (some ⟨g, 0, none⟩) n n, .func (.func 35) #[] #[]] w (RS (.bool (allPk ys n)) w) := by
  have HR := Hf.mk hr
  have HW := Hf.mk hw
  have HN := Hf.mk hn
  have HV := Hf.mk hv
  clear hr hw hn hv
  go_enter Try.func34, Try.ntmps34
  go_wp2
  go_loopw [9] (fun i wr => ∃ m : Nat, m ≤ n ∧ i = .int .i64 m ∧ Hf (allPk ys m = true) ∧ Hf (Below w.heap.size w wr)) (fun i _ => n - (intOf i).toNat)
  case atStart => exact ⟨0, by omega, rfl, ⟨rfl⟩, ⟨(by repeat (first | exact Below.refl _ _ | with_reducible assumption | refine Below.drews ?_ | refine Below.drew ?_ | refine Below.alloc ?_ (by simp <;> omega) _ | refine Below.setCell ?_ (by simp <;> omega) _))⟩⟩
  case round =>
    obtain ⟨m, hm, rfl, ha, hb⟩ := hrel
    by_cases hlt : m < n
    · obtain ⟨c0, c1⟩ := (HR.out.below hb.out).twoAt HN.out hlt
      have hv := fun w => isPacked_any (flN HW.out HN.out hlt) (flE HW.out HN.out hlt) (HV.out m hlt) w
      cases hv1 : pkC (nC ys m) (eC ys m)
      · rw [hv1] at hv
        have HP := Hf.mk hv
        have KR := Hf.mk (show allPk ys n = false from allPk_no hlt hv1)
        have BR := Hb.mk hb.out
        clear hv
        go_wp2_with (first | (go_at_call 35; refine (HP.out _).mono ?_; rintro e w1 ⟨rfl, b1⟩; have B1 := Hb.mk (Below.on (B := w.heap.size) (a := w) (by repeat (first | exact BR.out | refine Below.drews ?_ | refine Below.drew ?_ | refine Below.alloc ?_ (by have hq_ := BR.out.size; first | omega | (simp <;> omega)) _ | refine Below.setCell ?_ (by have hq_ := BR.out.size; first | omega | (simp <;> omega)) _)) b1 (by have hq_ := BR.out.size; first | omega | (simp <;> omega))); clear b1))
        go_ret
        rw [KR.out]
        exact ⟨rfl, (by repeat (first | exact Below.refl _ _ | exact B1.out | refine Below.drews ?_ | refine Below.drew ?_ | refine Below.alloc ?_ (by first | omega | (simp <;> omega)) _ | refine Below.setCell ?_ (by first | omega | (simp <;> omega)) _))⟩
      · rw [hv1] at hv
        have HP := Hf.mk hv
        have KS := Hf.mk (show allPk ys (m + 1) = true by unfold allPk; rw [ha.out, Bool.true_and]; exact hv1)
        have BR := Hb.mk hb.out
        clear hv
        go_wp2_with (first | (go_at_call 35; refine (HP.out _).mono ?_; rintro e w1 ⟨rfl, b1⟩; have B1 := Hb.mk (Below.on (B := w.heap.size) (a := w) (by repeat (first | exact BR.out | refine Below.drews ?_ | refine Below.drew ?_ | refine Below.alloc ?_ (by have hq_ := BR.out.size; first | omega | (simp <;> omega)) _ | refine Below.setCell ?_ (by have hq_ := BR.out.size; first | omega | (simp <;> omega)) _)) b1 (by have hq_ := BR.out.size; first | omega | (simp <;> omega))); clear b1))
        go_roundw
        case rel => exact ⟨m + 1, by omega, i_ext2 (by omega), KS, ⟨(by repeat (first | exact Below.refl _ _ | exact B1.out | refine Below.drews ?_ | refine Below.drew ?_ | refine Below.alloc ?_ (by first | omega | (simp <;> omega)) _ | refine Below.setCell ?_ (by first | omega | (simp <;> omega)) _))⟩⟩
        case measure => simp [intOf]; omega
    · obtain rfl : m = n := by omega
      go_wp2
      go_ret
      rw [ha.out]
      exact ⟨rfl, hb.out⟩
theorem iArePacked_any {g n : Nat} {ys : List Nat} (w : World) (hr : FRow w (some ⟨g, 0, none⟩) ys) (hw : Wf ys) (hn : ys.length = 2 * n) (hl : n ≤ 1048576) : Calls Try.prog 23 #[.slice (some ⟨g, 0, none⟩) n n] w (RS (.bool (packB ys n)) w) := by
  have HA := Hf.mk (iArePl_any w hr hw hn hl)
  have B0 := Hb.mk (Below.refl w.heap.size w)
  cases ha : arePl ys n
  · have KR := Hf.mk (show packB ys n = false by unfold packB; rw [ha, Bool.false_and])
    rw [ha] at HA
    go_enter Try.func23, Try.ntmps23
    go_wp2_with (first | (go_at_call 33; refine HA.out.mono ?_; rintro e w1 ⟨rfl, b1⟩; have B1 := Hb.mk (Below.on (B := w.heap.size) (a := w) (by repeat (first | exact B0.out | refine Below.drews ?_ | refine Below.drew ?_ | refine Below.alloc ?_ (by have hq_ := B0.out.size; first | omega | (simp <;> omega)) _ | refine Below.setCell ?_ (by have hq_ := B0.out.size; first | omega | (simp <;> omega)) _)) b1 (by have hq_ := B0.out.size; first | omega | (simp <;> omega))); clear b1))
    go_ret
    rw [KR.out]
    exact ⟨rfl, (by repeat (first | exact B1.out | refine Below.drews ?_ | refine Below.drew ?_ | refine Below.alloc ?_ (by have hq_ := B1.out.size; first | omega | (simp <;> omega)) _ | refine Below.setCell ?_ (by have hq_ := B1.out.size; first | omega | (simp <;> omega)) _))⟩
  · have KR := Hf.mk (show packB ys n = allPk ys n by unfold packB; rw [ha, Bool.true_and])
    have HP := Hf.mk (fun w h => areAllP_any (g := g) w h hw hn hl (arePl_of ha).2.2)
    have HR := Hf.mk hr
    rw [ha] at HA
    clear hr hw hn ha
    go_enter Try.func23, Try.ntmps23
    go_wp2_with (first | (go_at_call 33; refine HA.out.mono ?_; rintro e w1 ⟨rfl, b1⟩; have B1 := Hb.mk (Below.on (B := w.heap.size) (a := w) (by repeat (first | exact B0.out | refine Below.drews ?_ | refine Below.drew ?_ | refine Below.alloc ?_ (by have hq_ := B0.out.size; first | omega | (simp <;> omega)) _ | refine Below.setCell ?_ (by have hq_ := B0.out.size; first | omega | (simp <;> omega)) _)) b1 (by have hq_ := B0.out.size; first | omega | (simp <;> omega))); have R1 := Hf.mk (HR.out.below b1); clear b1) | (go_at_call 34; refine (HP.out _ R1.out).mono ?_; rintro e w2 ⟨rfl, b2⟩; have B2 := Hb.mk (Below.on (B := w.heap.size) (a := w) (by repeat (first | exact B1.out | refine Below.drews ?_ | refine Below.drew ?_ | refine Below.alloc ?_ (by have hq_ := B1.out.size; first | omega | (simp <;> omega)) _ | refine Below.setCell ?_ (by have hq_ := B1.out.size; first | omega | (simp <;> omega)) _)) b2 (by have hq_ := B1.out.size; first | omega | (simp <;> omega))); clear b2))
    go_ret
    rw [KR.out]
    exact ⟨rfl, (by repeat (first | exact B2.out | refine Below.drews ?_ | refine Below.drew ?_ | refine Below.alloc ?_ (by have hq_ := B2.out.size; first | omega | (simp <;> omega)) _ | refine Below.setCell ?_ (by have hq_ := B2.out.size; first | omega | (simp <;> omega)) _))⟩
set_option maxHeartbeats 4000000 in
theorem l07Packed_any {g n : Nat} {ys : List Nat} (w : World) (hr : FRow w (some ⟨g, 0, none⟩) ys) (hw : Wf ys) (hn : ys.length = 2 * n) (hl : n ≤ 1048576) : Calls Try.prog 19 #[.slice (some ⟨g, 0, none⟩) n n] w (RS (.bool (packB ys n)) w) := by
  have HA := Hf.mk (l02Are_any w hr hw hn hl)
  have HR := Hf.mk hr
  have HW := Hf.mk hw
  have HN := Hf.mk hn
  clear hr hw hn
  cases ha : arePl ys n
  · have KR := Hf.mk (show packB ys n = false by unfold packB; rw [ha, Bool.false_and])
    rw [ha] at HA
    go_enter Try.func19, Try.ntmps19
    go_wp2_with (first | (go_at_call 28; refine HA.out.mono ?_; rintro e w' ⟨rfl, n1, rfl⟩))
    go_ret
    rw [KR.out]
    exact ⟨rfl, (by repeat (first | exact Below.refl _ _ | with_reducible assumption | refine Below.drews ?_ | refine Below.drew ?_ | refine Below.alloc ?_ (by simp <;> omega) _ | refine Below.setCell ?_ (by simp <;> omega) _))⟩
  · have KR := Hf.mk (show packB ys n = allPk ys n by unfold packB; rw [ha, Bool.true_and])
    have HV := Hf.mk (arePl_of ha).2.2
    rw [ha] at HA
    clear ha
    go_enter Try.func19, Try.ntmps19
    go_wp2_with (first | (go_at_call 28; refine HA.out.mono ?_; rintro e w' ⟨rfl, n1, rfl⟩))
    go_loopw [14] (fun i wr => ∃ m : Nat, m ≤ n ∧ i = .int .i64 m ∧ Hf (allPk ys m = true) ∧ Hf (Below w.heap.size w wr)) (fun i _ => n - (intOf i).toNat)
    case atStart => exact ⟨0, by omega, rfl, ⟨rfl⟩, ⟨(by repeat (first | exact Below.refl _ _ | with_reducible assumption | refine Below.drews ?_ | refine Below.drew ?_ | refine Below.alloc ?_ (by simp <;> omega) _ | refine Below.setCell ?_ (by simp <;> omega) _))⟩⟩
    case round =>
      obtain ⟨m, hm, rfl, ha, hb⟩ := hrel
      by_cases hlt : m < n
      · have RB := Hf.mk (HR.out.below hb.out)
        obtain ⟨c0, c1⟩ := RB.out.twoAt HN.out hlt
        have f1 := flN HW.out HN.out hlt
        have f2 := flE HW.out HN.out hlt
        have KS := Hf.mk (fun w => sStepsOf_yes f1 f2 (HV.out m hlt) w)
        have KD := Hf.mk (show pkAt ys m = (stepsIn (stepC (nC ys m)) (eastStep (eC ys m)) && sameC (quoC (stepC (nC ys m))) (quoC (eastStep (eC ys m))) (nC ys m) (eC ys m)) from rfl)
        have BR := Hb.mk hb.out
        cases hi : stepsIn (stepC (nC ys m)) (eastStep (eC ys m))
        · have KN := Hf.mk (show allPk ys n = false from allPk_no hlt (by rw [KD.out, hi, Bool.false_and]))
          have KP := Hf.mk (fun w => sPlaceOfSteps_no (steps_no hi).2 w)
          clear KD hi
          generalize stepC (nC ys m) = N at *
          generalize eastStep (eC ys m) = E at *
          go_wp2_with (first
            | (go_at_call 29; refine (KS.out _).mono ?_; rintro e w1 ⟨rfl, b1⟩; have B1 := Hb.mk (Below.on (B := w.heap.size) (a := w) (by repeat (first | exact BR.out | refine Below.drews ?_ | refine Below.drew ?_ | refine Below.alloc ?_ (by have hq_ := BR.out.size; first | omega | (simp <;> omega)) _ | refine Below.setCell ?_ (by have hq_ := BR.out.size; first | omega | (simp <;> omega)) _)) b1 (by have hq_ := BR.out.size; first | omega | (simp <;> omega))); clear b1)
            | (go_at_call 30; refine (KP.out _).mono ?_; rintro e w2 ⟨x2, y2, rfl, f3, f4, b2⟩; have B2 := Hb.mk (Below.on (B := w.heap.size) (a := w) (by repeat (first | exact B1.out | refine Below.drews ?_ | refine Below.drew ?_ | refine Below.alloc ?_ (by have hq_ := B1.out.size; first | omega | (simp <;> omega)) _ | refine Below.setCell ?_ (by have hq_ := B1.out.size; first | omega | (simp <;> omega)) _)) b2 (by have hq_ := B1.out.size; first | omega | (simp <;> omega))); clear b2))
          go_ret
          rw [KR.out, KN.out]
          exact ⟨rfl, (by repeat (first | exact B2.out | refine Below.drews ?_ | refine Below.drew ?_ | refine Below.alloc ?_ (by have hq_ := B2.out.size; first | omega | (simp <;> omega)) _ | refine Below.setCell ?_ (by have hq_ := B2.out.size; first | omega | (simp <;> omega)) _))⟩
        · obtain ⟨i1, i2, i3, i4⟩ := steps_yes hi
          have KP := Hf.mk (fun w => sPlaceOfSteps_yes i1 i2 i3 i4 w)
          clear i1 i2 i3 i4
          rw [hi, Bool.true_and] at KD
          clear hi
          generalize stepC (nC ys m) = N at *
          generalize eastStep (eC ys m) = E at *
          cases hs : sameC (quoC N) (quoC E) (nC ys m) (eC ys m)
          · have KN := Hf.mk (show allPk ys n = false from allPk_no hlt (by rw [KD.out, hs]))
            have HS := Hf.mk hs
            clear KD hs
            go_wp2_with (first
              | (go_at_call 29; refine (KS.out _).mono ?_; rintro e w1 ⟨rfl, b1⟩; have B1 := Hb.mk (Below.on (B := w.heap.size) (a := w) (by repeat (first | exact BR.out | refine Below.drews ?_ | refine Below.drew ?_ | refine Below.alloc ?_ (by have hq_ := BR.out.size; first | omega | (simp <;> omega)) _ | refine Below.setCell ?_ (by have hq_ := BR.out.size; first | omega | (simp <;> omega)) _)) b1 (by have hq_ := BR.out.size; first | omega | (simp <;> omega))); have d0 := Hf.mk (Below.keep b1 c0); have d1 := Hf.mk (Below.keep b1 c1); clear b1)
              | (go_at_call 30; refine (KP.out _).mono ?_; rintro e w2 ⟨x2, y2, rfl, f3, f4, b2⟩; have B2 := Hb.mk (Below.on (B := w.heap.size) (a := w) (by repeat (first | exact B1.out | refine Below.drews ?_ | refine Below.drew ?_ | refine Below.alloc ?_ (by have hq_ := B1.out.size; first | omega | (simp <;> omega)) _ | refine Below.setCell ?_ (by have hq_ := B1.out.size; first | omega | (simp <;> omega)) _)) b2 (by have hq_ := B1.out.size; first | omega | (simp <;> omega))); have d2 := Hf.mk (Below.keep b2 d0.out); have d3 := Hf.mk (Below.keep b2 d1.out); clear b2)
              | (go_at_call 31; refine (l02SameAt_any f3 f4 f1 f2 _ (by simp) (by simp) (Below.keep (by repeat (first | exact Below.refl _ _ | with_reducible assumption | refine Below.drews ?_ | refine Below.drew ?_ | refine Below.alloc ?_ (by simp <;> omega) _ | refine Below.setCell ?_ (by simp <;> omega) _)) d2.out) (Below.keep (by repeat (first | exact Below.refl _ _ | with_reducible assumption | refine Below.drews ?_ | refine Below.drew ?_ | refine Below.alloc ?_ (by simp <;> omega) _ | refine Below.setCell ?_ (by simp <;> omega) _)) d3.out)).mono ?_; rw [HS.out]; rintro e w3 ⟨rfl, b3⟩; have B3 := Hb.mk (Below.on (B := w.heap.size) (a := w) (by repeat (first | exact B2.out | refine Below.drews ?_ | refine Below.drew ?_ | refine Below.alloc ?_ (by have hq_ := B2.out.size; first | omega | (simp <;> omega)) _ | refine Below.setCell ?_ (by have hq_ := B2.out.size; first | omega | (simp <;> omega)) _)) b3 (by have hq_ := B2.out.size; first | omega | (simp <;> omega))); clear b3))
            go_ret
            rw [KR.out, KN.out]
            exact ⟨rfl, (by repeat (first | exact B3.out | refine Below.drews ?_ | refine Below.drew ?_ | refine Below.alloc ?_ (by have hq_ := B3.out.size; first | omega | (simp <;> omega)) _ | refine Below.setCell ?_ (by have hq_ := B3.out.size; first | omega | (simp <;> omega)) _))⟩
          · have KN := Hf.mk (show allPk ys (m + 1) = true by unfold allPk; rw [ha.out, Bool.true_and, KD.out, hs])
            have HS := Hf.mk hs
            clear KD hs
            go_wp2_with (first
              | (go_at_call 29; refine (KS.out _).mono ?_; rintro e w1 ⟨rfl, b1⟩; have B1 := Hb.mk (Below.on (B := w.heap.size) (a := w) (by repeat (first | exact BR.out | refine Below.drews ?_ | refine Below.drew ?_ | refine Below.alloc ?_ (by have hq_ := BR.out.size; first | omega | (simp <;> omega)) _ | refine Below.setCell ?_ (by have hq_ := BR.out.size; first | omega | (simp <;> omega)) _)) b1 (by have hq_ := BR.out.size; first | omega | (simp <;> omega))); have d0 := Hf.mk (Below.keep b1 c0); have d1 := Hf.mk (Below.keep b1 c1); clear b1)
              | (go_at_call 30; refine (KP.out _).mono ?_; rintro e w2 ⟨x2, y2, rfl, f3, f4, b2⟩; have B2 := Hb.mk (Below.on (B := w.heap.size) (a := w) (by repeat (first | exact B1.out | refine Below.drews ?_ | refine Below.drew ?_ | refine Below.alloc ?_ (by have hq_ := B1.out.size; first | omega | (simp <;> omega)) _ | refine Below.setCell ?_ (by have hq_ := B1.out.size; first | omega | (simp <;> omega)) _)) b2 (by have hq_ := B1.out.size; first | omega | (simp <;> omega))); have d2 := Hf.mk (Below.keep b2 d0.out); have d3 := Hf.mk (Below.keep b2 d1.out); clear b2)
              | (go_at_call 31; refine (l02SameAt_any f3 f4 f1 f2 _ (by simp) (by simp) (Below.keep (by repeat (first | exact Below.refl _ _ | with_reducible assumption | refine Below.drews ?_ | refine Below.drew ?_ | refine Below.alloc ?_ (by simp <;> omega) _ | refine Below.setCell ?_ (by simp <;> omega) _)) d2.out) (Below.keep (by repeat (first | exact Below.refl _ _ | with_reducible assumption | refine Below.drews ?_ | refine Below.drew ?_ | refine Below.alloc ?_ (by simp <;> omega) _ | refine Below.setCell ?_ (by simp <;> omega) _)) d3.out)).mono ?_; rw [HS.out]; rintro e w3 ⟨rfl, b3⟩; have B3 := Hb.mk (Below.on (B := w.heap.size) (a := w) (by repeat (first | exact B2.out | refine Below.drews ?_ | refine Below.drew ?_ | refine Below.alloc ?_ (by have hq_ := B2.out.size; first | omega | (simp <;> omega)) _ | refine Below.setCell ?_ (by have hq_ := B2.out.size; first | omega | (simp <;> omega)) _)) b3 (by have hq_ := B2.out.size; first | omega | (simp <;> omega))); clear b3))
            go_roundw
            case rel => exact ⟨m + 1, by omega, i_ext2 (by omega), KN, ⟨(by repeat (first | exact B3.out | refine Below.drews ?_ | refine Below.drew ?_ | refine Below.alloc ?_ (by have hq_ := B3.out.size; first | omega | (simp <;> omega)) _ | refine Below.setCell ?_ (by have hq_ := B3.out.size; first | omega | (simp <;> omega)) _))⟩⟩
            case measure => simp [intOf]; omega
      · obtain rfl : m = n := by omega
        go_wp2
        go_ret
        rw [KR.out, ha.out]
        exact ⟨rfl, hb.out⟩
end Go.Proofs.Ytmioclcipdifpaa
