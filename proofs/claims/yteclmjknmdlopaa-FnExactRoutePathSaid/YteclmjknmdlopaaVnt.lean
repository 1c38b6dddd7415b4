/-
  Valid nets, of the program and of its model; the exact law ValidNet. No condition.
-/
import Derived.Test.YteclmjknmdlopaaNet
import Derived.Deep.RegionWith
namespace Go.Proofs.Yteclmjknmdlopaa
open Go Go.RowKit
set_option maxRecDepth 100000

/-- 'a valid or other net lies here, its rows are these' -/
structure NR (w : World) (g1 g2 n m : Nat) (ys : List Nat) (xs : List Int) : Prop where
  p : FRow w (some ⟨g1, 0, none⟩) ys
  q : IRow w (some ⟨g2, 0, none⟩) xs
theorem NR.below {w w' : World} {g1 g2 n m : Nat} {ys : List Nat} {xs : List Int} (h : NR w g1 g2 n m ys xs) (b : Below w.heap.size w w') : NR w' g1 g2 n m ys xs := ⟨h.p.below b, h.q.below b⟩
/-- What is known of the rows of a net, whatever the world. -/
structure NK (n m : Nat) (ys : List Nat) (xs : List Int) : Prop where
  kw : Wf ys
  kn : ys.length = 2 * n
  kl : n ≤ 1048576
  km : xs.length = 3 * m
  kk : m ≤ 1048576
abbrev nv (g1 n g2 m : Nat) : Value := nt (some ⟨g1, 0, none⟩) n n (some ⟨g2, 0, none⟩) m m
set_option maxHeartbeats 1000000 in
theorem areAllRo_any {g n m k l c : Nat} {p q : Option Addr} {xs : List Int} (w : World) (hq : IRow w (some ⟨g, 0, none⟩) xs) (hm : xs.length = 3 * m) (hl : m ≤ 1048576) : Calls Try.prog 71 #[.slice (some ⟨g, 0, none⟩) m c, .func (.func 72) #[nt p n k q m l] #[]] w (RS (.bool (allRd xs n m)) w) := by
  have HQ := Hf.mk hq
  have HM := Hf.mk hm
  clear hq hm
  go_enter Try.func71, Try.ntmps71
  go_wp2
  go_loopw [9] (fun v wr => ∃ i : Nat, i ≤ m ∧ v = .int .i64 i ∧ Hf (allRd xs n i = true) ∧ Hf (Below w.heap.size w wr)) (fun v _ => m - (intOf v).toNat)
  case atStart => exact ⟨0, by omega, rfl, ⟨rfl⟩, ⟨(by repeat (first | exact Below.refl _ _ | with_reducible assumption | refine Below.drews ?_ | refine Below.drew ?_ | refine Below.alloc ?_ (by simp <;> omega) _ | refine Below.setCell ?_ (by simp <;> omega) _))⟩⟩
  case round =>
    obtain ⟨i, hi, rfl, ha, hb⟩ := hrel
    by_cases hlt : i < m
    · obtain ⟨d0, d1, d2⟩ := (HQ.out.below hb.out).threeAt HM.out hlt
      have BR := Hb.mk hb.out
      have hv := fun w => hasRoad_any (n := n) (k := k) (m := m) (l := l) (p := p) (q := q) (a := raA xs i) (b := raB xs i) (c := raL xs i) w
      cases hv1 : roadB (raA xs i) (raB xs i) (raL xs i) n
      · rw [hv1] at hv
        have HV := Hf.mk hv
        have KR := Hf.mk (show allRd xs n m = false from allRd_no hlt hv1)
        clear hv hv1
        go_wp2_with (first | (go_at_call 72; refine (HV.out _).mono ?_; rintro e w1 ⟨rfl, b1⟩; have B1 := Hb.mk (Below.on (B := w.heap.size) (a := w) (by repeat (first | exact BR.out | refine Below.drews ?_ | refine Below.drew ?_ | refine Below.alloc ?_ (by have hq_ := BR.out.size; first | omega | (simp <;> omega)) _ | refine Below.setCell ?_ (by have hq_ := BR.out.size; first | omega | (simp <;> omega)) _)) b1 (by have hq_ := BR.out.size; first | omega | (simp <;> omega))); clear b1))
        go_ret
        rw [KR.out]
        exact ⟨rfl, (by repeat (first | exact B1.out | refine Below.drews ?_ | refine Below.drew ?_ | refine Below.alloc ?_ (by have hq_ := B1.out.size; first | omega | (simp <;> omega)) _ | refine Below.setCell ?_ (by have hq_ := B1.out.size; first | omega | (simp <;> omega)) _))⟩
      · rw [hv1] at hv
        have HV := Hf.mk hv
        have KS := Hf.mk (show allRd xs n (i + 1) = true by unfold allRd; rw [ha.out, Bool.true_and]; exact hv1)
        clear hv hv1
        go_wp2_with (first | (go_at_call 72; refine (HV.out _).mono ?_; rintro e w1 ⟨rfl, b1⟩; have B1 := Hb.mk (Below.on (B := w.heap.size) (a := w) (by repeat (first | exact BR.out | refine Below.drews ?_ | refine Below.drew ?_ | refine Below.alloc ?_ (by have hq_ := BR.out.size; first | omega | (simp <;> omega)) _ | refine Below.setCell ?_ (by have hq_ := BR.out.size; first | omega | (simp <;> omega)) _)) b1 (by have hq_ := BR.out.size; first | omega | (simp <;> omega))); clear b1))
        go_roundw
        case rel => exact ⟨i + 1, by omega, i_ext2 (by omega), KS, ⟨(by repeat (first | exact B1.out | refine Below.drews ?_ | refine Below.drew ?_ | refine Below.alloc ?_ (by have hq_ := B1.out.size; first | omega | (simp <;> omega)) _ | refine Below.setCell ?_ (by have hq_ := B1.out.size; first | omega | (simp <;> omega)) _))⟩⟩
        case measure => simp [intOf]; omega
    · obtain rfl : i = m := by omega
      go_wp2
      go_ret
      rw [ha.out]
      exact ⟨rfl, hb.out⟩
set_option maxHeartbeats 2000000 in
theorem iValidNet_any {g1 g2 n m : Nat} {ys : List Nat} {xs : List Int} (K : NK n m ys xs) (w : World) (h : NR w g1 g2 n m ys xs) : Calls Try.prog 43 #[nv g1 n g2 m] w (RS (.bool (netB ys n xs m)) w) := by
  have HA := Hf.mk (fun w hr => iArePl_any (g := g1) w hr K.kw K.kn K.kl)
  have HB := Hf.mk (fun w hq => areAllRo_any (g := g2) (n := n) (k := n) (l := m) (c := m) (p := some ⟨g1, 0, none⟩) (q := some ⟨g2, 0, none⟩) w hq K.km K.kk)
  have B0 := Hb.mk (Below.refl w.heap.size w)
  have H := Hf.mk h
  clear h K
  cases ha : arePl ys n
  · have KF := Hf.mk (show netB ys n xs m = false by unfold netB; rw [ha, Bool.false_and])
    rw [ha] at HA
    go_enter Try.func43, Try.ntmps43
    go_wp2_with (first | (go_at_call 52; refine (HA.out _ (H.out.p.below (by repeat (first | exact Below.refl _ _ | with_reducible assumption | refine Below.drews ?_ | refine Below.drew ?_ | refine Below.alloc ?_ (by simp <;> omega) _ | refine Below.setCell ?_ (by simp <;> omega) _)))).mono ?_; rintro e w1 ⟨rfl, b1⟩; have B1 := Hb.mk (Below.on (B := w.heap.size) (a := w) (by repeat (first | exact B0.out | refine Below.drews ?_ | refine Below.drew ?_ | refine Below.alloc ?_ (by have hq_ := B0.out.size; first | omega | (simp <;> omega)) _ | refine Below.setCell ?_ (by have hq_ := B0.out.size; first | omega | (simp <;> omega)) _)) b1 (by have hq_ := B0.out.size; first | omega | (simp <;> omega))); clear b1))
    go_ret
    rw [KF.out]
    exact ⟨rfl, (by repeat (first | exact B1.out | refine Below.drews ?_ | refine Below.drew ?_ | refine Below.alloc ?_ (by have hq_ := B1.out.size; first | omega | (simp <;> omega)) _ | refine Below.setCell ?_ (by have hq_ := B1.out.size; first | omega | (simp <;> omega)) _))⟩
  · rw [ha] at HA
    by_cases h64 : m ≤ 64
    · have KR := Hf.mk (show netB ys n xs m = allRd xs n m by unfold netB; rw [ha, decide_eq_true h64, Bool.true_and, Bool.true_and])
      generalize allRd xs n m = b at *
      clear ha
      go_enter Try.func43, Try.ntmps43
      go_wp2_with (first
        | (go_at_call 52; refine (HA.out _ (H.out.p.below (by repeat (first | exact Below.refl _ _ | with_reducible assumption | refine Below.drews ?_ | refine Below.drew ?_ | refine Below.alloc ?_ (by simp <;> omega) _ | refine Below.setCell ?_ (by simp <;> omega) _)))).mono ?_; rintro e w1 ⟨rfl, b1⟩; have B1 := Hb.mk (Below.on (B := w.heap.size) (a := w) (by repeat (first | exact B0.out | refine Below.drews ?_ | refine Below.drew ?_ | refine Below.alloc ?_ (by have hq_ := B0.out.size; first | omega | (simp <;> omega)) _ | refine Below.setCell ?_ (by have hq_ := B0.out.size; first | omega | (simp <;> omega)) _)) b1 (by have hq_ := B0.out.size; first | omega | (simp <;> omega))); have p0 := Hb.mk (At.keep b1 (p := ⟨(w.heap.size), 0, none⟩) (v := .slice (some ⟨g1, 0, none⟩) n n) (by simp [go_sem]) (by simp [go_sem])); obtain ⟨p0c, p0z, p0l⟩ := p0.out; have p1 := Hb.mk (At.keep b1 (p := ⟨(w.heap.size), 1, none⟩) (v := .slice (some ⟨g2, 0, none⟩) m m) (by simp [go_sem]) (by simp [go_sem])); obtain ⟨p1c, p1z, p1l⟩ := p1.out; clear b1)
        | (go_at_call 71; refine (HB.out _ (H.out.q.below B1.out)).mono ?_; rintro e w2 ⟨rfl, b2⟩; have B2 := Hb.mk (Below.on (B := w.heap.size) (a := w) (by repeat (first | exact B1.out | refine Below.drews ?_ | refine Below.drew ?_ | refine Below.alloc ?_ (by have hq_ := B1.out.size; first | omega | (simp <;> omega)) _ | refine Below.setCell ?_ (by have hq_ := B1.out.size; first | omega | (simp <;> omega)) _)) b2 (by have hq_ := B1.out.size; first | omega | (simp <;> omega))); clear b2))
      go_ret
      rw [KR.out]
      exact ⟨rfl, (by repeat (first | exact B2.out | refine Below.drews ?_ | refine Below.drew ?_ | refine Below.alloc ?_ (by have hq_ := B2.out.size; first | omega | (simp <;> omega)) _ | refine Below.setCell ?_ (by have hq_ := B2.out.size; first | omega | (simp <;> omega)) _))⟩
    · have KF := Hf.mk (show netB ys n xs m = false by unfold netB; rw [ha, decide_eq_false h64, Bool.true_and, Bool.false_and])
      clear ha
      go_enter Try.func43, Try.ntmps43
      go_wp2_with (first
        | (go_at_call 52; refine (HA.out _ (H.out.p.below (by repeat (first | exact Below.refl _ _ | with_reducible assumption | refine Below.drews ?_ | refine Below.drew ?_ | refine Below.alloc ?_ (by simp <;> omega) _ | refine Below.setCell ?_ (by simp <;> omega) _)))).mono ?_; rintro e w1 ⟨rfl, b1⟩; have B1 := Hb.mk (Below.on (B := w.heap.size) (a := w) (by repeat (first | exact B0.out | refine Below.drews ?_ | refine Below.drew ?_ | refine Below.alloc ?_ (by have hq_ := B0.out.size; first | omega | (simp <;> omega)) _ | refine Below.setCell ?_ (by have hq_ := B0.out.size; first | omega | (simp <;> omega)) _)) b1 (by have hq_ := B0.out.size; first | omega | (simp <;> omega))); have p0 := Hb.mk (At.keep b1 (p := ⟨(w.heap.size), 0, none⟩) (v := .slice (some ⟨g1, 0, none⟩) n n) (by simp [go_sem]) (by simp [go_sem])); obtain ⟨p0c, p0z, p0l⟩ := p0.out; have p1 := Hb.mk (At.keep b1 (p := ⟨(w.heap.size), 1, none⟩) (v := .slice (some ⟨g2, 0, none⟩) m m) (by simp [go_sem]) (by simp [go_sem])); obtain ⟨p1c, p1z, p1l⟩ := p1.out; clear b1))
      go_ret
      rw [KF.out]
      exact ⟨rfl, (by repeat (first | exact B1.out | refine Below.drews ?_ | refine Below.drew ?_ | refine Below.alloc ?_ (by have hq_ := B1.out.size; first | omega | (simp <;> omega)) _ | refine Below.setCell ?_ (by have hq_ := B1.out.size; first | omega | (simp <;> omega)) _))⟩
end Go.Proofs.Yteclmjknmdlopaa
