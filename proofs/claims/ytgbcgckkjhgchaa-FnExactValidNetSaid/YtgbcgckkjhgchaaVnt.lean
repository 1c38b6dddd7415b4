/-
  Valid nets, of the program and of its model; the exact law ValidNet. No condition.
-/
import Derived.Test.YtgbcgckkjhgchaaNet
import Derived.Deep.RegionWith
namespace Go.Proofs.Ytgbcgckkjhgchaa
open Go Go.RowKit
set_option maxRecDepth 100000

/-- 'a valid or other net lies here, its rows are these' -/
structure NR (w : World) (g1 g2 n m : Nat) (ys : List Nat) (xs : List Int) : Prop where
  p : FRow w (some ⟨g1, 0, none⟩) ys
  q : IRow w (some ⟨g2, 0, none⟩) xs
theorem NR.below {w w' : World} {g1 g2 n m : Nat} {ys : List Nat} {xs : List Int} (h : NR w g1 g2 n m ys xs) (b : Below w.heap.size w w') : NR w' g1 g2 n m ys xs := ⟨h.p.below b, h.q.below b⟩
/-- What is known of the rows of a net, whatever the world. -/
structure NK (n m : Nat) (ys : List Nat) (xs : List Int) : Prop where
  kw : Wf ys
  kn : ys.length = 2 * n
  kl : n ≤ 1048576
  km : xs.length = 3 * m
  kk : m ≤ 1048576
abbrev nv (g1 n g2 m : Nat) : Value := nt (some ⟨g1, 0, none⟩) n n (some ⟨g2, 0, none⟩) m m
theorem sValidNet_any {g1 g2 n m : Nat} {ys : List Nat} {xs : List Int} (K : NK n m ys xs) (w : World) (h : NR w g1 g2 n m ys xs) : Calls Try.prog 20 #[nv g1 n g2 m] w (RS (.bool (netB ys n xs m)) w) := by
  have HN := Hf.mk (fun w p c0 c1 hr hq => l07Net_any (p := p) (g1 := g1) (g2 := g2) w c0 c1 hr K.kw K.kn K.kl hq K.km K.kk)
  generalize netB ys n xs m = b at *
  go_enter Try.func20, Try.ntmps20
  go_wp2_with (first | (go_at_call 64; refine (HN.out _ _ (by simp [go_sem]) (by simp [go_sem]) (h.p.below (by repeat (first | exact Below.refl _ _ | with_reducible assumption | refine Below.drews ?_ | refine Below.drew ?_ | refine Below.alloc ?_ (by simp <;> omega) _ | refine Below.setCell ?_ (by simp <;> omega) _))) (h.q.below (by repeat (first | exact Below.refl _ _ | with_reducible assumption | refine Below.drews ?_ | refine Below.drew ?_ | refine Below.alloc ?_ (by simp <;> omega) _ | refine Below.setCell ?_ (by simp <;> omega) _)))).mono ?_; rintro e w' ⟨rfl, n1, rfl⟩))
  go_ret
  exact ⟨rfl, (by repeat (first | exact Below.refl _ _ | with_reducible assumption | refine Below.drews ?_ | refine Below.drew ?_ | refine Below.alloc ?_ (by simp <;> omega) _ | refine Below.setCell ?_ (by simp <;> omega) _))⟩
set_option maxHeartbeats 1000000 in
theorem areAllRo_any {g n m k l c : Nat} {p q : Option Addr} {xs : List Int} (w : World) (hq : IRow w (some ⟨g, 0, none⟩) xs) (hm : xs.length = 3 * m) (hl : m ≤ 1048576) : Calls Try.prog 65 #[.slice (some ⟨g, 0, none⟩) m c, .func (.func 66) #[nt p n k q m l] #[]] w (RS (.bool (allRd xs n m)) w) := by
  have HQ := Hf.mk hq
  have HM := Hf.mk hm
  clear hq hm
  go_enter Try.func65, Try.ntmps65
  go_wp2
  go_loopw [9] (fun v wr => ∃ i : Nat, i ≤ m ∧ v = .int .i64 i ∧ Hf (allRd xs n i = true) ∧ Hf (Below w.heap.size w wr)) (fun v _ => m - (intOf v).toNat)
  case atStart => exact ⟨0, by omega, rfl, ⟨rfl⟩, ⟨(by repeat (first | exact Below.refl _ _ | with_reducible assumption | refine Below.drews ?_ | refine Below.drew ?_ | refine Below.alloc ?_ (by simp <;> omega) _ | refine Below.setCell ?_ (by simp <;> omega) _))⟩⟩
  case round =>
    obtain ⟨i, hi, rfl, ha, hb⟩ := hrel
    by_cases hlt : i < m
    · obtain ⟨d0, d1, d2⟩ := (HQ.out.below hb.out).threeAt HM.out hlt
      have BR := Hb.mk hb.out
      have hv := fun w => hasRoad_any (n := n) (k := k) (m := m) (l := l) (p := p) (q := q) (a := raA xs i) (b := raB xs i) (c := raL xs i) w
      cases hv1 : roadB (raA xs i) (raB xs i) (raL xs i) n
      · rw [hv1] at hv
        have HV := Hf.mk hv
        have KR := Hf.mk (show allRd xs n m = false from allRd_no hlt hv1)
        clear hv hv1
        go_wp2_with (first | (go_at_call 66; refine (HV.out _).mono ?_; rintro e w1 ⟨rfl, b1⟩; have B1 := Hb.mk (Below.on (B := w.heap.size) (a := w) (by repeat (first | exact BR.out | refine Below.drews ?_ | refine Below.drew ?_ | refine Below.alloc ?_ (by have hq_ := BR.out.size; first | omega | (simp <;> omega)) _ | refine Below.setCell ?_ (by have hq_ := BR.out.size; first | omega | (simp <;> omega)) _)) b1 (by have hq_ := BR.out.size; first | omega | (simp <;> omega))); clear b1))
        go_ret
        rw [KR.out]
        exact ⟨rfl, (by repeat (first | exact B1.out | refine Below.drews ?_ | refine Below.drew ?_ | refine Below.alloc ?_ (by have hq_ := B1.out.size; first | omega | (simp <;> omega)) _ | refine Below.setCell ?_ (by have hq_ := B1.out.size; first | omega | (simp <;> omega)) _))⟩
      · rw [hv1] at hv
        have HV := Hf.mk hv
        have KS := Hf.mk (show allRd xs n (i + 1) = true by unfold allRd; rw [ha.out, Bool.true_and]; exact hv1)
        clear hv hv1
        go_wp2_with (first | (go_at_call 66; refine (HV.out _).mono ?_; rintro e w1 ⟨rfl, b1⟩; have B1 := Hb.mk (Below.on (B := w.heap.size) (a := w) (by repeat (first | exact BR.out | refine Below.drews ?_ | refine Below.drew ?_ | refine Below.alloc ?_ (by have hq_ := BR.out.size; first | omega | (simp <;> omega)) _ | refine Below.setCell ?_ (by have hq_ := BR.out.size; first | omega | (simp <;> omega)) _)) b1 (by have hq_ := BR.out.size; first | omega | (simp <;> omega))); clear b1))
        go_roundw
        case rel => exact ⟨i + 1, by omega, i_ext2 (by omega), KS, ⟨(by repeat (first | exact B1.out | refine Below.drews ?_ | refine Below.drew ?_ | refine Below.alloc ?_ (by have hq_ := B1.out.size; first | omega | (simp <;> omega)) _ | refine Below.setCell ?_ (by have hq_ := B1.out.size; first | omega | (simp <;> omega)) _))⟩⟩
        case measure => simp [intOf]; omega
    · obtain rfl : i = m := by omega
      go_wp2
      go_ret
      rw [ha.out]
      exact ⟨rfl, hb.out⟩
set_option maxHeartbeats 2000000 in
theorem iValidNet_any {g1 g2 n m : Nat} {ys : List Nat} {xs : List Int} (K : NK n m ys xs) (w : World) (h : NR w g1 g2 n m ys xs) : Calls Try.prog 22 #[nv g1 n g2 m] w (RS (.bool (netB ys n xs m)) w) := by
  have HA := Hf.mk (fun w hr => iArePl_any (g := g1) w hr K.kw K.kn K.kl)
  have HB := Hf.mk (fun w hq => areAllRo_any (g := g2) (n := n) (k := n) (l := m) (c := m) (p := some ⟨g1, 0, none⟩) (q := some ⟨g2, 0, none⟩) w hq K.km K.kk)
  have B0 := Hb.mk (Below.refl w.heap.size w)
  have H := Hf.mk h
  clear h K
  cases ha : arePl ys n
  · have KF := Hf.mk (show netB ys n xs m = false by unfold netB; rw [ha, Bool.false_and])
    rw [ha] at HA
    go_enter Try.func22, Try.ntmps22
    go_wp2_with (first | (go_at_call 60; refine (HA.out _ (H.out.p.below (by repeat (first | exact Below.refl _ _ | with_reducible assumption | refine Below.drews ?_ | refine Below.drew ?_ | refine Below.alloc ?_ (by simp <;> omega) _ | refine Below.setCell ?_ (by simp <;> omega) _)))).mono ?_; rintro e w1 ⟨rfl, b1⟩; have B1 := Hb.mk (Below.on (B := w.heap.size) (a := w) (by repeat (first | exact B0.out | refine Below.drews ?_ | refine Below.drew ?_ | refine Below.alloc ?_ (by have hq_ := B0.out.size; first | omega | (simp <;> omega)) _ | refine Below.setCell ?_ (by have hq_ := B0.out.size; first | omega | (simp <;> omega)) _)) b1 (by have hq_ := B0.out.size; first | omega | (simp <;> omega))); clear b1))
    go_ret
    rw [KF.out]
    exact ⟨rfl, (by repeat (first | exact B1.out | refine Below.drews ?_ | refine Below.drew ?_ | refine Below.alloc ?_ (by have hq_ := B1.out.size; first | omega | (simp <;> omega)) _ | refine Below.setCell ?_ (by have hq_ := B1.out.size; first | omega | (simp <;> omega)) _))⟩
  · rw [ha] at HA
    by_cases h64 : m ≤ 64
    · have KR := Hf.mk (show netB ys n xs m = allRd xs n m by unfold netB; rw [ha, decide_eq_true h64, Bool.true_and, Bool.true_and])
      generalize allRd xs n m = b at *
      clear ha
      go_enter Try.func22, Try.ntmps22
      go_wp2_with (first
        | (go_at_call 60; refine (HA.out _ (H.out.p.below (by repeat (first | exact Below.refl _ _ | with_reducible assumption | refine Below.drews ?_ | refine Below.drew ?_ | refine Below.alloc ?_ (by simp <;> omega) _ | refine Below.setCell ?_ (by simp <;> omega) _)))).mono ?_; rintro e w1 ⟨rfl, b1⟩; have B1 := Hb.mk (Below.on (B := w.heap.size) (a := w) (by repeat (first | exact B0.out | refine Below.drews ?_ | refine Below.drew ?_ | refine Below.alloc ?_ (by have hq_ := B0.out.size; first | omega | (simp <;> omega)) _ | refine Below.setCell ?_ (by have hq_ := B0.out.size; first | omega | (simp <;> omega)) _)) b1 (by have hq_ := B0.out.size; first | omega | (simp <;> omega))); have p0 := Hb.mk (At.keep b1 (p := ⟨(w.heap.size), 0, none⟩) (v := .slice (some ⟨g1, 0, none⟩) n n) (by simp [go_sem]) (by simp [go_sem])); obtain ⟨p0c, p0z, p0l⟩ := p0.out; have p1 := Hb.mk (At.keep b1 (p := ⟨(w.heap.size), 1, none⟩) (v := .slice (some ⟨g2, 0, none⟩) m m) (by simp [go_sem]) (by simp [go_sem])); obtain ⟨p1c, p1z, p1l⟩ := p1.out; clear b1)
        | (go_at_call 65; refine (HB.out _ (H.out.q.below B1.out)).mono ?_; rintro e w2 ⟨rfl, b2⟩; have B2 := Hb.mk (Below.on (B := w.heap.size) (a := w) (by repeat (first | exact B1.out | refine Below.drews ?_ | refine Below.drew ?_ | refine Below.alloc ?_ (by have hq_ := B1.out.size; first | omega | (simp <;> omega)) _ | refine Below.setCell ?_ (by have hq_ := B1.out.size; first | omega | (simp <;> omega)) _)) b2 (by have hq_ := B1.out.size; first | omega | (simp <;> omega))); clear b2))
      go_ret
      rw [KR.out]
      exact ⟨rfl, (by repeat (first | exact B2.out | refine Below.drews ?_ | refine Below.drew ?_ | refine Below.alloc ?_ (by have hq_ := B2.out.size; first | omega | (simp <;> omega)) _ | refine Below.setCell ?_ (by have hq_ := B2.out.size; first | omega | (simp <;> omega)) _))⟩
    · have KF := Hf.mk (show netB ys n xs m = false by unfold netB; rw [ha, decide_eq_false h64, Bool.true_and, Bool.false_and])
      clear ha
      go_enter Try.func22, Try.ntmps22
      go_wp2_with (first
        | (go_at_call 60; refine (HA.out _ (H.out.p.below (by repeat (first | exact Below.refl _ _ | with_reducible assumption | refine Below.drews ?_ | refine Below.drew ?_ | refine Below.alloc ?_ (by simp <;> omega) _ | refine Below.setCell ?_ (by simp <;> omega) _)))).mono ?_; rintro e w1 ⟨rfl, b1⟩; have B1 := Hb.mk (Below.on (B := w.heap.size) (a := w) (by repeat (first | exact B0.out | refine Below.drews ?_ | refine Below.drew ?_ | refine Below.alloc ?_ (by have hq_ := B0.out.size; first | omega | (simp <;> omega)) _ | refine Below.setCell ?_ (by have hq_ := B0.out.size; first | omega | (simp <;> omega)) _)) b1 (by have hq_ := B0.out.size; first | omega | (simp <;> omega))); have p0 := Hb.mk (At.keep b1 (p := ⟨(w.heap.size), 0, none⟩) (v := .slice (some ⟨g1, 0, none⟩) n n) (by simp [go_sem]) (by simp [go_sem])); obtain ⟨p0c, p0z, p0l⟩ := p0.out; have p1 := Hb.mk (At.keep b1 (p := ⟨(w.heap.size), 1, none⟩) (v := .slice (some ⟨g2, 0, none⟩) m m) (by simp [go_sem]) (by simp [go_sem])); obtain ⟨p1c, p1z, p1l⟩ := p1.out; clear b1))
      go_ret
      rw [KF.out]
      exact ⟨rfl, (by repeat (first | exact B1.out | refine Below.drews ?_ | refine Below.drew ?_ | refine Below.alloc ?_ (by have hq_ := B1.out.size; first | omega | (simp <;> omega)) _ | refine Below.setCell ?_ (by have hq_ := B1.out.size; first | omega | (simp <;> omega)) _))⟩
set_option maxHeartbeats 8000000 in
theorem law_ValidNet {a b : Option Addr} {n k m l : Nat} {ys : List Nat} {xs : List Int} (w : World) (hr : FRow w a ys) (hw : Wf ys) (hn : ys.length = 2 * n) (hm : n ≤ 9223372036854775807) (hq : IRow w b xs) (hx : xs.length = 3 * m) (hm2 : m ≤ 9223372036854775807) : Calls Try.prog 4 #[nt a n k b m l] w (RS (.bool true) w) := by
  have HR := Hf.mk hr
  have HQ := Hf.mk hq
  have B0 := Hb.mk (Below.refl w.heap.size w)
  by_cases hl : n + m ≤ 1048576
  · have K : NK n m ys xs := ⟨hw, hn, by omega, hx, by omega⟩
    have KZ := Hf.mk (fun w => szNet_yes (a := a) (b := b) (k := k) (l := l) hl w)
    have HS := Hf.mk (fun w g1 g2 h => sValidNet_any (g1 := g1) (g2 := g2) K w h)
    have HI := Hf.mk (fun w g1 g2 h => iValidNet_any (g1 := g1) (g2 := g2) K w h)
    have HK := Hf.mk K
    clear hr hq hw hn hx K
    generalize netB ys n xs m = v at *
    cases v
    all_goals
      go_enter Try.func4, Try.ntmps4
      have tk_a : True := trivial; have tk_b : True := trivial; have tk_c : True := trivial
      go_wp2_with (first
        | (go_at_call 19; refine (KZ.out _).mono ?_; rintro e w0 ⟨rfl, z0⟩; have Z0 := Hb.mk (Below.on (B := w.heap.size) (a := w) (by repeat (first | exact B0.out | refine Below.drews ?_ | refine Below.drew ?_ | refine Below.alloc ?_ (by have hq_ := B0.out.size; first | omega | (simp <;> omega)) _ | refine Below.setCell ?_ (by have hq_ := B0.out.size; first | omega | (simp <;> omega)) _)) z0 (by have hq_ := B0.out.size; first | omega | (simp <;> omega))); have p0 := Hb.mk (At.keep z0 (p := ⟨(w.heap.size), 0, none⟩) (v := .slice a n k) (by simp [go_sem]) (by simp [go_sem])); obtain ⟨p0c, p0z, p0l⟩ := p0.out; have p1 := Hb.mk (At.keep z0 (p := ⟨(w.heap.size), 1, none⟩) (v := .slice b m l) (by simp [go_sem]) (by simp [go_sem])); obtain ⟨p1c, p1z, p1l⟩ := p1.out; clear z0)
        | (go_at_call 21; clear tk_a; refine (tNet_any _ (HR.out.below Z0.out) HK.out.kn HK.out.kl (HQ.out.below Z0.out) HK.out.km HK.out.kk).mono ?_; rintro e w1 ⟨ga, gb, rfl, o1, o2, _, b1⟩; have N1 : Hf (NR w1 ga gb n m ys xs) := ⟨⟨frow_own2 HK.out.kn o1, irow_own3 HK.out.km o2⟩⟩; have B1 := Hb.mk (Below.on (B := w.heap.size) (a := w) (by repeat (first | exact Z0.out | refine Below.drews ?_ | refine Below.drew ?_ | refine Below.alloc ?_ (by have hq_ := Z0.out.size; first | omega | (simp <;> omega)) _ | refine Below.setCell ?_ (by have hq_ := Z0.out.size; first | omega | (simp <;> omega)) _)) b1 (by have hq_ := Z0.out.size; first | omega | (simp <;> omega))); have p0 := Hb.mk (At.re p0.out b1 (by first | exact p0c | simp [go_sem, p0c, p0l]) (by first | exact p0z | simp [go_sem, p0z, p0l])); obtain ⟨p0c, p0z, p0l⟩ := p0.out; have p1 := Hb.mk (At.re p1.out b1 (by first | exact p1c | simp [go_sem, p1c, p1l]) (by first | exact p1z | simp [go_sem, p1z, p1l])); obtain ⟨p1c, p1z, p1l⟩ := p1.out; clear o1 o2 b1)
        | (go_at_call 20; refine (HS.out _ _ _ N1.out).mono ?_; rintro e w2 ⟨rfl, b2⟩; have B2 := Hb.mk (Below.on (B := w.heap.size) (a := w) (by repeat (first | exact B1.out | refine Below.drews ?_ | refine Below.drew ?_ | refine Below.alloc ?_ (by have hq_ := B1.out.size; first | omega | (simp <;> omega)) _ | refine Below.setCell ?_ (by have hq_ := B1.out.size; first | omega | (simp <;> omega)) _)) b2 (by have hq_ := B1.out.size; first | omega | (simp <;> omega))); have p0 := Hb.mk (At.re p0.out b2 (by first | exact p0c | simp [go_sem, p0c, p0l]) (by first | exact p0z | simp [go_sem, p0z, p0l])); obtain ⟨p0c, p0z, p0l⟩ := p0.out; have p1 := Hb.mk (At.re p1.out b2 (by first | exact p1c | simp [go_sem, p1c, p1l]) (by first | exact p1z | simp [go_sem, p1z, p1l])); obtain ⟨p1c, p1z, p1l⟩ := p1.out; clear b2)
        | (go_at_call 21; clear tk_b; refine (tNet_any _ (HR.out.below B2.out) HK.out.kn HK.out.kl (HQ.out.below B2.out) HK.out.km HK.out.kk).mono ?_; rintro e w3 ⟨gc, gd, rfl, o1, o2, _, b3⟩; have N3 : Hf (NR w3 gc gd n m ys xs) := ⟨⟨frow_own2 HK.out.kn o1, irow_own3 HK.out.km o2⟩⟩; have B3 := Hb.mk (Below.on (B := w.heap.size) (a := w) (by repeat (first | exact B2.out | refine Below.drews ?_ | refine Below.drew ?_ | refine Below.alloc ?_ (by have hq_ := B2.out.size; first | omega | (simp <;> omega)) _ | refine Below.setCell ?_ (by have hq_ := B2.out.size; first | omega | (simp <;> omega)) _)) b3 (by have hq_ := B2.out.size; first | omega | (simp <;> omega))); have p0 := Hb.mk (At.re p0.out b3 (by first | exact p0c | simp [go_sem, p0c, p0l]) (by first | exact p0z | simp [go_sem, p0z, p0l])); obtain ⟨p0c, p0z, p0l⟩ := p0.out; have p1 := Hb.mk (At.re p1.out b3 (by first | exact p1c | simp [go_sem, p1c, p1l]) (by first | exact p1z | simp [go_sem, p1z, p1l])); obtain ⟨p1c, p1z, p1l⟩ := p1.out; clear o1 o2 b3)
        | (go_at_call 22; refine (HI.out _ _ _ (N3.out.below (by repeat (first | exact Below.refl _ _ | with_reducible assumption | refine Below.drews ?_ | refine Below.drew ?_ | refine Below.alloc ?_ (by simp <;> omega) _ | refine Below.setCell ?_ (by simp <;> omega) _)))).mono ?_; rintro e w4 ⟨rfl, b4⟩; have N4 := Hf.mk ((N3.out.below (by repeat (first | exact Below.refl _ _ | with_reducible assumption | refine Below.drews ?_ | refine Below.drew ?_ | refine Below.alloc ?_ (by simp <;> omega) _ | refine Below.setCell ?_ (by simp <;> omega) _))).below b4); have B4 := Hb.mk (Below.on (B := w.heap.size) (a := w) (by repeat (first | exact B3.out | refine Below.drews ?_ | refine Below.drew ?_ | refine Below.alloc ?_ (by have hq_ := B3.out.size; first | omega | (simp <;> omega)) _ | refine Below.setCell ?_ (by have hq_ := B3.out.size; first | omega | (simp <;> omega)) _)) b4 (by have hq_ := B3.out.size; first | omega | (simp <;> omega))); have p0 := Hb.mk (At.re p0.out b4 (by first | exact p0c | simp [go_sem, p0c, p0l]) (by first | exact p0z | simp [go_sem, p0z, p0l])); obtain ⟨p0c, p0z, p0l⟩ := p0.out; have p1 := Hb.mk (At.re p1.out b4 (by first | exact p1c | simp [go_sem, p1c, p1l]) (by first | exact p1z | simp [go_sem, p1z, p1l])); obtain ⟨p1c, p1z, p1l⟩ := p1.out; have x0 := Hb.mk (At.keep b4 (p := ⟨(w3.heap.size), 0, none⟩) (v := .slice (some ⟨gc, 0, none⟩) n n) (by simp [go_sem]) (by simp [go_sem])); obtain ⟨x0c, x0z, x0l⟩ := x0.out; have x1 := Hb.mk (At.keep b4 (p := ⟨(w3.heap.size), 1, none⟩) (v := .slice (some ⟨gd, 0, none⟩) m m) (by simp [go_sem]) (by simp [go_sem])); obtain ⟨x1c, x1z, x1l⟩ := x1.out; clear b4))
      go_region_with (first
        | (go_at_call 21; clear tk_c; refine (tNet_any _ (HR.out.below (by repeat (first | exact B4.out | refine Below.drews ?_ | refine Below.drew ?_ | refine Below.alloc ?_ (by have hq_ := B4.out.size; first | omega | (simp <;> omega)) _ | refine Below.setCell ?_ (by have hq_ := B4.out.size; first | omega | (simp <;> omega)) _))) HK.out.kn HK.out.kl (HQ.out.below (by repeat (first | exact B4.out | refine Below.drews ?_ | refine Below.drew ?_ | refine Below.alloc ?_ (by have hq_ := B4.out.size; first | omega | (simp <;> omega)) _ | refine Below.setCell ?_ (by have hq_ := B4.out.size; first | omega | (simp <;> omega)) _))) HK.out.km HK.out.kk).mono ?_; rintro e w5 ⟨ge, gf, rfl, o1, o2, _, b5⟩; have N5 : Hf (NR w5 ge gf n m ys xs) := ⟨⟨frow_own2 HK.out.kn o1, irow_own3 HK.out.km o2⟩⟩; have N6 := Hf.mk ((N4.out.below (by repeat (first | exact Below.refl _ _ | with_reducible assumption | refine Below.drews ?_ | refine Below.drew ?_ | refine Below.alloc ?_ (by simp <;> omega) _ | refine Below.setCell ?_ (by simp <;> omega) _))).below b5); have B5 := Hb.mk (Below.on (B := w.heap.size) (a := w) (by repeat (first | exact B4.out | refine Below.drews ?_ | refine Below.drew ?_ | refine Below.alloc ?_ (by have hq_ := B4.out.size; first | omega | (simp <;> omega)) _ | refine Below.setCell ?_ (by have hq_ := B4.out.size; first | omega | (simp <;> omega)) _)) b5 (by have hq_ := B4.out.size; first | omega | (simp <;> omega))); have x0 := Hb.mk (At.re x0.out b5 (by first | exact x0c | simp [go_sem, x0c, x0l]) (by first | exact x0z | simp [go_sem, x0z, x0l])); obtain ⟨x0c, x0z, x0l⟩ := x0.out; have x1 := Hb.mk (At.re x1.out b5 (by first | exact x1c | simp [go_sem, x1c, x1l]) (by first | exact x1z | simp [go_sem, x1z, x1l])); obtain ⟨x1c, x1z, x1l⟩ := x1.out; clear o1 o2 b5)
        | (go_at_call 23; refine (eqNet_any _ N6.out.p N5.out.p HK.out.kw HK.out.kn HK.out.kl N6.out.q N5.out.q HK.out.km HK.out.kk).mono ?_; rintro e w6 ⟨rfl, b6⟩; have B6 := Hb.mk (Below.on (B := w.heap.size) (a := w) (by repeat (first | exact B5.out | refine Below.drews ?_ | refine Below.drew ?_ | refine Below.alloc ?_ (by have hq_ := B5.out.size; first | omega | (simp <;> omega)) _ | refine Below.setCell ?_ (by have hq_ := B5.out.size; first | omega | (simp <;> omega)) _)) b6 (by have hq_ := B5.out.size; first | omega | (simp <;> omega))); clear b6))
      all_goals go_wp2
      all_goals go_ret
      all_goals exact ⟨rfl, (by repeat (first | exact Below.refl _ _ | exact B6.out | refine Below.drews ?_ | refine Below.drew ?_ | refine Below.alloc ?_ (by first | omega | (simp <;> omega)) _ | refine Below.setCell ?_ (by first | omega | (simp <;> omega)) _))⟩
  · have KZ := Hf.mk (fun w => szNet_no (a := a) (b := b) (k := k) (l := l) (by omega) hm hm2 w)
    clear hr hq hw hn hx
    go_enter Try.func4, Try.ntmps4
    go_wp2_with (first | (go_at_call 19; refine (KZ.out _).mono ?_; rintro e w0 ⟨rfl, z0⟩; have Z0 := Hb.mk (Below.on (B := w.heap.size) (a := w) (by repeat (first | exact B0.out | refine Below.drews ?_ | refine Below.drew ?_ | refine Below.alloc ?_ (by have hq_ := B0.out.size; first | omega | (simp <;> omega)) _ | refine Below.setCell ?_ (by have hq_ := B0.out.size; first | omega | (simp <;> omega)) _)) z0 (by have hq_ := B0.out.size; first | omega | (simp <;> omega))); clear z0))
    go_ret
    exact ⟨rfl, (by repeat (first | exact Z0.out | refine Below.drews ?_ | refine Below.drew ?_ | refine Below.alloc ?_ (by have hq_ := Z0.out.size; first | omega | (simp <;> omega)) _ | refine Below.setCell ?_ (by have hq_ := Z0.out.size; first | omega | (simp <;> omega)) _))⟩
end Go.Proofs.Ytgbcgckkjhgchaa
