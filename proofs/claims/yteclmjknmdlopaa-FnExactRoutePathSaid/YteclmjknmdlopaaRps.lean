/-
RoutePath, of the model. No premise beyond those named.
-/
import Derived.Test.YteclmjknmdlopaaRpt
namespace Go.Proofs.Yteclmjknmdlopaa
open Go Go.RowKit
set_option maxRecDepth 100000

def RFt (n : Nat) (i j : Int) (ok : Bool) : Bool := RFr n i ok && RFr n j ok
set_option maxHeartbeats 1000000 in
theorem sRp_no {g1 g2 n m : Nat} {ys : List Nat} {xs : List Int} {i j : Int} (K : NK n m ys xs) (w : World) (h : NR w g1 g2 n m ys xs) (hb : RFt n i j (netB ys n xs m) = false) : Calls Try.prog 18 #[nv g1 n g2 m, .int .i64 i, .int .i64 j] w (RPy 2 false 0 (ils []) w) := by
  have HN := Hf.mk (fun p w c0 c1 hr => l07From_any (p := p) (g1 := g1) (g2 := g2) (i := i) K w c0 c1 hr)
  have HM := Hf.mk (fun p w c0 c1 hr => l07From_any (p := p) (g1 := g1) (g2 := g2) (i := j) K w c0 c1 hr)
  unfold RFt at hb
  generalize RFr n i (netB ys n xs m) = a at *
  generalize RFr n j (netB ys n xs m) = b at *
  have HR := Hf.mk h
  clear h K
  cases a
  · clear hb HM
    go_enter Try.func18, Try.ntmps18
    go_wp2_with (first | (go_at_call 41; refine (HN.out _ _ (by simp [go_sem]) (by simp [go_sem]) (HR.out.below (by repeat (first | exact Below.refl _ _ | with_reducible assumption | refine Below.drews ?_ | refine Below.drew ?_ | refine Below.alloc ?_ (by simp <;> omega) _ | refine Below.setCell ?_ (by simp <;> omega) _)))).mono ?_; rintro e w' ⟨rfl, n1, rfl⟩))
    go_ret3
    exact RPy.nil (by repeat (first | exact Below.refl _ _ | with_reducible assumption | refine Below.drews ?_ | refine Below.drew ?_ | refine Below.alloc ?_ (by simp <;> omega) _ | refine Below.setCell ?_ (by simp <;> omega) _))
  · obtain rfl : b = false := by simpa using hb
    clear hb
    go_enter Try.func18, Try.ntmps18
    have tk_a : True := trivial; have tk_b : True := trivial
    go_wp2_with (first | (go_at_call 41; clear tk_a; refine (HN.out _ _ (by simp [go_sem]) (by simp [go_sem]) (HR.out.below (by repeat (first | exact Below.refl _ _ | with_reducible assumption | refine Below.drews ?_ | refine Below.drew ?_ | refine Below.alloc ?_ (by simp <;> omega) _ | refine Below.setCell ?_ (by simp <;> omega) _)))).mono ?_; rintro e w' ⟨rfl, n1, rfl⟩) | (go_at_call 41; clear tk_b; refine (HM.out _ _ (by simp [go_sem]) (by simp [go_sem]) (HR.out.below (by repeat (first | exact Below.refl _ _ | with_reducible assumption | refine Below.drews ?_ | refine Below.drew ?_ | refine Below.alloc ?_ (by simp <;> omega) _ | refine Below.setCell ?_ (by simp <;> omega) _)))).mono ?_; rintro e w' ⟨rfl, n2, rfl⟩))
    go_ret3
    exact RPy.nil (by repeat (first | exact Below.refl _ _ | with_reducible assumption | refine Below.drews ?_ | refine Below.drew ?_ | refine Below.alloc ?_ (by simp <;> omega) _ | refine Below.setCell ?_ (by simp <;> omega) _))
set_option maxHeartbeats 1000000 in
theorem sRp_far {W : Web} {g1 g2 s t : Nat} {ys : List Nat} {xs F : List Int} (K : NK W.n W.m ys xs) (w : World) (h : NR w g1 g2 W.n W.m ys xs) (hb : RFr W.n s (netB ys W.n xs W.m) = true) (hb2 : RFr W.n t (netB ys W.n xs W.m) = true) (ho : W.ok) (hat : W.At xs) (hlg : ∀ i, i < W.m → W.lg i = raL xs i) (hm : W.m ≤ 64) (hs : s < W.n) (ht : t < W.n) (hF : F.length = W.n) (hF2 : ∀ f, W.Longs s f → il W.n f = ils F) (hf : fF F t < 0) : Calls Try.prog 18 #[nv g1 W.n g2 W.m, .int .i64 (s : Int), .int .i64 (t : Int)] w (RPy 2 false 0 (ils []) w) := by
  have HN := Hf.mk (fun p w c0 c1 hr => l07From_any (p := p) (g1 := g1) (g2 := g2) (i := (s : Int)) K w c0 c1 hr)
  have HM := Hf.mk (fun p w c0 c1 hr => l07From_any (p := p) (g1 := g1) (g2 := g2) (i := (t : Int)) K w c0 c1 hr)
  rw [hb] at HN
  rw [hb2] at HM
  have HL := Hf.mk (fun p w c0 c1 hr => l07Longs_any (p := p) (a := some ⟨g1, 0, none⟩) (b := some ⟨g2, 0, none⟩) (k := W.n) (l := W.m) w ho hat hlg hm hs c0 c1 hr)
  have HR := Hf.mk h
  have HF := Hf.mk hF2
  have HFl := Hf.mk hF
  have B0 := Hb.mk (Below.refl w.heap.size w)
  clear h K hb hb2 ho hat hlg hF2 hF
  go_enter Try.func18, Try.ntmps18
  have tk_a : True := trivial; have tk_b : True := trivial
  go_wp2_with (first | (go_at_call 41; clear tk_a; refine (HN.out _ _ (by simp [go_sem]) (by simp [go_sem]) (HR.out.below (by repeat (first | exact Below.refl _ _ | with_reducible assumption | refine Below.drews ?_ | refine Below.drew ?_ | refine Below.alloc ?_ (by simp <;> omega) _ | refine Below.setCell ?_ (by simp <;> omega) _)))).mono ?_; rintro e w' ⟨rfl, n1, rfl⟩) | (go_at_call 41; clear tk_b; refine (HM.out _ _ (by simp [go_sem]) (by simp [go_sem]) (HR.out.below (by repeat (first | exact Below.refl _ _ | with_reducible assumption | refine Below.drews ?_ | refine Below.drew ?_ | refine Below.alloc ?_ (by simp <;> omega) _ | refine Below.setCell ?_ (by simp <;> omega) _)))).mono ?_; rintro e w' ⟨rfl, n2, rfl⟩) | (go_at_call 42; refine (HL.out _ _ (by simp [go_sem]) (by simp [go_sem]) (HR.out.below (by repeat (first | exact Below.refl _ _ | with_reducible assumption | refine Below.drews ?_ | refine Below.drew ?_ | refine Below.alloc ?_ (by simp <;> omega) _ | refine Below.setCell ?_ (by simp <;> omega) _))).q).mono ?_; rintro e w1 ⟨g, cap, f, rfl, o2, l2, b2⟩; have hct : w1.cell? ⟨g, t, none⟩ = some (.int .i64 (fF F t)) := (ORow.irow o2 (HF.out f l2) HFl.out).oneAt (by rw [HFl.out]; exact ht); have B1 := Hb.mk (Below.on (B := w.heap.size) (a := w) (by repeat (first | exact B0.out | refine Below.drews ?_ | refine Below.drew ?_ | refine Below.alloc ?_ (by have hq_ := B0.out.size; first | omega | (simp <;> omega)) _ | refine Below.setCell ?_ (by have hq_ := B0.out.size; first | omega | (simp <;> omega)) _)) b2 (by have hq_ := B0.out.size; first | omega | (simp <;> omega))); clear o2 l2 b2))
  go_ret3
  exact RPy.nil (by repeat (first | exact B1.out | refine Below.drews ?_ | refine Below.drew ?_ | refine Below.alloc ?_ (by have hq_ := B1.out.size; first | omega | (simp <;> omega)) _ | refine Below.setCell ?_ (by have hq_ := B1.out.size; first | omega | (simp <;> omega)) _))
set_option maxHeartbeats 8000000 in
theorem sRp_yes {W : Web} {g1 g2 s t K : Nat} {ys : List Nat} {xs F : List Int} (K0 : NK W.n W.m ys xs) (w : World) (h : NR w g1 g2 W.n W.m ys xs) (hb : RFr W.n s (netB ys W.n xs W.m) = true) (hb2 : RFr W.n t (netB ys W.n xs W.m) = true) (ho : W.ok) (hat : W.At xs) (hlg : ∀ i, i < W.m → W.lg i = raL xs i) (hm : W.m ≤ 64) (hs : s < W.n) (ht : t < W.n) (hF : F.length = W.n) (hF2 : ∀ f, W.Longs s f → il W.n f = ils F) (hL : W.Longs s (fF F)) (hK : K ≤ 64) (hP : Pth W (fF F) s t K) : Calls Try.prog 18 #[nv g1 W.n g2 W.m, .int .i64 (s : Int), .int .i64 (t : Int)] w (RPy 2 true (fF F t) (ils (rte W (fF F) t K)) w) := by
  obtain ⟨i0, hi0, hz0, hz1, hz2⟩ := info_parts (P := Try.prog) (e := 2) (z := .int .i64 0) (size := 1) (bytes := 8) (by kernel_rfl)
  have HN := Hf.mk (fun p w c0 c1 hr => l07From_any (p := p) (g1 := g1) (g2 := g2) (i := (s : Int)) K0 w c0 c1 hr)
  have HM := Hf.mk (fun p w c0 c1 hr => l07From_any (p := p) (g1 := g1) (g2 := g2) (i := (t : Int)) K0 w c0 c1 hr)
  rw [hb] at HN
  rw [hb2] at HM
  have HL := Hf.mk (fun p w c0 c1 hr => l07Longs_any (p := p) (a := some ⟨g1, 0, none⟩) (b := some ⟨g2, 0, none⟩) (k := W.n) (l := W.m) w ho hat hlg hm hs c0 c1 hr)
  have HR := Hf.mk h
  have HF := Hf.mk hF2
  have HFl := Hf.mk hF
  have HO := Hf.mk ho
  have HA := Hf.mk hat
  have HG := Hf.mk hlg
  have HP := Hf.mk hP
  have HLo := Hf.mk hL
  have B0 := Hb.mk (Below.refl w.heap.size w)
  have hf0 : ¬ fF F t < 0 := by have := hP.ge 0 (Nat.zero_le _); show ¬ fF F (W.pl (fF F) t 0) < 0; omega
  clear h K0 hb hb2 ho hat hlg hF2 hF hP hL
  go_enter Try.func18, Try.ntmps18
  have tk_a : True := trivial; have tk_b : True := trivial
  go_wp2_with (first | (go_at_call 41; clear tk_a; refine (HN.out _ _ (by simp [go_sem]) (by simp [go_sem]) (HR.out.below (by repeat (first | exact Below.refl _ _ | with_reducible assumption | refine Below.drews ?_ | refine Below.drew ?_ | refine Below.alloc ?_ (by simp <;> omega) _ | refine Below.setCell ?_ (by simp <;> omega) _)))).mono ?_; rintro e w' ⟨rfl, n1, rfl⟩) | (go_at_call 41; clear tk_b; refine (HM.out _ _ (by simp [go_sem]) (by simp [go_sem]) (HR.out.below (by repeat (first | exact Below.refl _ _ | with_reducible assumption | refine Below.drews ?_ | refine Below.drew ?_ | refine Below.alloc ?_ (by simp <;> omega) _ | refine Below.setCell ?_ (by simp <;> omega) _)))).mono ?_; rintro e w' ⟨rfl, n2, rfl⟩) | (go_at_call 42; refine (HL.out _ _ (by simp [go_sem]) (by simp [go_sem]) (HR.out.below (by repeat (first | exact Below.refl _ _ | with_reducible assumption | refine Below.drews ?_ | refine Below.drew ?_ | refine Below.alloc ?_ (by simp <;> omega) _ | refine Below.setCell ?_ (by simp <;> omega) _))).q).mono ?_; rintro e w1 ⟨g, cap, f, rfl, o2, l2, b2⟩; have R1 := Hf.mk (ORow.irow o2 (HF.out f l2) HFl.out); have hct : w1.cell? ⟨g, t, none⟩ = some (.int .i64 (fF F t)) := R1.out.oneAt (by rw [HFl.out]; exact ht); have C1 := Hf.mk (show w1.cell? ⟨w.heap.size, 1, none⟩ = some (.slice (some ⟨g2, 0, none⟩) W.m W.m) from Below.keep b2 (by simp [go_sem])); have B1 := Hb.mk (Below.on (B := w.heap.size) (a := w) (by repeat (first | exact B0.out | refine Below.drews ?_ | refine Below.drew ?_ | refine Below.alloc ?_ (by have hq_ := B0.out.size; first | omega | (simp <;> omega)) _ | refine Below.setCell ?_ (by have hq_ := B0.out.size; first | omega | (simp <;> omega)) _)) b2 (by have hq_ := B0.out.size; first | omega | (simp <;> omega))); clear o2 l2 b2))
  go_loopw [10, 11] (fun v a wr => ∃ (j : Nat), j ≤ K ∧ a = .int .i64 (bk W (fF F) t j) ∧ Hf (wr.ownsRow w1.heap.size 2 1 v (j + 1) (il (j + 1) (bk W (fF F) t))) ∧ Hf (Below w1.heap.size w1 wr)) (fun _ a _ => (fF F (intOf a).toNat).toNat)
  case atStart => exact ⟨0, Nat.zero_le _, rfl, ⟨World.ownsRow_lit w1 #[.int .i64 (t : Int)] 1 (Nat.le_refl _) (by decide) (by simp)⟩, ⟨(by repeat (first | exact Below.refl _ _ | with_reducible assumption | refine Below.drews ?_ | refine Below.drew ?_ | refine Below.alloc ?_ (by simp <;> omega) _ | refine Below.setCell ?_ (by simp <;> omega) _))⟩⟩
  case round =>
    obtain ⟨j, hj, rfl, hown, hbel⟩ := hrel
    obtain ⟨W1, hW1⟩ : ∃ W1, W1 = wr := ⟨_, rfl⟩
    subst hW1
    have hsz := hbel.out.size
    obtain ⟨p, hpe⟩ : ∃ p, p = W.pl (fF F) t j := ⟨_, rfl⟩
    have hp := HP.out.lt j hj
    have hfp := HP.out.ge j hj
    have hbk : bk W (fF F) t j = (p : Int) := by unfold bk; rw [hpe]
    rw [hbk]
    have HBK := Hf.mk hbk
    by_cases hjK : j < K
    · have hne := HP.out.ne j hjK
      have HPe := Hf.mk hpe
      have hnx : W.pl (fF F) t (j + 1) = W.least (fF F) (W.pl (fF F) t j) W.m := rfl
      rw [← hpe] at hp hfp hne hnx
      have hst := HLo.out.step HO.out hp hne hfp
      have HNX := Hf.mk (show nx W (fF F) p W.m = bk W (fF F) t (j + 1) by unfold nx bk; rw [if_pos hst.1, hnx])
      have HST := Hf.mk (show fF F (bk W (fF F) t (j + 1)).toNat < fF F p ∧ 0 ≤ fF F (bk W (fF F) t (j + 1)).toNat by unfold bk; rw [Int.toNat_natCast, hnx]; exact ⟨hst.2.2, hst.2.1⟩)
      have hne2 : ((p : Int) != (s : Int)) = true := by rw [bne_iff_ne]; omega
      have x1 := Below.keep hbel.out C1.out
      have hfp1 := HLo.out.le HO.out hp
      have dP := (R1.out.below hbel.out).oneAt (k := p) (by rw [HFl.out]; exact hp)
      obtain ⟨FP, hFP⟩ : ∃ x, fF F p = x := ⟨_, rfl⟩
      rw [show F.getD p 0 = FP from hFP] at dP
      clear hpe hne hst hnx hbk
      go_wp2
      go_loopw [12, 42] (fun v c wr => ∃ (i : Nat), i ≤ W.m ∧ c = .int .i64 i ∧ v = .int .i64 (nx W (fF F) p i) ∧ Drew W1 wr) (fun _ c _ => W.m - (intOf c).toNat)
      case atStart => exact ⟨0, by omega, rfl, by rw [nx_zero], (by repeat (first | exact Drew.refl _ | refine Drew.more ?_))⟩
      case round =>
        obtain ⟨i, hi, rfl, rfl, q, rfl⟩ := hrel
        by_cases hlti : i < W.m
        · have r3 := (((HR.out.q.below B1.out).below hbel.out).drew q).three HA.out.len hlti
          rw [add_at] at r3
          have r0 : (W1.drewN q).cell? ⟨g2, i * 3, none⟩ = some (.int .i64 (raA xs i)) := r3.1
          have r1 : (W1.drewN q).cell? ⟨g2, i * 3 + 1, none⟩ = some (.int .i64 (raB xs i)) := r3.2.1
          have r2 : (W1.drewN q).cell? ⟨g2, i * 3 + 2, none⟩ = some (.int .i64 (raL xs i)) := r3.2.2
          clear r3
          rw [HA.out.a i hlti] at r0
          rw [HA.out.b i hlti] at r1
          rw [← HG.out i hlti] at r2
          have a1 := HO.out.a i hlti
          have b1 := HO.out.b i hlti
          have ab := HO.out.ne i hlti
          have l1 := HO.out.l i hlti
          have dA := ((R1.out.below hbel.out).drew q).oneAt (k := W.A i) (by rw [HFl.out]; exact a1)
          have dB := ((R1.out.below hbel.out).drew q).oneAt (k := W.B i) (by rw [HFl.out]; exact b1)
          have dPq := ((R1.out.below hbel.out).drew q).oneAt (k := p) (by rw [HFl.out]; exact hp)
          have lo := W.least_le (fF F) p i
          have hFA1 := HLo.out.le HO.out a1
          have hFA0 := HLo.out.low _ a1
          have hFB0 := HLo.out.low _ b1
          have hFB1 := HLo.out.le HO.out b1
          have HNA := Hf.mk (fun (e : W.A i = p) => (HLo.out.near p (W.B i) (W.lg i) ⟨i, hlti, rfl, .inl ⟨e, rfl⟩⟩ hfp).1)
          have HNB := Hf.mk (fun (e : W.B i = p) => (HLo.out.near p (W.A i) (W.lg i) ⟨i, hlti, rfl, .inr ⟨rfl, e⟩⟩ hfp).1)
          have HMn := Hf.mk (fun {o : Nat} ho h => least_min (W := W) (f := fF F) (p := p) (k := i) (o := o) ho h)
          have HSt := Hf.mk (fun {o : Nat} ho h => least_stay (W := W) (f := fF F) (p := p) (k := i) (o := o) ho h)
          have HNo := Hf.mk (fun h1 h2 => least_none (W := W) (f := fF F) (p := p) (k := i) h1 h2)
          obtain ⟨FA, hFA⟩ : ∃ x, fF F (W.A i) = x := ⟨_, rfl⟩
          obtain ⟨FB, hFB⟩ : ∃ x, fF F (W.B i) = x := ⟨_, rfl⟩
          rw [show F.getD (W.A i) 0 = FA from hFA] at dA
          rw [show F.getD (W.B i) 0 = FB from hFB] at dB
          rw [show F.getD p 0 = FP from hFP] at dPq
          rw [hFA] at hFA1 hFA0 HNB
          rw [hFB] at hFB1 hFB0 HNA
          obtain ⟨A, hAe⟩ : ∃ x, W.A i = x := ⟨_, rfl⟩
          obtain ⟨B, hBe⟩ : ∃ x, W.B i = x := ⟨_, rfl⟩
          obtain ⟨Lg, hLe⟩ : ∃ x, W.lg i = x := ⟨_, rfl⟩
          rw [hAe] at r0 a1 ab dA HNA
          rw [hBe] at r1 b1 ab dB HNB
          rw [hLe] at r2 l1
          obtain ⟨l1, l2⟩ := l1
          obtain ⟨lt, hlt⟩ : ∃ x, W.least (fF F) p i = x := ⟨_, rfl⟩
          rw [hlt] at lo
          have KAe := Keep.mk hAe
          have KBe := Keep.mk hBe
          have KLe := Keep.mk hLe
          have KFA := Keep.mk hFA
          have KFB := Keep.mk hFB
          have KFP := Keep.mk hFP
          have Klt := Keep.mk hlt
          have HNe := Hf.mk (show nx W (fF F) p i = if lt < W.n then (lt : Int) else -1 by unfold nx; rw [hlt])
          have HNm := Hf.mk (fun (o : Nat) (ho : o < W.n) (e : W.least (fF F) p (i + 1) = min lt o) (hc : ¬ lt < W.n ∨ o < lt) => show nx W (fF F) p (i + 1) = (o : Int) by unfold nx; rw [e, if_pos (by omega)]; omega)
          have HNs := Hf.mk (fun (e : W.least (fF F) p (i + 1) = lt) => show nx W (fF F) p (i + 1) = nx W (fF F) p i by unfold nx; rw [e, hlt])
          rw [HNe.out]
          have s1 : wrap64 (FA + Lg) = FA + Lg := by unfold wrap64; omega
          have s2 : wrap64 (FB + Lg) = FB + Lg := by unfold wrap64; omega
          have dA' : W1.cell? ⟨g, A, none⟩ = some (.int .i64 FA) := dA
          have dB' : W1.cell? ⟨g, B, none⟩ = some (.int .i64 FB) := dB
          have dP' : W1.cell? ⟨g, p, none⟩ = some (.int .i64 FP) := dPq
          have r0' : W1.cell? ⟨g2, i * 3, none⟩ = some (.int .i64 (A : Int)) := r0
          have r1' : W1.cell? ⟨g2, i * 3 + 1, none⟩ = some (.int .i64 (B : Int)) := r1
          have r2' : W1.cell? ⟨g2, i * 3 + 2, none⟩ = some (.int .i64 Lg) := r2
          clear hAe hBe hLe hFA hFB hlt
          by_cases hA : A = p
          · have hAi : ((A : Int) == (p : Int)) = true := by rw [beq_iff_eq]; omega
            have HRoad : Hf ((W.A i = p ∧ W.B i = B) ∨ (W.A i ≠ p ∧ W.B i = p ∧ W.A i = B)) := ⟨.inl ⟨by rw [KAe.out]; exact hA, KBe.out⟩⟩
            have HEq : Hf (fF F B + W.lg i = FB + Lg) := ⟨by rw [← KBe.out, KFB.out, KLe.out]⟩
            have hge : 0 ≤ FB := HNA.out hA
            by_cases hq : FB + Lg = FP
            · by_cases hn : lt < W.n
              · rw [if_pos hn]
                by_cases hc : B < lt
                · skip
                  have D1 := Hb.mk (show decide ((0 : Int) ≤ (B : Int)) = true from decide_eq_true (by omega))
                  have D2 := Hb.mk (show decide (0 ≤ FB) = true from decide_eq_true (hge))
                  have D3 := Hb.mk (show (FB + Lg == FP) = true from beq_iff_eq.2 hq)
                  have D4 := Hb.mk (show decide ((lt : Int) < 0) = false from decide_eq_false (by omega))
                  have D5 := Hb.mk (show decide ((B : Int) < (lt : Int)) = true from decide_eq_true (by omega))
                  go_wp2
                  refine wp_region_quiet_lit (by kernel_rfl) (by kernel_rfl) ?_
                  repeat (first | go_big_quiet_step (fail) | rw [D1.out] | rw [D2.out] | rw [D3.out] | rw [D4.out] | rw [D5.out])
                  refine wpQuiet_nil ?_
                  intro _ hw'
                  obtain ⟨nq, hw''⟩ := hw'
                  subst hw''
                  go_wp2
                  go_roundw
                  case rel => exact ⟨i + 1, by omega, i_ext2 (by omega), i_ext2 ((HNm.out B b1 ((HMn.out (HRoad.out) (by rw [HEq.out, KFP.out]; exact hq)).trans (by rw [Klt.out])) (.inr hc)).symm), (by repeat (first | exact Drew.refl _ | refine Drew.more ?_))⟩
                  case measure => simp [intOf]; omega
                · skip
                  have D1 := Hb.mk (show decide ((0 : Int) ≤ (B : Int)) = true from decide_eq_true (by omega))
                  have D2 := Hb.mk (show decide (0 ≤ FB) = true from decide_eq_true (hge))
                  have D3 := Hb.mk (show (FB + Lg == FP) = true from beq_iff_eq.2 hq)
                  have D4 := Hb.mk (show decide ((lt : Int) < 0) = false from decide_eq_false (by omega))
                  have D5 := Hb.mk (show decide ((B : Int) < (lt : Int)) = false from decide_eq_false (by omega))
                  go_wp2
                  refine wp_region_quiet_lit (by kernel_rfl) (by kernel_rfl) ?_
                  repeat (first | go_big_quiet_step (fail) | rw [D1.out] | rw [D2.out] | rw [D3.out] | rw [D4.out] | rw [D5.out])
                  refine wpQuiet_nil ?_
                  intro _ hw'
                  obtain ⟨nq, hw''⟩ := hw'
                  subst hw''
                  go_wp2
                  go_roundw
                  case rel => exact ⟨i + 1, by omega, i_ext2 (by omega), i_ext2 (by rw [HNs.out ((HMn.out (HRoad.out) (by rw [HEq.out, KFP.out]; exact hq)).trans (by rw [Klt.out]; omega)), HNe.out, if_pos hn]), (by repeat (first | exact Drew.refl _ | refine Drew.more ?_))⟩
                  case measure => simp [intOf]; omega
              · rw [if_neg hn]
                have D1 := Hb.mk (show decide ((0 : Int) ≤ (B : Int)) = true from decide_eq_true (by omega))
                have D2 := Hb.mk (show decide (0 ≤ FB) = true from decide_eq_true (hge))
                have D3 := Hb.mk (show (FB + Lg == FP) = true from beq_iff_eq.2 hq)
                have D4 := Hb.mk (show decide ((-1 : Int) < 0) = true from decide_eq_true (by omega))
                go_wp2
                refine wp_region_quiet_lit (by kernel_rfl) (by kernel_rfl) ?_
                repeat (first | go_big_quiet_step (fail) | rw [D1.out] | rw [D2.out] | rw [D3.out] | rw [D4.out])
                refine wpQuiet_nil ?_
                intro _ hw'
                obtain ⟨nq, hw''⟩ := hw'
                subst hw''
                go_wp2
                go_roundw
                case rel => exact ⟨i + 1, by omega, i_ext2 (by omega), i_ext2 ((HNm.out B b1 ((HMn.out (HRoad.out) (by rw [HEq.out, KFP.out]; exact hq)).trans (by rw [Klt.out])) (.inl hn)).symm), (by repeat (first | exact Drew.refl _ | refine Drew.more ?_))⟩
                case measure => simp [intOf]; omega
            · skip
              obtain ⟨z, hz⟩ : ∃ z, z = (if lt < W.n then (lt : Int) else -1) := ⟨_, rfl⟩
              rw [← hz] at HNe ⊢
              clear hz
              have D1 := Hb.mk (show decide ((0 : Int) ≤ (B : Int)) = true from decide_eq_true (by omega))
              have D2 := Hb.mk (show decide (0 ≤ FB) = true from decide_eq_true (hge))
              have D3 := Hb.mk (show (FB + Lg == FP) = false from beq_eq_false_iff_ne.2 hq)
              go_wp2
              refine wp_region_quiet_lit (by kernel_rfl) (by kernel_rfl) ?_
              repeat (first | go_big_quiet_step (fail) | rw [D1.out] | rw [D2.out] | rw [D3.out])
              refine wpQuiet_nil ?_
              intro _ hw'
              obtain ⟨nq, hw''⟩ := hw'
              subst hw''
              go_wp2
              go_roundw
              case rel => exact ⟨i + 1, by omega, i_ext2 (by omega), i_ext2 (by rw [HNs.out ((HSt.out (HRoad.out) (by rw [HEq.out, KFP.out]; exact hq)).trans Klt.out), HNe.out]), (by repeat (first | exact Drew.refl _ | refine Drew.more ?_))⟩
              case measure => simp [intOf]; omega
          · have hAi : ((A : Int) == (p : Int)) = false := by rw [beq_eq_false_iff_ne]; omega
            by_cases hB : B = p
            · have hBi : ((B : Int) == (p : Int)) = true := by rw [beq_iff_eq]; omega
              have HRoad : Hf ((W.A i = p ∧ W.B i = A) ∨ (W.A i ≠ p ∧ W.B i = p ∧ W.A i = A)) := ⟨.inr ⟨by rw [KAe.out]; exact hA, by rw [KBe.out]; exact hB, KAe.out⟩⟩
              have HEq : Hf (fF F A + W.lg i = FA + Lg) := ⟨by rw [← KAe.out, KFA.out, KLe.out]⟩
              have hge : 0 ≤ FA := HNB.out hB
              by_cases hq : FA + Lg = FP
              · by_cases hn : lt < W.n
                · rw [if_pos hn]
                  by_cases hc : A < lt
                  · skip
                    have D1 := Hb.mk (show decide ((0 : Int) ≤ (A : Int)) = true from decide_eq_true (by omega))
                    have D2 := Hb.mk (show decide (0 ≤ FA) = true from decide_eq_true (hge))
                    have D3 := Hb.mk (show (FA + Lg == FP) = true from beq_iff_eq.2 hq)
                    have D4 := Hb.mk (show decide ((lt : Int) < 0) = false from decide_eq_false (by omega))
                    have D5 := Hb.mk (show decide ((A : Int) < (lt : Int)) = true from decide_eq_true (by omega))
                    go_wp2
                    refine wp_region_quiet_lit (by kernel_rfl) (by kernel_rfl) ?_
                    repeat (first | go_big_quiet_step (fail) | rw [D1.out] | rw [D2.out] | rw [D3.out] | rw [D4.out] | rw [D5.out])
                    refine wpQuiet_nil ?_
                    intro _ hw'
                    obtain ⟨nq, hw''⟩ := hw'
                    subst hw''
                    go_wp2
                    go_roundw
                    case rel => exact ⟨i + 1, by omega, i_ext2 (by omega), i_ext2 ((HNm.out A a1 ((HMn.out (HRoad.out) (by rw [HEq.out, KFP.out]; exact hq)).trans (by rw [Klt.out])) (.inr hc)).symm), (by repeat (first | exact Drew.refl _ | refine Drew.more ?_))⟩
                    case measure => simp [intOf]; omega
                  · skip
                    have D1 := Hb.mk (show decide ((0 : Int) ≤ (A : Int)) = true from decide_eq_true (by omega))
                    have D2 := Hb.mk (show decide (0 ≤ FA) = true from decide_eq_true (hge))
                    have D3 := Hb.mk (show (FA + Lg == FP) = true from beq_iff_eq.2 hq)
                    have D4 := Hb.mk (show decide ((lt : Int) < 0) = false from decide_eq_false (by omega))
                    have D5 := Hb.mk (show decide ((A : Int) < (lt : Int)) = false from decide_eq_false (by omega))
                    go_wp2
                    refine wp_region_quiet_lit (by kernel_rfl) (by kernel_rfl) ?_
                    repeat (first | go_big_quiet_step (fail) | rw [D1.out] | rw [D2.out] | rw [D3.out] | rw [D4.out] | rw [D5.out])
                    refine wpQuiet_nil ?_
                    intro _ hw'
                    obtain ⟨nq, hw''⟩ := hw'
                    subst hw''
                    go_wp2
                    go_roundw
                    case rel => exact ⟨i + 1, by omega, i_ext2 (by omega), i_ext2 (by rw [HNs.out ((HMn.out (HRoad.out) (by rw [HEq.out, KFP.out]; exact hq)).trans (by rw [Klt.out]; omega)), HNe.out, if_pos hn]), (by repeat (first | exact Drew.refl _ | refine Drew.more ?_))⟩
                    case measure => simp [intOf]; omega
                · rw [if_neg hn]
                  have D1 := Hb.mk (show decide ((0 : Int) ≤ (A : Int)) = true from decide_eq_true (by omega))
                  have D2 := Hb.mk (show decide (0 ≤ FA) = true from decide_eq_true (hge))
                  have D3 := Hb.mk (show (FA + Lg == FP) = true from beq_iff_eq.2 hq)
                  have D4 := Hb.mk (show decide ((-1 : Int) < 0) = true from decide_eq_true (by omega))
                  go_wp2
                  refine wp_region_quiet_lit (by kernel_rfl) (by kernel_rfl) ?_
                  repeat (first | go_big_quiet_step (fail) | rw [D1.out] | rw [D2.out] | rw [D3.out] | rw [D4.out])
                  refine wpQuiet_nil ?_
                  intro _ hw'
                  obtain ⟨nq, hw''⟩ := hw'
                  subst hw''
                  go_wp2
                  go_roundw
                  case rel => exact ⟨i + 1, by omega, i_ext2 (by omega), i_ext2 ((HNm.out A a1 ((HMn.out (HRoad.out) (by rw [HEq.out, KFP.out]; exact hq)).trans (by rw [Klt.out])) (.inl hn)).symm), (by repeat (first | exact Drew.refl _ | refine Drew.more ?_))⟩
                  case measure => simp [intOf]; omega
              · skip
                obtain ⟨z, hz⟩ : ∃ z, z = (if lt < W.n then (lt : Int) else -1) := ⟨_, rfl⟩
                rw [← hz] at HNe ⊢
                clear hz
                have D1 := Hb.mk (show decide ((0 : Int) ≤ (A : Int)) = true from decide_eq_true (by omega))
                have D2 := Hb.mk (show decide (0 ≤ FA) = true from decide_eq_true (hge))
                have D3 := Hb.mk (show (FA + Lg == FP) = false from beq_eq_false_iff_ne.2 hq)
                go_wp2
                refine wp_region_quiet_lit (by kernel_rfl) (by kernel_rfl) ?_
                repeat (first | go_big_quiet_step (fail) | rw [D1.out] | rw [D2.out] | rw [D3.out])
                refine wpQuiet_nil ?_
                intro _ hw'
                obtain ⟨nq, hw''⟩ := hw'
                subst hw''
                go_wp2
                go_roundw
                case rel => exact ⟨i + 1, by omega, i_ext2 (by omega), i_ext2 (by rw [HNs.out ((HSt.out (HRoad.out) (by rw [HEq.out, KFP.out]; exact hq)).trans Klt.out), HNe.out]), (by repeat (first | exact Drew.refl _ | refine Drew.more ?_))⟩
                case measure => simp [intOf]; omega
            · have hBi : ((B : Int) == (p : Int)) = false := by rw [beq_eq_false_iff_ne]; omega
              have D1 := Hb.mk (show decide ((0 : Int) ≤ (-1 : Int)) = false from decide_eq_false (by omega))
              have HZ := Hf.mk (HNs.out ((HNo.out (by rw [KAe.out]; exact hA) (by rw [KBe.out]; exact hB)).trans Klt.out))
              obtain ⟨z, hz⟩ : ∃ z, z = (if lt < W.n then (lt : Int) else -1) := ⟨_, rfl⟩
              rw [← hz] at HNe ⊢
              clear hz
              go_wp2
              refine wp_region_quiet_lit (by kernel_rfl) (by kernel_rfl) ?_
              repeat (first | go_big_quiet_step (fail) | rw [D1.out])
              refine wpQuiet_nil ?_
              intro _ hw'
              obtain ⟨nq, hw''⟩ := hw'
              subst hw''
              go_wp2
              go_roundw
              case rel => exact ⟨i + 1, by omega, i_ext2 (by omega), i_ext2 (by rw [HZ.out, HNe.out]), (by repeat (first | exact Drew.refl _ | refine Drew.more ?_))⟩
              case measure => simp [intOf]; omega
        · obtain rfl : i = W.m := by omega
          rw [HNX.out]
          obtain ⟨X, hX⟩ : ∃ X, X = bk W (fF F) t (j + 1) := ⟨_, rfl⟩
          rw [← hX]
          have HX := Hf.mk hX
          clear hX
          go_wp2_with (at_builtin; refine wpList_append_own _ rfl _ _ 27 rfl w1.heap.size 2 i0 (.int .i64 0) 1 8 Try.underlying27 hi0 hz0 hz1 hz2 rfl (by decide) _ (j + 1) (il (j + 1) (bk W (fF F) t)) rfl (rown_below hown.out (by repeat (first | exact Below.refl _ _ | with_reducible assumption | refine Below.drews ?_ | refine Below.drew ?_ | refine Below.alloc ?_ (by simp <;> omega) _ | refine Below.setCell ?_ (by simp <;> omega) _))) ⟨W1.heap.size, 0, none⟩ 1 1 [.int .i64 X] rfl rfl (rt_one _ _ _) rt_int (by unfold maxLen; omega) (by omega) (by first | omega | (simp <;> omega)) ?_; intro v' w3 o3 hgrow3 _; have B3 := Hf.mk (Below.grown (Below.alloc (Below.drews hbel.out) (by first | omega | (simp <;> omega)) _) hgrow3 (by first | omega | (simp <;> omega)) (fun k h => rt_ge hown.out h)); have O3 := Hf.mk o3; clear o3 hgrow3)
          go_roundw
          case rel => exact ⟨j + 1, by omega, by rw [HX.out], ⟨by have := O3.out; rw [HX.out, il_more] at this; exact this⟩, B3⟩
          case measure => have := HST.out; rw [← HX.out] at this; simp only [intOf, Int.toNat_natCast]; omega
    · obtain rfl : j = K := by omega
      have hps : p = s := by rw [hpe]; exact HP.out.last
      subst hps
      have hne2 : ((p : Int) != (p : Int)) = false := by simp
      obtain ⟨gb, cb, rfl, hb1, hb2⟩ := rt_shf hown.out (by omega)
      have OB : ORow W1 w1.heap.size 2 gb cb (j + 1) (bk W (fF F) t) := hown.out
      have HOB := Hf.mk OB
      have HBW := Hf.mk hbel.out
      clear OB hpe
      go_wp2
      go_loopw [16, 17] (fun v c wr => ∃ (k : Nat), k ≤ j + 1 ∧ c = .int .i64 ((j : Int) - k) ∧ Hf (wr.ownsRow W1.heap.size 2 1 v k (il k (fun l => bk W (fF F) t (j - l)))) ∧ Hf (Below W1.heap.size W1 wr)) (fun _ c _ => (intOf c + 1).toNat)
      case atStart => exact ⟨0, by omega, i_ext2 (by omega), ⟨World.ownsRow_made _ _ _ (Nat.le_refl _) (by decide) rfl⟩, ⟨(by repeat (first | exact Below.refl _ _ | with_reducible assumption | refine Below.drews ?_ | refine Below.drew ?_ | refine Below.alloc ?_ (by simp <;> omega) _ | refine Below.setCell ?_ (by simp <;> omega) _))⟩⟩
      case round =>
        obtain ⟨k, hk, rfl, hown2, hbel2⟩ := hrel
        obtain ⟨W2, hW2⟩ : ∃ W2, W2 = wr := ⟨_, rfl⟩
        subst hW2
        have hsz2 := hbel2.out.size
        by_cases hlt : k ≤ j
        · obtain ⟨r, hr⟩ : ∃ r : Nat, r + k = j := ⟨j - k, by omega⟩
          rw [show (j : Int) - (k : Int) = (r : Int) by omega]
          have dR : W2.cell? ⟨gb, r, none⟩ = some (.int .i64 (bk W (fF F) t r)) := Below.keep hbel2.out (HOB.out.cell (by omega))
          have HRk := Hf.mk (show bk W (fF F) t (j - k) = bk W (fF F) t r by rw [show j - k = r by omega])
          obtain ⟨X, hX⟩ : ∃ X, X = bk W (fF F) t r := ⟨_, rfl⟩
          rw [← hX] at dR HRk
          clear hX
          go_wp2_with (at_builtin; refine wpList_append_own _ rfl _ _ 27 rfl W1.heap.size 2 i0 (.int .i64 0) 1 8 Try.underlying27 hi0 hz0 hz1 hz2 rfl (by decide) _ k (il k (fun l => bk W (fF F) t (j - l))) rfl (rown_below hown2.out ((Below.refl _ _).alloc (Nat.le_refl _) _)) ⟨W2.heap.size, 0, none⟩ 1 1 [.int .i64 X] rfl rfl (rt_one _ _ _) rt_int (by unfold maxLen; omega) (by omega) (by first | omega | (simp <;> omega)) ?_; intro v' w3 o3 hgrow3 _; have B3 := Hf.mk (Below.grown (Below.alloc hbel2.out (by first | omega | (simp <;> omega)) _) hgrow3 (by first | omega | (simp <;> omega)) (fun k h => rt_ge hown2.out h)); have O3 := Hf.mk o3; clear o3 hgrow3)
          go_roundw
          case rel => exact ⟨k + 1, by omega, i_ext2 (by omega), ⟨by have := O3.out; rw [← HRk.out, il_more (f := fun l => bk W (fF F) t (j - l))] at this; exact this⟩, B3⟩
          case measure => simp [intOf]; try omega
        · obtain rfl : k = j + 1 := by omega
          rw [show (j : Int) - ((j + 1 : Nat) : Int) = -1 by omega]
          have hct2 : W2.cell? ⟨g, t, none⟩ = some (.int .i64 (fF F t)) := Below.keep hbel2.out (Below.keep HBW.out hct)
          go_wp2
          go_region
          go_wp2
          go_ret3
          refine ⟨⟨_, rfl, ?_⟩, Below.on (B := w.heap.size) (a := w) B1.out (Below.on HBW.out (by repeat (first | exact hbel2.out | refine Below.drews ?_ | refine Below.drew ?_)) HBW.out.size) B1.out.size⟩
          rw [rte_il, il_len]
          exact rown_lower (rown_below hown2.out (by repeat (first | exact Below.refl _ _ | with_reducible assumption | refine Below.drews ?_ | refine Below.drew ?_ | refine Below.alloc ?_ (by simp <;> omega) _ | refine Below.setCell ?_ (by simp <;> omega) _))) (Nat.le_trans B1.out.size hsz)
end Go.Proofs.Yteclmjknmdlopaa
