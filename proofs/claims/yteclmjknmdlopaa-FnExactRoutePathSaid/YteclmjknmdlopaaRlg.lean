/-
RouteLongs of the program and of its model: the same list. No premise beyond those named.
-/
import Derived.Test.YteclmjknmdlopaaLfr
import Derived.Test.YteclmjknmdlopaaVnt
import Derived.Test.YteclmjknmdlopaaLri
namespace Go.Proofs.Yteclmjknmdlopaa
open Go Go.RowKit
set_option maxRecDepth 100000

theorem net_web {ys : List Nat} {n : Nat} {xs : List Int} {m : Nat} (hx : xs.length = 3 * m) (h : netB ys n xs m = true) : ∃ W : Web, W.n = n ∧ W.m = m ∧ W.ok ∧ W.At xs ∧ (∀ i, i < W.m → W.lg i = raL xs i) ∧ 1 ≤ n ∧ n ≤ 64 ∧ m ≤ 64 := by
  obtain ⟨h1, h2, h3⟩ := net_all h
  have hn : 1 ≤ n ∧ n ≤ 64 := by
    unfold arePl at h1
    rw [Bool.and_eq_true] at h1
    exact of_decide_eq_true h1.1
  have hr : ∀ i, i < m → 0 ≤ raA xs i ∧ raA xs i ≤ (n : Int) - 1 ∧ 0 ≤ raB xs i ∧ raB xs i ≤ (n : Int) - 1 ∧ raA xs i ≠ raB xs i ∧ 1 ≤ raL xs i ∧ raL xs i ≤ 1000000 := fun i hi => road_all (allRd_at h3 i hi)
  refine ⟨⟨n, m, fun i => (raA xs i).toNat, fun i => (raB xs i).toNat, fun i => raL xs i⟩, rfl, rfl, ⟨hn.2, ?_, ?_, ?_, ?_⟩, ⟨hx, ?_, ?_⟩, fun _ _ => rfl, hn.1, hn.2, h2⟩
  · intro i hi; have := hr i hi; show (raA xs i).toNat < n; omega
  · intro i hi; have := hr i hi; show (raB xs i).toNat < n; omega
  · intro i hi; have := hr i hi; show (raA xs i).toNat ≠ (raB xs i).toNat; omega
  · intro i hi; have := hr i hi; show 1 ≤ raL xs i ∧ raL xs i ≤ 1000000; omega
  · intro i hi; have := hr i hi; show raA xs i = ((raA xs i).toNat : Int); omega
  · intro i hi; have := hr i hi; show raB xs i = ((raB xs i).toNat : Int); omega
theorem lgs_ex {W : Web} (ho : W.ok) (s : Nat) : ∃ F : List Int, F.length = W.n ∧ ∀ f, W.Longs s f → il W.n f = ils F := by
  by_cases h : ∃ f, W.Longs s f
  · obtain ⟨f, hf⟩ := h
    refine ⟨(List.range W.n).map f, by simp, fun g hg => ?_⟩
    rw [il_congr (fun j hj => W.unique ho hg hf hj)]
    simp [il, ils]
  · exact ⟨List.replicate W.n 0, by simp, fun f hf => absurd ⟨f, hf⟩ h⟩
def RFr (n : Nat) (i : Int) (ok : Bool) : Bool := ok && inB n i
set_option maxHeartbeats 1000000 in
theorem l07From_any {p g1 g2 n m : Nat} {ys : List Nat} {xs : List Int} {i : Int} (K : NK n m ys xs) (w : World) (c0 : w.cell? ⟨p, 0, none⟩ = some (.slice (some ⟨g1, 0, none⟩) n n)) (c1 : w.cell? ⟨p, 1, none⟩ = some (.slice (some ⟨g2, 0, none⟩) m m)) (h : NR w g1 g2 n m ys xs) : Calls Try.prog 41 #[.pointer (some ⟨p, 0, none⟩), .int .i64 i] w (RT (.bool (RFr n i (netB ys n xs m))) w) := by
  have hl := K.kl
  have HN := Hf.mk (fun w c0 c1 hr hq => l07Net_any (p := p) (g1 := g1) (g2 := g2) w c0 c1 hr K.kw K.kn K.kl hq K.km K.kk)
  generalize netB ys n xs m = b at *
  have HR := Hf.mk h
  clear h K
  cases b
  · go_enter Try.func41, Try.ntmps41
    go_wp2_with (first | (go_at_call 58; refine (HN.out _ c0 c1 HR.out.p HR.out.q).mono ?_; rintro e w' ⟨rfl, n1, rfl⟩) | go_in)
    go_ret
    exact ⟨rfl, (by repeat (first | exact Drew.refl _ | refine Drew.more ?_))⟩
  · by_cases h0 : 0 ≤ i
    · by_cases h1 : i < n
      · rw [show RFr n i true = true by unfold RFr inB; simp [h0, h1]]
        have h2 : i ≤ (n : Int) - 1 := by omega
        go_enter Try.func41, Try.ntmps41
        go_wp2_with (first | (go_at_call 58; refine (HN.out _ c0 c1 HR.out.p HR.out.q).mono ?_; rintro e w' ⟨rfl, n1, rfl⟩) | go_in)
        go_ret
        exact ⟨rfl, (by repeat (first | exact Drew.refl _ | refine Drew.more ?_))⟩
      · rw [show RFr n i true = false by unfold RFr inB; simp [h1]]
        have h2 : ¬ i ≤ (n : Int) - 1 := by omega
        go_enter Try.func41, Try.ntmps41
        go_wp2_with (first | (go_at_call 58; refine (HN.out _ c0 c1 HR.out.p HR.out.q).mono ?_; rintro e w' ⟨rfl, n1, rfl⟩) | go_in)
        go_ret
        exact ⟨ret_b (decide_eq_false (by omega)), (by repeat (first | exact Drew.refl _ | refine Drew.more ?_))⟩
    · rw [show RFr n i true = false by unfold RFr inB; simp [h0]]
      go_enter Try.func41, Try.ntmps41
      go_wp2_with (first | (go_at_call 58; refine (HN.out _ c0 c1 HR.out.p HR.out.q).mono ?_; rintro e w' ⟨rfl, n1, rfl⟩) | go_in)
      go_ret
      exact ⟨rfl, (by repeat (first | exact Drew.refl _ | refine Drew.more ?_))⟩
set_option maxHeartbeats 1000000 in
theorem sRl_no {g1 g2 n m : Nat} {ys : List Nat} {xs : List Int} {i : Int} (K : NK n m ys xs) (w : World) (h : NR w g1 g2 n m ys xs) (hb : RFr n i (netB ys n xs m) = false) : Calls Try.prog 10 #[nv g1 n g2 m, .int .i64 i] w (RLy 2 false (ils []) w) := by
  have HN := Hf.mk (fun p w c0 c1 hr => l07From_any (p := p) (g1 := g1) (g2 := g2) (i := i) K w c0 c1 hr)
  rw [hb] at HN
  have HR := Hf.mk h
  clear h K hb
  go_enter Try.func10, Try.ntmps10
  go_wp2_with (first | (go_at_call 41; refine (HN.out _ _ (by simp [go_sem]) (by simp [go_sem]) (HR.out.below (by repeat (first | exact Below.refl _ _ | with_reducible assumption | refine Below.drews ?_ | refine Below.drew ?_ | refine Below.alloc ?_ (by simp <;> omega) _ | refine Below.setCell ?_ (by simp <;> omega) _)))).mono ?_; rintro e w' ⟨rfl, n1, rfl⟩))
  go_ret2
  exact RLy.nil (by repeat (first | exact Below.refl _ _ | with_reducible assumption | refine Below.drews ?_ | refine Below.drew ?_ | refine Below.alloc ?_ (by simp <;> omega) _ | refine Below.setCell ?_ (by simp <;> omega) _))
set_option maxHeartbeats 1000000 in
theorem sRl_yes {W : Web} {g1 g2 s : Nat} {ys : List Nat} {xs F : List Int} (K : NK W.n W.m ys xs) (w : World) (h : NR w g1 g2 W.n W.m ys xs) (hb : RFr W.n s (netB ys W.n xs W.m) = true) (ho : W.ok) (hat : W.At xs) (hlg : ∀ i, i < W.m → W.lg i = raL xs i) (hm : W.m ≤ 64) (hs : s < W.n) (hF2 : ∀ f, W.Longs s f → il W.n f = ils F) : Calls Try.prog 10 #[nv g1 W.n g2 W.m, .int .i64 (s : Int)] w (RLy 2 true (ils F) w) := by
  have HN := Hf.mk (fun p w c0 c1 hr => l07From_any (p := p) (g1 := g1) (g2 := g2) (i := (s : Int)) K w c0 c1 hr)
  rw [hb] at HN
  have HL := Hf.mk (fun p w c0 c1 hr => l07Longs_any (p := p) (a := some ⟨g1, 0, none⟩) (b := some ⟨g2, 0, none⟩) (k := W.n) (l := W.m) w ho hat hlg hm hs c0 c1 hr)
  have HR := Hf.mk h
  have HF := Hf.mk hF2
  clear h K hb ho hat hlg hF2
  go_enter Try.func10, Try.ntmps10
  go_wp2_with (first | (go_at_call 41; refine (HN.out _ _ (by simp [go_sem]) (by simp [go_sem]) (HR.out.below (by repeat (first | exact Below.refl _ _ | with_reducible assumption | refine Below.drews ?_ | refine Below.drew ?_ | refine Below.alloc ?_ (by simp <;> omega) _ | refine Below.setCell ?_ (by simp <;> omega) _)))).mono ?_; rintro e w' ⟨rfl, n1, rfl⟩) | (go_at_call 42; refine (HL.out _ _ (by simp [go_sem]) (by simp [go_sem]) (HR.out.below (by repeat (first | exact Below.refl _ _ | with_reducible assumption | refine Below.drews ?_ | refine Below.drew ?_ | refine Below.alloc ?_ (by simp <;> omega) _ | refine Below.setCell ?_ (by simp <;> omega) _))).q).mono ?_; rintro e w2 ⟨g, cap, f, rfl, o2, l2, b2⟩; have O2 := Hf.mk o2; have L2 := Hf.mk l2; have B2 := Hf.mk b2; clear o2 l2 b2))
  go_ret2
  refine ⟨⟨_, rfl, ?_⟩, ?_⟩
  · rw [← HF.out f L2.out, il_len]
    exact rown_lower O2.out (by simp)
  · exact Below.on (B := w.heap.size) (a := w) (by repeat (first | exact Below.refl _ _ | with_reducible assumption | refine Below.drews ?_ | refine Below.drew ?_ | refine Below.alloc ?_ (by simp <;> omega) _ | refine Below.setCell ?_ (by simp <;> omega) _)) B2.out (by simp)
set_option maxHeartbeats 1000000 in
theorem iRl_no {g1 g2 n m : Nat} {ys : List Nat} {xs : List Int} {i : Int} (K : NK n m ys xs) (w : World) (h : NR w g1 g2 n m ys xs) (hb : RFr n i (netB ys n xs m) = false) : Calls Try.prog 12 #[nv g1 n g2 m, .int .i64 i] w (RLy 2 false (ils []) w) := by
  have HN := Hf.mk (fun w hr => iValidNet_any (g1 := g1) (g2 := g2) K w hr)
  have HH := Hf.mk (fun w => has_any (n := n) (k := n) (m := m) (l := m) (a := some ⟨g1, 0, none⟩) (b := some ⟨g2, 0, none⟩) (i := i) w)
  have HR := Hf.mk h
  have B0 := Hb.mk (Below.refl w.heap.size w)
  unfold RFr at hb
  clear h K
  generalize netB ys n xs m = b at *
  generalize inB n i = c at *
  cases b
  · clear hb HH
    go_enter Try.func12, Try.ntmps12
    go_wp2_with (first | (go_at_call 43; refine (HN.out _ (HR.out.below (by repeat (first | exact Below.refl _ _ | with_reducible assumption | refine Below.drews ?_ | refine Below.drew ?_ | refine Below.alloc ?_ (by simp <;> omega) _ | refine Below.setCell ?_ (by simp <;> omega) _)))).mono ?_; rintro e w1 ⟨rfl, b1⟩; have B1 := Hb.mk (Below.on (B := w.heap.size) (a := w) (by repeat (first | exact B0.out | refine Below.drews ?_ | refine Below.drew ?_ | refine Below.alloc ?_ (by have hq_ := B0.out.size; first | omega | (simp <;> omega)) _ | refine Below.setCell ?_ (by have hq_ := B0.out.size; first | omega | (simp <;> omega)) _)) b1 (by have hq_ := B0.out.size; first | omega | (simp <;> omega))); have p0 := Hb.mk (At.keep b1 (p := ⟨(w.heap.size), 0, none⟩) (v := .slice (some ⟨g1, 0, none⟩) n n) (by simp [go_sem]) (by simp [go_sem])); obtain ⟨p0c, p0z, p0l⟩ := p0.out; have p1 := Hb.mk (At.keep b1 (p := ⟨(w.heap.size), 1, none⟩) (v := .slice (some ⟨g2, 0, none⟩) m m) (by simp [go_sem]) (by simp [go_sem])); obtain ⟨p1c, p1z, p1l⟩ := p1.out; clear b1))
    go_ret2
    exact RLy.nil (by repeat (first | exact B1.out | refine Below.drews ?_ | refine Below.drew ?_ | refine Below.alloc ?_ (by have hq_ := B1.out.size; first | omega | (simp <;> omega)) _ | refine Below.setCell ?_ (by have hq_ := B1.out.size; first | omega | (simp <;> omega)) _))
  · obtain rfl : c = false := by simpa using hb
    clear hb
    go_enter Try.func12, Try.ntmps12
    go_wp2_with (first | (go_at_call 43; refine (HN.out _ (HR.out.below (by repeat (first | exact Below.refl _ _ | with_reducible assumption | refine Below.drews ?_ | refine Below.drew ?_ | refine Below.alloc ?_ (by simp <;> omega) _ | refine Below.setCell ?_ (by simp <;> omega) _)))).mono ?_; rintro e w1 ⟨rfl, b1⟩; have B1 := Hb.mk (Below.on (B := w.heap.size) (a := w) (by repeat (first | exact B0.out | refine Below.drews ?_ | refine Below.drew ?_ | refine Below.alloc ?_ (by have hq_ := B0.out.size; first | omega | (simp <;> omega)) _ | refine Below.setCell ?_ (by have hq_ := B0.out.size; first | omega | (simp <;> omega)) _)) b1 (by have hq_ := B0.out.size; first | omega | (simp <;> omega))); have p0 := Hb.mk (At.keep b1 (p := ⟨(w.heap.size), 0, none⟩) (v := .slice (some ⟨g1, 0, none⟩) n n) (by simp [go_sem]) (by simp [go_sem])); obtain ⟨p0c, p0z, p0l⟩ := p0.out; have p1 := Hb.mk (At.keep b1 (p := ⟨(w.heap.size), 1, none⟩) (v := .slice (some ⟨g2, 0, none⟩) m m) (by simp [go_sem]) (by simp [go_sem])); obtain ⟨p1c, p1z, p1l⟩ := p1.out; clear b1) | (go_at_call 44; refine (HH.out _).mono ?_; rintro e w2 ⟨rfl, b2⟩; have B2 := Hb.mk (Below.on (B := w.heap.size) (a := w) (by repeat (first | exact B1.out | refine Below.drews ?_ | refine Below.drew ?_ | refine Below.alloc ?_ (by have hq_ := B1.out.size; first | omega | (simp <;> omega)) _ | refine Below.setCell ?_ (by have hq_ := B1.out.size; first | omega | (simp <;> omega)) _)) b2 (by have hq_ := B1.out.size; first | omega | (simp <;> omega))); clear b2))
    go_ret2
    exact RLy.nil (by repeat (first | exact B2.out | refine Below.drews ?_ | refine Below.drew ?_ | refine Below.alloc ?_ (by have hq_ := B2.out.size; first | omega | (simp <;> omega)) _ | refine Below.setCell ?_ (by have hq_ := B2.out.size; first | omega | (simp <;> omega)) _))
set_option maxHeartbeats 1000000 in
theorem iRl_yes {W : Web} {g1 g2 s : Nat} {ys : List Nat} {xs F : List Int} (K : NK W.n W.m ys xs) (w : World) (h : NR w g1 g2 W.n W.m ys xs) (hb : RFr W.n s (netB ys W.n xs W.m) = true) (ho : W.ok) (hat : W.At xs) (hlg : ∀ i, i < W.m → W.lg i = raL xs i) (hm : W.m ≤ 64) (hs : s < W.n) (hF2 : ∀ f, W.Longs s f → il W.n f = ils F) : Calls Try.prog 12 #[nv g1 W.n g2 W.m, .int .i64 (s : Int)] w (RLy 2 true (ils F) w) := by
  have HN := Hf.mk (fun w hr => iValidNet_any (g1 := g1) (g2 := g2) K w hr)
  have HH := Hf.mk (fun w => has_any (n := W.n) (k := W.n) (m := W.m) (l := W.m) (a := some ⟨g1, 0, none⟩) (b := some ⟨g2, 0, none⟩) (i := (s : Int)) w)
  unfold RFr at hb
  rw [Bool.and_eq_true] at hb
  rw [hb.1] at HN
  rw [hb.2] at HH
  have HL := Hf.mk (fun w hr => longsFrom_any (g0 := g1) (g2 := g2) w ho hat hlg hm hs hr)
  have HR := Hf.mk h
  have HF := Hf.mk hF2
  have B0 := Hb.mk (Below.refl w.heap.size w)
  clear h K hb ho hat hlg hF2
  go_enter Try.func12, Try.ntmps12
  go_wp2_with (first | (go_at_call 43; refine (HN.out _ (HR.out.below (by repeat (first | exact Below.refl _ _ | with_reducible assumption | refine Below.drews ?_ | refine Below.drew ?_ | refine Below.alloc ?_ (by simp <;> omega) _ | refine Below.setCell ?_ (by simp <;> omega) _)))).mono ?_; rintro e w1 ⟨rfl, b1⟩; have B1 := Hb.mk (Below.on (B := w.heap.size) (a := w) (by repeat (first | exact B0.out | refine Below.drews ?_ | refine Below.drew ?_ | refine Below.alloc ?_ (by have hq_ := B0.out.size; first | omega | (simp <;> omega)) _ | refine Below.setCell ?_ (by have hq_ := B0.out.size; first | omega | (simp <;> omega)) _)) b1 (by have hq_ := B0.out.size; first | omega | (simp <;> omega))); have p0 := Hb.mk (At.keep b1 (p := ⟨(w.heap.size), 0, none⟩) (v := .slice (some ⟨g1, 0, none⟩) W.n W.n) (by simp [go_sem]) (by simp [go_sem])); obtain ⟨p0c, p0z, p0l⟩ := p0.out; have p1 := Hb.mk (At.keep b1 (p := ⟨(w.heap.size), 1, none⟩) (v := .slice (some ⟨g2, 0, none⟩) W.m W.m) (by simp [go_sem]) (by simp [go_sem])); obtain ⟨p1c, p1z, p1l⟩ := p1.out; clear b1) | (go_at_call 44; refine (HH.out _).mono ?_; rintro e w2 ⟨rfl, b2⟩; have B2 := Hb.mk (Below.on (B := w.heap.size) (a := w) (by repeat (first | exact B1.out | refine Below.drews ?_ | refine Below.drew ?_ | refine Below.alloc ?_ (by have hq_ := B1.out.size; first | omega | (simp <;> omega)) _ | refine Below.setCell ?_ (by have hq_ := B1.out.size; first | omega | (simp <;> omega)) _)) b2 (by have hq_ := B1.out.size; first | omega | (simp <;> omega))); have p0 := Hb.mk (At.re p0.out b2 (by first | exact p0c | simp [go_sem, p0c, p0l]) (by first | exact p0z | simp [go_sem, p0z, p0l])); obtain ⟨p0c, p0z, p0l⟩ := p0.out; have p1 := Hb.mk (At.re p1.out b2 (by first | exact p1c | simp [go_sem, p1c, p1l]) (by first | exact p1z | simp [go_sem, p1z, p1l])); obtain ⟨p1c, p1z, p1l⟩ := p1.out; clear b2) | (go_at_call 45; refine (HL.out _ (HR.out.below (by repeat (first | exact B2.out | refine Below.drews ?_ | refine Below.drew ?_ | refine Below.alloc ?_ (by have hq_ := B2.out.size; first | omega | (simp <;> omega)) _ | refine Below.setCell ?_ (by have hq_ := B2.out.size; first | omega | (simp <;> omega)) _))).q).mono ?_; rintro e w3 ⟨g, f, rfl, o3, l3, b3⟩; have O3 := Hf.mk o3; have L3 := Hf.mk l3; have B3 := Hb.mk (Below.on (B := w.heap.size) (a := w) (by repeat (first | exact B2.out | refine Below.drews ?_ | refine Below.drew ?_ | refine Below.alloc ?_ (by have hq_ := B2.out.size; first | omega | (simp <;> omega)) _ | refine Below.setCell ?_ (by have hq_ := B2.out.size; first | omega | (simp <;> omega)) _)) b3 (by have hq_ := B2.out.size; first | omega | (simp <;> omega))); clear o3 l3 b3))
  go_ret2
  refine ⟨⟨_, rfl, ?_⟩, ?_⟩
  · rw [← HF.out f L3.out, il_len]
    exact rown_lower O3.out (by have := B2.out.size; first | omega | (simp <;> omega))
  · exact (by repeat (first | with_reducible refine Below.setCell ?_ (by first | omega | (simp <;> omega)) _ | with_reducible refine Below.drews ?_ | with_reducible refine Below.drew ?_ | with_reducible refine Below.alloc ?_ (by first | omega | (simp <;> omega)) _ | with_reducible exact B3.out | with_reducible exact Below.refl _ _))
end Go.Proofs.Yteclmjknmdlopaa
