/-
ReachOf of the program and of its model: the same list. No premise beyond those named.
-/
import Derived.Test.YteclmjknmdlopaaRlg
namespace Go.Proofs.Yteclmjknmdlopaa
open Go Go.RowKit
set_option maxRecDepth 100000

def rch (F : List Int) (mo : Int) : Nat → List Int
  | 0 => []
  | k + 1 => if 0 ≤ F.getD k 0 ∧ F.getD k 0 ≤ mo then rch F mo k ++ [(k : Int)] else rch F mo k
theorem rch_len (F : List Int) (mo : Int) : ∀ k, (rch F mo k).length ≤ k := by
  intro k
  induction k with
  | zero => simp [rch]
  | succ k ih => unfold rch; split <;> first | omega | (simp; omega)
theorem ils_app1 {xs : List Int} {k : Int} : ils xs ++ [.int .i64 k] = ils (xs ++ [k]) := by simp [ils]
theorem ils_len1 (xs : List Int) : (ils xs).length = xs.length := by simp [ils]
theorem rch_yes {F : List Int} {mo : Int} {k : Nat} (h0 : 0 ≤ F.getD k 0) (h1 : F.getD k 0 ≤ mo) : rch F mo (k + 1) = rch F mo k ++ [(k : Int)] := by rw [rch, if_pos ⟨h0, h1⟩]
theorem rch_no {F : List Int} {mo : Int} {k : Nat} (h : ¬ (0 ≤ F.getD k 0 ∧ F.getD k 0 ≤ mo)) : rch F mo (k + 1) = rch F mo k := by rw [rch, if_neg h]
def RRc (n : Nat) (i mo : Int) (ok : Bool) : Bool := RFr n i ok && decide (0 ≤ mo ∧ mo ≤ 1000000000)
theorem IRow.one {w : World} {a : Option Addr} {F : List Int} (h : IRow w a F) {k : Nat} (hk : k < F.length) : ∃ p, a = some p ∧ w.cell? (p.add k) = some (.int .i64 (F.getD k 0)) := h k hk
theorem IRow.oneAt {w : World} {g : Nat} {F : List Int} (h : IRow w (some ⟨g, 0, none⟩) F) {k : Nat} (hk : k < F.length) : w.cell? ⟨g, k, none⟩ = some (.int .i64 (F.getD k 0)) := by
  obtain ⟨p, hp, hc⟩ := h k hk
  cases hp
  rw [add_at] at hc
  exact hc
theorem ORow.irow {w : World} {base : Nat} {T : TypeId} {g cap n : Nat} {f : Nat → Int} {F : List Int} (h : ORow w base T g cap n f) (e : il n f = ils F) (hl : F.length = n) : IRow w (some ⟨g, 0, none⟩) F := by
  unfold ORow at h
  rw [e] at h
  exact irow_own (k := 1) (by rw [Nat.one_mul]; exact hl.symm) h
set_option maxHeartbeats 1000000 in
theorem sRc_no {g1 g2 n m : Nat} {ys : List Nat} {xs : List Int} {i mo : Int} (K : NK n m ys xs) (w : World) (h : NR w g1 g2 n m ys xs) (hb : RRc n i mo (netB ys n xs m) = false) : Calls Try.prog 20 #[nv g1 n g2 m, .int .i64 i, .int .i64 mo] w (RLy 2 false (ils []) w) := by
  have HN := Hf.mk (fun p w c0 c1 hr => l07From_any (p := p) (g1 := g1) (g2 := g2) (i := i) K w c0 c1 hr)
  unfold RRc at hb
  generalize RFr n i (netB ys n xs m) = c at *
  have HR := Hf.mk h
  clear h K
  cases c
  · go_enter Try.func20, Try.ntmps20
    go_wp2_with (first | (go_at_call 41; refine (HN.out _ _ (by simp [go_sem]) (by simp [go_sem]) (HR.out.below (by repeat (first | exact Below.refl _ _ | with_reducible assumption | refine Below.drews ?_ | refine Below.drew ?_ | refine Below.alloc ?_ (by simp <;> omega) _ | refine Below.setCell ?_ (by simp <;> omega) _)))).mono ?_; rintro e w' ⟨rfl, n1, rfl⟩) | go_in)
    go_ret2
    exact RLy.nil (by repeat (first | exact Below.refl _ _ | with_reducible assumption | refine Below.drews ?_ | refine Below.drew ?_ | refine Below.alloc ?_ (by simp <;> omega) _ | refine Below.setCell ?_ (by simp <;> omega) _))
  · have hm : ¬ (0 ≤ mo ∧ mo ≤ 1000000000) := by simpa using hb
    clear hb
    by_cases h0 : 0 ≤ mo
    · have h1 : ¬ mo ≤ 1000000000 := fun h => hm ⟨h0, h⟩
      have hd : decide (mo ≤ 1000000000) = false := decide_eq_false h1
      clear hm h1
      go_enter Try.func20, Try.ntmps20
      go_wp2_with (first | (go_at_call 41; refine (HN.out _ _ (by simp [go_sem]) (by simp [go_sem]) (HR.out.below (by repeat (first | exact Below.refl _ _ | with_reducible assumption | refine Below.drews ?_ | refine Below.drew ?_ | refine Below.alloc ?_ (by simp <;> omega) _ | refine Below.setCell ?_ (by simp <;> omega) _)))).mono ?_; rintro e w' ⟨rfl, n1, rfl⟩) | go_in)
      go_ret2
      exact RLy.nil (by repeat (first | exact Below.refl _ _ | with_reducible assumption | refine Below.drews ?_ | refine Below.drew ?_ | refine Below.alloc ?_ (by simp <;> omega) _ | refine Below.setCell ?_ (by simp <;> omega) _))
    · clear hm
      go_enter Try.func20, Try.ntmps20
      go_wp2_with (first | (go_at_call 41; refine (HN.out _ _ (by simp [go_sem]) (by simp [go_sem]) (HR.out.below (by repeat (first | exact Below.refl _ _ | with_reducible assumption | refine Below.drews ?_ | refine Below.drew ?_ | refine Below.alloc ?_ (by simp <;> omega) _ | refine Below.setCell ?_ (by simp <;> omega) _)))).mono ?_; rintro e w' ⟨rfl, n1, rfl⟩) | go_in)
      go_ret2
      exact RLy.nil (by repeat (first | exact Below.refl _ _ | with_reducible assumption | refine Below.drews ?_ | refine Below.drew ?_ | refine Below.alloc ?_ (by simp <;> omega) _ | refine Below.setCell ?_ (by simp <;> omega) _))
set_option maxHeartbeats 2000000 in
theorem sRc_yes {W : Web} {g1 g2 s : Nat} {ys : List Nat} {xs F : List Int} {mo : Int} (K : NK W.n W.m ys xs) (w : World) (h : NR w g1 g2 W.n W.m ys xs) (hb : RFr W.n s (netB ys W.n xs W.m) = true) (ho : W.ok) (hat : W.At xs) (hlg : ∀ i, i < W.m → W.lg i = raL xs i) (hm : W.m ≤ 64) (hs : s < W.n) (hm0 : 0 ≤ mo) (hm1 : mo ≤ 1000000000) (hF : F.length = W.n) (hF2 : ∀ f, W.Longs s f → il W.n f = ils F) : Calls Try.prog 20 #[nv g1 W.n g2 W.m, .int .i64 (s : Int), .int .i64 mo] w (RLy 2 true (ils (rch F mo F.length)) w) := by
  obtain ⟨i0, hi0, hz0, hz1, hz2⟩ := info_parts (P := Try.prog) (e := 2) (z := .int .i64 0) (size := 1) (bytes := 8) (by kernel_rfl)
  have HN := Hf.mk (fun p w c0 c1 hr => l07From_any (p := p) (g1 := g1) (g2 := g2) (i := (s : Int)) K w c0 c1 hr)
  rw [hb] at HN
  have HL := Hf.mk (fun p w c0 c1 hr => l07Longs_any (p := p) (a := some ⟨g1, 0, none⟩) (b := some ⟨g2, 0, none⟩) (k := W.n) (l := W.m) w ho hat hlg hm hs c0 c1 hr)
  have HR := Hf.mk h
  have HF := Hf.mk hF2
  have HFl := Hf.mk hF
  have hn64 : F.length ≤ 64 := by have := ho.n64; omega
  have B0 := Hb.mk (Below.refl w.heap.size w)
  clear h K hb ho hat hlg hF2 hF
  go_enter Try.func20, Try.ntmps20
  go_wp2_with (first | (go_at_call 41; refine (HN.out _ _ (by simp [go_sem]) (by simp [go_sem]) (HR.out.below (by repeat (first | exact Below.refl _ _ | with_reducible assumption | refine Below.drews ?_ | refine Below.drew ?_ | refine Below.alloc ?_ (by simp <;> omega) _ | refine Below.setCell ?_ (by simp <;> omega) _)))).mono ?_; rintro e w' ⟨rfl, n1, rfl⟩) | (go_at_call 42; refine (HL.out _ _ (by simp [go_sem]) (by simp [go_sem]) (HR.out.below (by repeat (first | exact Below.refl _ _ | with_reducible assumption | refine Below.drews ?_ | refine Below.drew ?_ | refine Below.alloc ?_ (by simp <;> omega) _ | refine Below.setCell ?_ (by simp <;> omega) _))).q).mono ?_; rintro e w1 ⟨g, cap, f, rfl, o2, l2, b2⟩; have R1 := Hf.mk (ORow.irow o2 (HF.out f l2) HFl.out); have B1 := Hb.mk (Below.on (B := w.heap.size) (a := w) (by repeat (first | exact B0.out | refine Below.drews ?_ | refine Below.drew ?_ | refine Below.alloc ?_ (by have hq_ := B0.out.size; first | omega | (simp <;> omega)) _ | refine Below.setCell ?_ (by have hq_ := B0.out.size; first | omega | (simp <;> omega)) _)) b2 (by have hq_ := B0.out.size; first | omega | (simp <;> omega))); clear o2 l2 b2) | go_in)
  rw [← HFl.out]
  go_loopw [9, 24] (fun v c wr => ∃ (j : Nat), j ≤ F.length ∧ c = .int .i64 j ∧ Hf (wr.ownsRow w1.heap.size 2 1 v (rch F mo j).length (ils (rch F mo j))) ∧ Hf (Below w1.heap.size w1 wr)) (fun _ c _ => F.length - (intOf c).toNat)
  case atStart => exact ⟨0, by omega, rfl, ⟨World.ownsRow_made _ _ _ (Nat.le_refl _) (by decide) rfl⟩, ⟨(by repeat (first | exact Below.refl _ _ | with_reducible assumption | refine Below.drews ?_ | refine Below.drew ?_ | refine Below.alloc ?_ (by simp <;> omega) _ | refine Below.setCell ?_ (by simp <;> omega) _))⟩⟩
  case round =>
    obtain ⟨j, hj, rfl, hown, hbel⟩ := hrel
    obtain ⟨W1, hW1⟩ : ∃ W1, W1 = wr := ⟨_, rfl⟩
    subst hW1
    have hsz := hbel.out.size
    by_cases hlt : j < F.length
    · have hc := (R1.out.below hbel.out).oneAt hlt
      have hL := rch_len F mo j
      by_cases hF0 : 0 ≤ F.getD j 0 ∧ F.getD j 0 ≤ mo
      · obtain ⟨hf0, hf1⟩ := hF0
        have HY := Hf.mk (rch_yes hf0 hf1)
        generalize F.getD j 0 = X at *
        go_wp2_with (at_builtin; refine wpList_append_own _ rfl _ _ 27 rfl w1.heap.size 2 i0 (.int .i64 0) 1 8 Try.underlying27 hi0 hz0 hz1 hz2 rfl (by decide) _ _ (ils (rch F mo j)) rfl (rown_below hown.out ((Below.refl _ _).alloc (Nat.le_refl _) _)) ⟨W1.heap.size, 0, none⟩ 1 1 [.int .i64 (j : Int)] rfl rfl (rt_one _ _ _) rt_int (by unfold maxLen; omega) (by omega) (by first | omega | (simp <;> omega)) ?_; intro v' w3 o3 hgrow3 _; have B3 := Hf.mk (Below.grown (Below.alloc hbel.out (by first | omega | (simp <;> omega)) _) hgrow3 (by first | omega | (simp <;> omega)) (fun k h => rt_ge hown.out h)); have O3 := Hf.mk o3; clear o3 hgrow3)
        go_roundw
        case rel => exact ⟨j + 1, by omega, i_ext2 (by omega), ⟨by have := O3.out; rw [ils_app1] at this; rw [HY.out, List.length_append]; exact this⟩, B3⟩
        case measure => simp [intOf]; omega
      · have HY := Hf.mk (rch_no hF0)
        generalize F.getD j 0 = X at *
        by_cases hf0 : 0 ≤ X
        · have hf1 : ¬ X ≤ mo := fun h => hF0 ⟨hf0, h⟩
          clear hF0
          go_wp2
          go_roundw
          case rel => exact ⟨j + 1, by omega, i_ext2 (by omega), ⟨by rw [HY.out]; exact rown_below hown.out (by repeat (first | exact Below.refl _ _ | with_reducible assumption | refine Below.drews ?_ | refine Below.drew ?_ | refine Below.alloc ?_ (by simp <;> omega) _ | refine Below.setCell ?_ (by simp <;> omega) _))⟩, ⟨by first | exact hbel.out | exact Below.drews hbel.out⟩⟩
          case measure => simp [intOf]; omega
        · clear hF0
          go_wp2
          go_roundw
          case rel => exact ⟨j + 1, by omega, i_ext2 (by omega), ⟨by rw [HY.out]; exact rown_below hown.out (by repeat (first | exact Below.refl _ _ | with_reducible assumption | refine Below.drews ?_ | refine Below.drew ?_ | refine Below.alloc ?_ (by simp <;> omega) _ | refine Below.setCell ?_ (by simp <;> omega) _))⟩, ⟨by first | exact hbel.out | exact Below.drews hbel.out⟩⟩
          case measure => simp [intOf]; omega
    · obtain rfl : j = F.length := by omega
      go_wp2
      go_ret2
      refine ⟨⟨_, rfl, ?_⟩, Below.on (B := w.heap.size) (a := w) B1.out hbel.out B1.out.size⟩
      rw [ils_len1]
      exact rown_lower hown.out B1.out.size
set_option maxHeartbeats 1000000 in
theorem iRc_no {g1 g2 n m : Nat} {ys : List Nat} {xs F : List Int} {i mo : Int} {c : Bool} (w : World) (h : NR w g1 g2 n m ys xs) (hi : ∀ W, NR W g1 g2 n m ys xs → Calls Try.prog 12 #[nv g1 n g2 m, .int .i64 i] W (RLy 2 c (ils F) W)) (hb : (c && decide (0 ≤ mo ∧ mo ≤ 1000000000)) = false) : Calls Try.prog 21 #[nv g1 n g2 m, .int .i64 i, .int .i64 mo] w (RLy 2 false (ils []) w) := by
  have HN := Hf.mk hi
  have HR := Hf.mk h
  have B0 := Hb.mk (Below.refl w.heap.size w)
  clear h hi
  cases c
  · go_enter Try.func21, Try.ntmps21
    go_wp2_with (first | (go_at_call 12; refine (HN.out _ (HR.out.below (by repeat (first | exact Below.refl _ _ | with_reducible assumption | refine Below.drews ?_ | refine Below.drew ?_ | refine Below.alloc ?_ (by simp <;> omega) _ | refine Below.setCell ?_ (by simp <;> omega) _)))).mono ?_; rintro e w1 ⟨⟨v1, rfl, o1⟩, b1⟩; have B1 := Hb.mk (Below.on (B := w.heap.size) (a := w) (by repeat (first | exact B0.out | refine Below.drews ?_ | refine Below.drew ?_ | refine Below.alloc ?_ (by have hq_ := B0.out.size; first | omega | (simp <;> omega)) _ | refine Below.setCell ?_ (by have hq_ := B0.out.size; first | omega | (simp <;> omega)) _)) b1 (by have hq_ := B0.out.size; first | omega | (simp <;> omega))); clear b1 o1))
    go_ret2
    exact RLy.nil (by repeat (first | exact B1.out | refine Below.drews ?_ | refine Below.drew ?_ | refine Below.alloc ?_ (by have hq_ := B1.out.size; first | omega | (simp <;> omega)) _ | refine Below.setCell ?_ (by have hq_ := B1.out.size; first | omega | (simp <;> omega)) _))
  · have hm : ¬ (0 ≤ mo ∧ mo ≤ 1000000000) := by simpa using hb
    clear hb
    by_cases h0 : mo < 0
    · clear hm
      go_enter Try.func21, Try.ntmps21
      go_wp2_with (first | (go_at_call 12; refine (HN.out _ (HR.out.below (by repeat (first | exact Below.refl _ _ | with_reducible assumption | refine Below.drews ?_ | refine Below.drew ?_ | refine Below.alloc ?_ (by simp <;> omega) _ | refine Below.setCell ?_ (by simp <;> omega) _)))).mono ?_; rintro e w1 ⟨⟨v1, rfl, o1⟩, b1⟩; have B1 := Hb.mk (Below.on (B := w.heap.size) (a := w) (by repeat (first | exact B0.out | refine Below.drews ?_ | refine Below.drew ?_ | refine Below.alloc ?_ (by have hq_ := B0.out.size; first | omega | (simp <;> omega)) _ | refine Below.setCell ?_ (by have hq_ := B0.out.size; first | omega | (simp <;> omega)) _)) b1 (by have hq_ := B0.out.size; first | omega | (simp <;> omega))); clear b1 o1))
      go_ret2
      exact RLy.nil (by repeat (first | exact B1.out | refine Below.drews ?_ | refine Below.drew ?_ | refine Below.alloc ?_ (by have hq_ := B1.out.size; first | omega | (simp <;> omega)) _ | refine Below.setCell ?_ (by have hq_ := B1.out.size; first | omega | (simp <;> omega)) _))
    · have h1 : 1000000000 < mo := by omega
      clear hm
      go_enter Try.func21, Try.ntmps21
      go_wp2_with (first | (go_at_call 12; refine (HN.out _ (HR.out.below (by repeat (first | exact Below.refl _ _ | with_reducible assumption | refine Below.drews ?_ | refine Below.drew ?_ | refine Below.alloc ?_ (by simp <;> omega) _ | refine Below.setCell ?_ (by simp <;> omega) _)))).mono ?_; rintro e w1 ⟨⟨v1, rfl, o1⟩, b1⟩; have B1 := Hb.mk (Below.on (B := w.heap.size) (a := w) (by repeat (first | exact B0.out | refine Below.drews ?_ | refine Below.drew ?_ | refine Below.alloc ?_ (by have hq_ := B0.out.size; first | omega | (simp <;> omega)) _ | refine Below.setCell ?_ (by have hq_ := B0.out.size; first | omega | (simp <;> omega)) _)) b1 (by have hq_ := B0.out.size; first | omega | (simp <;> omega))); clear b1 o1))
      go_ret2
      exact RLy.nil (by repeat (first | exact B1.out | refine Below.drews ?_ | refine Below.drew ?_ | refine Below.alloc ?_ (by have hq_ := B1.out.size; first | omega | (simp <;> omega)) _ | refine Below.setCell ?_ (by have hq_ := B1.out.size; first | omega | (simp <;> omega)) _))
set_option maxHeartbeats 2000000 in
theorem iRc_yes {g1 g2 n m : Nat} {ys : List Nat} {xs F : List Int} {i mo : Int} (w : World) (h : NR w g1 g2 n m ys xs) (hi : ∀ W, NR W g1 g2 n m ys xs → Calls Try.prog 12 #[nv g1 n g2 m, .int .i64 i] W (RLy 2 true (ils F) W)) (hm0 : 0 ≤ mo) (hm1 : mo ≤ 1000000000) (hF : F.length ≤ 64) : Calls Try.prog 21 #[nv g1 n g2 m, .int .i64 i, .int .i64 mo] w (RLy 2 true (ils (rch F mo F.length)) w) := by
  obtain ⟨i0, hi0, hz0, hz1, hz2⟩ := info_parts (P := Try.prog) (e := 2) (z := .int .i64 0) (size := 1) (bytes := 8) (by kernel_rfl)
  have HN := Hf.mk hi
  have HR := Hf.mk h
  have B0 := Hb.mk (Below.refl w.heap.size w)
  have hx0 : ¬ mo < 0 := by omega
  have hx1 : ¬ 1000000000 < mo := by omega
  clear h hi
  go_enter Try.func21, Try.ntmps21
  go_wp2_with (first | (go_at_call 12; refine (HN.out _ (HR.out.below (by repeat (first | exact Below.refl _ _ | with_reducible assumption | refine Below.drews ?_ | refine Below.drew ?_ | refine Below.alloc ?_ (by simp <;> omega) _ | refine Below.setCell ?_ (by simp <;> omega) _)))).mono ?_; rintro e w1 ⟨⟨v1, rfl, o1⟩, b1⟩; have B1 := Hb.mk (Below.on (B := w.heap.size) (a := w) (by repeat (first | exact B0.out | refine Below.drews ?_ | refine Below.drew ?_ | refine Below.alloc ?_ (by have hq_ := B0.out.size; first | omega | (simp <;> omega)) _ | refine Below.setCell ?_ (by have hq_ := B0.out.size; first | omega | (simp <;> omega)) _)) b1 (by have hq_ := B0.out.size; first | omega | (simp <;> omega))); rw [ils_len1] at o1; obtain ⟨a1, k1, rfl, _, r1⟩ := irow_vown o1; have R1 := Hf.mk r1; clear b1 o1 r1))
  go_loopw [10, 31] (fun v c wr => ∃ (j : Nat), j ≤ F.length ∧ c = .int .i64 j ∧ Hf (wr.ownsRow w1.heap.size 2 1 v (rch F mo j).length (ils (rch F mo j))) ∧ Hf (Below w1.heap.size w1 wr)) (fun _ c _ => F.length - (intOf c).toNat)
  case atStart => exact ⟨0, by omega, rfl, ⟨World.ownsRow_nil _ _ _ _⟩, ⟨(by repeat (first | exact Below.refl _ _ | with_reducible assumption | refine Below.drews ?_ | refine Below.drew ?_ | refine Below.alloc ?_ (by simp <;> omega) _ | refine Below.setCell ?_ (by simp <;> omega) _))⟩⟩
  case round =>
    obtain ⟨j, hj, rfl, hown, hbel⟩ := hrel
    obtain ⟨W1, hW1⟩ : ∃ W1, W1 = wr := ⟨_, rfl⟩
    subst hW1
    have hsz := hbel.out.size
    by_cases hlt : j < F.length
    · obtain ⟨pa, rfl, hc⟩ := (R1.out.below hbel.out).one hlt
      have hL := rch_len F mo j
      by_cases hF0 : 0 ≤ F.getD j 0 ∧ F.getD j 0 ≤ mo
      · obtain ⟨hf0, hf1⟩ := hF0
        have HY := Hf.mk (rch_yes hf0 hf1)
        generalize F.getD j 0 = X at *
        go_wp2_with (at_builtin; refine wpList_append_own _ rfl _ _ 27 rfl w1.heap.size 2 i0 (.int .i64 0) 1 8 Try.underlying27 hi0 hz0 hz1 hz2 rfl (by decide) _ _ (ils (rch F mo j)) rfl (rown_below hown.out ((Below.refl _ _).alloc (Nat.le_refl _) _)) ⟨W1.heap.size, 0, none⟩ 1 1 [.int .i64 (j : Int)] rfl rfl (rt_one _ _ _) rt_int (by unfold maxLen; omega) (by omega) (by first | omega | (simp <;> omega)) ?_; intro v' w3 o3 hgrow3 _; have B3 := Hf.mk (Below.grown (Below.alloc hbel.out (by first | omega | (simp <;> omega)) _) hgrow3 (by first | omega | (simp <;> omega)) (fun k h => rt_ge hown.out h)); have O3 := Hf.mk o3; clear o3 hgrow3)
        go_roundw
        case rel => exact ⟨j + 1, by omega, i_ext2 (by omega), ⟨by have := O3.out; rw [ils_app1] at this; rw [HY.out, List.length_append]; exact this⟩, B3⟩
        case measure => simp [intOf]; omega
      · have HY := Hf.mk (rch_no hF0)
        generalize F.getD j 0 = X at *
        by_cases hf0 : 0 ≤ X
        · have hf1 : ¬ X ≤ mo := fun h => hF0 ⟨hf0, h⟩
          clear hF0
          go_wp2
          go_roundw
          case rel => exact ⟨j + 1, by omega, i_ext2 (by omega), ⟨by rw [HY.out]; exact rown_below hown.out (by repeat (first | exact Below.refl _ _ | with_reducible assumption | refine Below.drews ?_ | refine Below.drew ?_ | refine Below.alloc ?_ (by simp <;> omega) _ | refine Below.setCell ?_ (by simp <;> omega) _))⟩, ⟨by first | exact hbel.out | exact Below.drews hbel.out⟩⟩
          case measure => simp [intOf]; omega
        · clear hF0
          go_wp2
          go_roundw
          case rel => exact ⟨j + 1, by omega, i_ext2 (by omega), ⟨by rw [HY.out]; exact rown_below hown.out (by repeat (first | exact Below.refl _ _ | with_reducible assumption | refine Below.drews ?_ | refine Below.drew ?_ | refine Below.alloc ?_ (by simp <;> omega) _ | refine Below.setCell ?_ (by simp <;> omega) _))⟩, ⟨by first | exact hbel.out | exact Below.drews hbel.out⟩⟩
          case measure => simp [intOf]; omega
    · obtain rfl : j = F.length := by omega
      go_wp2
      go_ret2
      refine ⟨⟨_, rfl, ?_⟩, Below.on (B := w.heap.size) (a := w) B1.out hbel.out B1.out.size⟩
      rw [ils_len1]
      exact rown_lower hown.out B1.out.size
end Go.Proofs.Yteclmjknmdlopaa
