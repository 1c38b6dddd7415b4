/-
KeyOf: the tile of a place, of the program and of its model; the exact law. No condition.
-/
import Derived.Test.YtgbcgckkjhgchabTks
import Derived.Test.YtgbcgckkjhgchabFlr
namespace Go.Proofs.Ytgbcgckkjhgchab
open Go Go.RowKit
set_option maxRecDepth 100000

/-- The finest column and row of a place. -/
def tu (e : Nat) : Nat := (eastStep e + 8388608).toNat
def tw (n : Nat) : Nat := if 16777215 < 2 * stepC n + 8388608 then 16777215 else (2 * stepC n + 8388608).toNat
theorem tile_nums {n e : Nat} (h : validC n e = true) : eastStep e + 8388608 = (tu e : Int) ∧ tu e ≤ 16777215 ∧ -4194304 ≤ stepC n ∧ stepC n ≤ 4194304 ∧ (2 * stepC n + 8388608 ≤ 16777215 → 2 * stepC n + 8388608 = (tw n : Int)) ∧ (16777215 < 2 * stepC n + 8388608 → tw n = 16777215) ∧ tw n ≤ 16777215 := by
  obtain ⟨h1, h2⟩ := valid_ab h
  have a := step_north h1
  have b := east_in h2
  unfold tu tw
  refine ⟨by omega, by omega, a.1, a.2, fun g => ?_, fun g => if_pos g, ?_⟩
  · rw [if_neg (by omega)]; omega
  · split <;> omega
theorem dv_small {X z : Nat} (hX : X ≤ 16777215) (hz : z ≤ 24) : dv X (24 - z) < 2 ^ z := by
  rw [dv_eq, Nat.div_lt_iff_lt_mul (Nat.two_pow_pos _), ← Nat.pow_add, show z + (24 - z) = 24 by omega]
  omega
set_option maxHeartbeats 1000000 in
theorem l07Two_any {n e a b : Nat} (h1 : Fl .f32 n a) (h2 : Fl .f32 e b) (hv : validC n e = true) (w : World) : Calls Try.prog 110 #[pl a b] w (RS (.tuple #[.int .i64 (tu e), .int .i64 (tw n)]) w) := by
  have KS := Hf.mk (fun w => sStepsOf_yes h1 h2 hv w)
  obtain ⟨c1, c2, c3, c4, c5, c6, c7⟩ := tile_nums hv
  have B0 := Hb.mk (Below.refl w.heap.size w)
  generalize stepC n = N at *
  have r1 : wrap64 (2 * N) = 2 * N := by unfold wrap64; omega
  have r2 : wrap64 (2 * N + 8388608) = 2 * N + 8388608 := by unfold wrap64; omega
  generalize eastStep e = E at *
  have r3 : wrap64 (E + 8388608) = (tu e : Int) := by rw [← c1]; unfold wrap64; omega
  generalize tu e = U at *
  by_cases hg : 16777215 < 2 * N + 8388608
  · have c6 := c6 hg
    have K6 := Keep.mk c6
    clear c5 c6 c7 hv
    go_enter Try.func110, Try.ntmps110
    go_wp2_with (first | (go_at_call 118; refine (KS.out _).mono ?_; rintro e w1 ⟨rfl, b1⟩; have B1 := Hb.mk (Below.on (B := w.heap.size) (a := w) (by repeat (first | exact B0.out | refine Below.drews ?_ | refine Below.drew ?_ | refine Below.alloc ?_ (by have hq_ := B0.out.size; first | omega | (simp <;> omega)) _ | refine Below.setCell ?_ (by have hq_ := B0.out.size; first | omega | (simp <;> omega)) _)) b1 (by have hq_ := B0.out.size; first | omega | (simp <;> omega))); clear b1))
    go_ret2
    rw [K6.out]
    exact ⟨rfl, (by repeat (first | exact B1.out | refine Below.drews ?_ | refine Below.drew ?_ | refine Below.alloc ?_ (by have hq_ := B1.out.size; first | omega | (simp <;> omega)) _ | refine Below.setCell ?_ (by have hq_ := B1.out.size; first | omega | (simp <;> omega)) _))⟩
  · have c5 := c5 (by omega)
    have K5 := Keep.mk c5
    clear c5 c6 c7 hv
    go_enter Try.func110, Try.ntmps110
    go_wp2_with (first | (go_at_call 118; refine (KS.out _).mono ?_; rintro e w1 ⟨rfl, b1⟩; have B1 := Hb.mk (Below.on (B := w.heap.size) (a := w) (by repeat (first | exact B0.out | refine Below.drews ?_ | refine Below.drew ?_ | refine Below.alloc ?_ (by have hq_ := B0.out.size; first | omega | (simp <;> omega)) _ | refine Below.setCell ?_ (by have hq_ := B0.out.size; first | omega | (simp <;> omega)) _)) b1 (by have hq_ := B0.out.size; first | omega | (simp <;> omega))); clear b1))
    go_ret2
    rw [← K5.out]
    exact ⟨rfl, (by repeat (first | exact B1.out | refine Below.drews ?_ | refine Below.drew ?_ | refine Below.alloc ?_ (by have hq_ := B1.out.size; first | omega | (simp <;> omega)) _ | refine Below.setCell ?_ (by have hq_ := B1.out.size; first | omega | (simp <;> omega)) _))⟩
theorem l07Tile_any {n e a b : Nat} {z : Nat} (h1 : Fl .f32 n a) (h2 : Fl .f32 e b) (hv : validC n e = true) (hz : z ≤ 20) (w : World) : Calls Try.prog 64 #[pl a b, .int .i64 (z : Int)] w (RS (.tuple #[.int .i64 (dv (tu e) (24 - z)), .int .i64 (dv (tw n) (24 - z))]) w) := by
  have KT := Hf.mk (fun w => l07Two_any h1 h2 hv w)
  have B0 := Hb.mk (Below.refl w.heap.size w)
  obtain ⟨_, u1, _, _, _, _, u2⟩ := tile_nums hv
  generalize tu e = U at *
  generalize tw n = V at *
  clear hv
  go_enter Try.func64, Try.ntmps64
  go_wp2_with (first | (go_at_call 110; refine (KT.out _).mono ?_; rintro e w1 ⟨rfl, b1⟩; have B1 := Hb.mk (Below.on (B := w.heap.size) (a := w) (by repeat (first | exact B0.out | refine Below.drews ?_ | refine Below.drew ?_ | refine Below.alloc ?_ (by have hq_ := B0.out.size; first | omega | (simp <;> omega)) _ | refine Below.setCell ?_ (by have hq_ := B0.out.size; first | omega | (simp <;> omega)) _)) b1 (by have hq_ := B0.out.size; first | omega | (simp <;> omega))); clear b1))
  go_loopw [6, 7, 8] (fun v1 v2 v3 wr => ∃ k : Nat, z ≤ k ∧ k ≤ 24 ∧ v1 = .int .i64 (dv U (k - z)) ∧ v2 = .int .i64 (dv V (k - z)) ∧ v3 = .int .i64 k ∧ Hf (Below w.heap.size w wr)) (fun _ _ v3 _ => 24 - (intOf v3).toNat)
  case atStart => exact ⟨z, Nat.le_refl _, by omega, by rw [Nat.sub_self]; rfl, by rw [Nat.sub_self]; rfl, rfl, ⟨B1.out⟩⟩
  case round =>
    obtain ⟨k, hk1, hk2, rfl, rfl, rfl, hbel⟩ := hrel
    by_cases hlt : k < 24
    · have g1 := dv_le U (k + 1 - z)
      have g2 := dv_le V (k + 1 - z)
      have e1 : Int.tdiv ((dv U (k - z) : Nat) : Int) 2 = ((dv U (k + 1 - z) : Nat) : Int) := by
        rw [show k + 1 - z = (k - z) + 1 by omega]; show _ = ((dv U (k - z) / 2 : Nat) : Int)
        rw [Int.tdiv_eq_ediv_of_nonneg (by omega)]; simp
      have e2 : Int.tdiv ((dv V (k - z) : Nat) : Int) 2 = ((dv V (k + 1 - z) : Nat) : Int) := by
        rw [show k + 1 - z = (k - z) + 1 by omega]; show _ = ((dv V (k - z) / 2 : Nat) : Int)
        rw [Int.tdiv_eq_ediv_of_nonneg (by omega)]; simp
      go_wp2
      go_roundw
      case rel =>
        refine ⟨k + 1, by omega, by omega, ?_, ?_, i_ext2 (by omega), hbel⟩
        · rfl
        · rfl
      case measure => simp [intOf]; omega
    · obtain rfl : k = 24 := by omega
      go_wp2
      go_ret2
      exact ⟨rfl, hbel.out⟩
theorem shr_word {z : Nat} (hz : z ≤ 20) : wrap64 (24 - (z : Int)) = ((24 - z : Nat) : Int) := by unfold wrap64; omega
theorem At.drws {w : World} {p : Addr} {v : Value} (h : At w p v) (q : Nat) : At (w.drewN q) p v := ⟨h.cell, h.free, h.lt⟩
theorem three_at {w : World} {b : Nat} {a0 a1 a2 : Value} (A0 : At w ⟨b, 0, none⟩ a0) (A1 : At w ⟨b, 1, none⟩ a1) (A2 : At w ⟨b, 2, none⟩ a2) (x y z : Value) :
    (w.setCell ⟨b, 0, none⟩ x).cell? ⟨b, 0, none⟩ = some x ∧ ((w.setCell ⟨b, 0, none⟩ x).setCell ⟨b, 1, none⟩ y).cell? ⟨b, 1, none⟩ = some y ∧ (((w.setCell ⟨b, 0, none⟩ x).setCell ⟨b, 1, none⟩ y).setCell ⟨b, 2, none⟩ z).cell? ⟨b, 2, none⟩ = some z :=
  ⟨(A0.st x).cell, ((A1.ot (Or.inr (by decide)) x).st y).cell, (((A2.ot (Or.inr (by decide)) x).ot (Or.inr (by decide)) y).st z).cell⟩
set_option maxHeartbeats 2000000 in
theorem tileOfPlace_yes {n e a b : Nat} {z : Nat} (h1 : Fl .f32 n a) (h2 : Fl .f32 e b) (hv : validC n e = true) (hz : z ≤ 20) (w : World) : Calls Try.prog 66 #[pl a b, .int .i64 (z : Int)] w (RS (.tuple #[tl (z : Int) (dv (tu e) (24 - z)) (dv (tw n) (24 - z)), .bool true]) w) := by
  have KS := Hf.mk (fun w => iStepsOf_yes h1 h2 hv w)
  have KZ := Hf.mk (fun w => isZoom_any (i := (z : Int)) w)
  have hzb : zoomB (z : Int) = true := by unfold zoomB; rw [decide_eq_true_eq]; omega
  rw [hzb] at KZ
  obtain ⟨c1, c2, c3, c4, c5, c6, c7⟩ := tile_nums hv
  have B0 := Hb.mk (Below.refl w.heap.size w)
  generalize stepC n = N at *
  have r1 : wrap64 (2 * N) = 2 * N := by unfold wrap64; omega
  have r2 : wrap64 (2 * N + 8388608) = 2 * N + 8388608 := by unfold wrap64; omega
  generalize eastStep e = E at *
  have r3 : wrap64 (E + 8388608) = (tu e : Int) := by rw [← c1]; unfold wrap64; omega
  have r4 := shr_word hz
  generalize tu e = U at *
  clear hv
  rw [dvInt, dvInt]
  go_enter Try.func66, Try.ntmps66
  go_wp2_with (first | (go_at_call 81; refine (KS.out _).mono ?_; rintro e w1 ⟨rfl, b1⟩; have B1 := Hb.mk (Below.on (B := w.heap.size) (a := w) (by repeat (first | exact B0.out | refine Below.drews ?_ | refine Below.drew ?_ | refine Below.alloc ?_ (by have hq_ := B0.out.size; first | omega | (simp <;> omega)) _ | refine Below.setCell ?_ (by have hq_ := B0.out.size; first | omega | (simp <;> omega)) _)) b1 (by have hq_ := B0.out.size; first | omega | (simp <;> omega))); have p0 := Hb.mk (At.keep b1 (p := ⟨w.heap.size + 1, 0, none⟩) (v := .int .i64 0) (by simp [go_sem]) (by simp [go_sem])); obtain ⟨p0c, p0z, p0l⟩ := p0.out; have p1 := Hb.mk (At.keep b1 (p := ⟨w.heap.size + 1, 1, none⟩) (v := .int .i64 0) (by simp [go_sem]) (by simp [go_sem])); obtain ⟨p1c, p1z, p1l⟩ := p1.out; have p2 := Hb.mk (At.keep b1 (p := ⟨w.heap.size + 1, 2, none⟩) (v := .int .i64 0) (by simp [go_sem]) (by simp [go_sem])); obtain ⟨p2c, p2z, p2l⟩ := p2.out; clear b1) | (go_at_call 111; refine (KZ.out _).mono ?_; rintro e w' ⟨rfl, n1, rfl⟩))
  all_goals
    obtain ⟨p0c, p0z, p0l⟩ := p0.out
    obtain ⟨p1c, p1z, p1l⟩ := p1.out
    obtain ⟨p2c, p2z, p2l⟩ := p2.out
  · have c6 := c6 (by omega)
    have K6 := Keep.mk c6
    clear c5 c6 c7
    obtain ⟨s0, s1, s2⟩ := three_at (w := w1.drewN (n1 + 1)) (p0.out.drws _) (p1.out.drws _) (p2.out.drws _) (.int .i64 (z : Int)) (.int .i64 ((U : Int) / 2 ^ (24 - z))) (.int .i64 ((16777215 : Int) / 2 ^ (24 - z)))
    go_region
    go_wp2
    exact bodyPost_ret (v := .tuple #[tl (z : Int) ((U : Int) / 2 ^ (24 - z)) ((16777215 : Int) / 2 ^ (24 - z)), .bool true]) (by simp [results, Try.results66, go_sem, s0, s1, s2]) rfl ⟨by first | rfl | (rw [K6.out]; rfl), ((Below.setCell (Below.drews B1.out) (by simp) _).setCell (by simp) _).setCell (by simp) _⟩
  · have c5 := c5 (by omega)
    clear c6
    obtain ⟨s0, s1, s2⟩ := three_at (w := w1.drewN (n1 + 1)) (p0.out.drws _) (p1.out.drws _) (p2.out.drws _) (.int .i64 (z : Int)) (.int .i64 ((U : Int) / 2 ^ (24 - z))) (.int .i64 ((tw n : Int) / 2 ^ (24 - z)))
    go_region
    go_wp2
    exact bodyPost_ret (v := .tuple #[tl (z : Int) ((U : Int) / 2 ^ (24 - z)) ((tw n : Int) / 2 ^ (24 - z)), .bool true]) (by simp [results, Try.results66, go_sem, s0, s1, s2]) rfl ⟨rfl, ((Below.setCell (Below.drews B1.out) (by simp) _).setCell (by simp) _).setCell (by simp) _⟩
set_option maxHeartbeats 2000000 in
theorem tileOfPlace_no {n e a b : Nat} {z : Int} (h1 : Fl .f32 n a) (h2 : Fl .f32 e b) (hv : (validC n e && zoomB z) = false) (w : World) : Calls Try.prog 66 #[pl a b, .int .i64 z] w (RS (.tuple #[tl 0 0 0, .bool false]) w) := by
  have B0 := Hb.mk (Below.refl w.heap.size w)
  cases hvv : validC n e
  · have KS := Hf.mk (fun w => iStepsOf_no h1 h2 hvv w)
    clear hv hvv
    go_enter Try.func66, Try.ntmps66
    go_wp2_with (first | (go_at_call 81; refine (KS.out _).mono ?_; rintro e w1 ⟨rfl, b1⟩; have B1 := Hb.mk (Below.on (B := w.heap.size) (a := w) (by repeat (first | exact B0.out | refine Below.drews ?_ | refine Below.drew ?_ | refine Below.alloc ?_ (by have hq_ := B0.out.size; first | omega | (simp <;> omega)) _ | refine Below.setCell ?_ (by have hq_ := B0.out.size; first | omega | (simp <;> omega)) _)) b1 (by have hq_ := B0.out.size; first | omega | (simp <;> omega))); have p0 := Hb.mk (At.keep b1 (p := ⟨w.heap.size + 1, 0, none⟩) (v := .int .i64 0) (by simp [go_sem]) (by simp [go_sem])); obtain ⟨p0c, p0z, p0l⟩ := p0.out; have p1 := Hb.mk (At.keep b1 (p := ⟨w.heap.size + 1, 1, none⟩) (v := .int .i64 0) (by simp [go_sem]) (by simp [go_sem])); obtain ⟨p1c, p1z, p1l⟩ := p1.out; have p2 := Hb.mk (At.keep b1 (p := ⟨w.heap.size + 1, 2, none⟩) (v := .int .i64 0) (by simp [go_sem]) (by simp [go_sem])); obtain ⟨p2c, p2z, p2l⟩ := p2.out; clear b1))
    obtain ⟨s0, s1, s2⟩ := three_at p0.out p1.out p2.out (.int .i64 0) (.int .i64 0) (.int .i64 0)
    exact bodyPost_ret (v := .tuple #[tl 0 0 0, .bool false]) (by simp [results, Try.results66, go_sem, s0, s1, s2]) rfl ⟨rfl, by first | exact (by repeat (first | exact B1.out | refine Below.drews ?_ | refine Below.drew ?_ | refine Below.alloc ?_ (by have hq_ := B1.out.size; first | omega | (simp <;> omega)) _ | refine Below.setCell ?_ (by have hq_ := B1.out.size; first | omega | (simp <;> omega)) _)) | exact (((B1.out).setCell (by simp) _).setCell (by simp) _).setCell (by simp) _⟩
  · rw [hvv, Bool.true_and] at hv
    have KS := Hf.mk (fun w => iStepsOf_yes h1 h2 hvv w)
    have KZ := Hf.mk (fun w => isZoom_any (i := z) w)
    rw [hv] at KZ
    clear hvv hv
    go_enter Try.func66, Try.ntmps66
    go_wp2_with (first | (go_at_call 81; refine (KS.out _).mono ?_; rintro e w1 ⟨rfl, b1⟩; have B1 := Hb.mk (Below.on (B := w.heap.size) (a := w) (by repeat (first | exact B0.out | refine Below.drews ?_ | refine Below.drew ?_ | refine Below.alloc ?_ (by have hq_ := B0.out.size; first | omega | (simp <;> omega)) _ | refine Below.setCell ?_ (by have hq_ := B0.out.size; first | omega | (simp <;> omega)) _)) b1 (by have hq_ := B0.out.size; first | omega | (simp <;> omega))); have p0 := Hb.mk (At.keep b1 (p := ⟨w.heap.size + 1, 0, none⟩) (v := .int .i64 0) (by simp [go_sem]) (by simp [go_sem])); obtain ⟨p0c, p0z, p0l⟩ := p0.out; have p1 := Hb.mk (At.keep b1 (p := ⟨w.heap.size + 1, 1, none⟩) (v := .int .i64 0) (by simp [go_sem]) (by simp [go_sem])); obtain ⟨p1c, p1z, p1l⟩ := p1.out; have p2 := Hb.mk (At.keep b1 (p := ⟨w.heap.size + 1, 2, none⟩) (v := .int .i64 0) (by simp [go_sem]) (by simp [go_sem])); obtain ⟨p2c, p2z, p2l⟩ := p2.out; clear b1) | (go_at_call 111; refine (KZ.out _).mono ?_; rintro e w' ⟨rfl, n1, rfl⟩))
    obtain ⟨s0, s1, s2⟩ := three_at (w := w1.drewN n1) (p0.out.drws _) (p1.out.drws _) (p2.out.drws _) (.int .i64 0) (.int .i64 0) (.int .i64 0)
    exact bodyPost_ret (v := .tuple #[tl 0 0 0, .bool false]) (by simp [results, Try.results66, go_sem, s0, s1, s2]) rfl ⟨rfl, by exact (((Below.drews B1.out).setCell (by simp) _).setCell (by simp) _).setCell (by simp) _⟩
/-- Where a place is valid and a zoom is one, the tile is valid, and its key is the model's. -/
theorem tile_in {n e z : Nat} (hv : validC n e = true) (hz : z ≤ 20) : tileB (z : Int) (dv (tu e) (24 - z)) (dv (tw n) (24 - z)) = true ∧ tkeyS (z : Int) (dv (tu e) (24 - z)) (dv (tw n) (24 - z)) = keyS z (dv (tu e) (24 - z)) (dv (tw n) (24 - z)) ∧ dv (tu e) (24 - z) ≤ 1048575 ∧ dv (tw n) (24 - z) ≤ 1048575 := by
  obtain ⟨_, u1, _, _, _, _, u2⟩ := tile_nums hv
  have d1 := dv_small u1 (z := z) (by omega)
  have d2 := dv_small u2 (z := z) (by omega)
  have hp := two20' hz
  have hb : tileB (z : Int) (dv (tu e) (24 - z)) (dv (tw n) (24 - z)) = true := by
    unfold tileB zoomB
    rw [Bool.and_eq_true, Bool.and_eq_true, decide_eq_true_eq, decide_eq_true_eq, decide_eq_true_eq, Int.toNat_natCast]
    refine ⟨by omega, ⟨by omega, ?_⟩, by omega, ?_⟩
    · exact_mod_cast d1
    · exact_mod_cast d2
  refine ⟨hb, ?_, by omega, by omega⟩
  unfold tkeyS
  rw [if_pos hb]
  simp
def kofB (n e : Nat) (z : Int) : Bool := validC n e && zoomB z
def kofS (n e : Nat) (z : Int) : ByteArray := if kofB n e z = true then keyS z.toNat (dv (tu e) (24 - z.toNat)) (dv (tw n) (24 - z.toNat)) else ⟨#[]⟩
set_option maxHeartbeats 1000000 in
theorem iKeyOf_any {n e a b : Nat} {z : Int} (h1 : Fl .f32 n a) (h2 : Fl .f32 e b) (w : World) : Calls Try.prog 16 #[pl a b, .int .i64 z] w (RS (stT' (kofS n e z) (kofB n e z)) w) := by
  have B0 := Hb.mk (Below.refl w.heap.size w)
  cases hb : kofB n e z
  · have KT := Hf.mk (fun w => tileOfPlace_no (z := z) h1 h2 hb w)
    have KS := Hf.mk (show kofS n e z = ⟨#[]⟩ by unfold kofS; rw [hb]; rfl)
    clear hb
    go_enter Try.func16, Try.ntmps16
    go_wp2_with (first | (go_at_call 66; refine (KT.out _).mono ?_; rintro e w1 ⟨rfl, b1⟩; have B1 := Hb.mk (Below.on (B := w.heap.size) (a := w) (by repeat (first | exact B0.out | refine Below.drews ?_ | refine Below.drew ?_ | refine Below.alloc ?_ (by have hq_ := B0.out.size; first | omega | (simp <;> omega)) _ | refine Below.setCell ?_ (by have hq_ := B0.out.size; first | omega | (simp <;> omega)) _)) b1 (by have hq_ := B0.out.size; first | omega | (simp <;> omega))); clear b1))
    go_ret2
    rw [KS.out]
    exact ⟨rfl, (by repeat (first | exact B1.out | refine Below.drews ?_ | refine Below.drew ?_ | refine Below.alloc ?_ (by have hq_ := B1.out.size; first | omega | (simp <;> omega)) _ | refine Below.setCell ?_ (by have hq_ := B1.out.size; first | omega | (simp <;> omega)) _))⟩
  · have hb2 := hb
    unfold kofB at hb2
    rw [Bool.and_eq_true] at hb2
    obtain ⟨hv, hz⟩ := hb2
    obtain ⟨k, rfl, hk⟩ := zoom_nat hz
    have KT := Hf.mk (fun w => tileOfPlace_yes h1 h2 hv hk w)
    obtain ⟨t1, t2, t3, t4⟩ := tile_in hv hk
    have KK := Hf.mk (fun w => keyOfTile_any (z := (k : Int)) (x := (dv (tu e) (24 - k) : Nat)) (y := (dv (tw n) (24 - k) : Nat)) w)
    rw [t1, t2] at KK
    have KS := Hf.mk (show kofS n e (k : Int) = keyS k (dv (tu e) (24 - k)) (dv (tw n) (24 - k)) by unfold kofS; rw [hb, if_pos rfl, Int.toNat_natCast])
    clear hb hv hz t1 t2
    generalize dv (tu e) (24 - k) = X at *
    generalize dv (tw n) (24 - k) = Y at *
    generalize keyS k X Y = K at *
    go_enter Try.func16, Try.ntmps16
    go_wp2_with (first | (go_at_call 66; refine (KT.out _).mono ?_; rintro e w1 ⟨rfl, b1⟩; have B1 := Hb.mk (Below.on (B := w.heap.size) (a := w) (by repeat (first | exact B0.out | refine Below.drews ?_ | refine Below.drew ?_ | refine Below.alloc ?_ (by have hq_ := B0.out.size; first | omega | (simp <;> omega)) _ | refine Below.setCell ?_ (by have hq_ := B0.out.size; first | omega | (simp <;> omega)) _)) b1 (by have hq_ := B0.out.size; first | omega | (simp <;> omega))); clear b1) | (go_at_call 67; refine (KK.out _).mono ?_; rintro e w2 ⟨rfl, b2⟩; have B2 := Hb.mk (Below.on (B := w.heap.size) (a := w) (by repeat (first | exact B1.out | refine Below.drews ?_ | refine Below.drew ?_ | refine Below.alloc ?_ (by have hq_ := B1.out.size; first | omega | (simp <;> omega)) _ | refine Below.setCell ?_ (by have hq_ := B1.out.size; first | omega | (simp <;> omega)) _)) b2 (by have hq_ := B1.out.size; first | omega | (simp <;> omega))); clear b2))
    go_ret2
    rw [KS.out]
    exact ⟨rfl, (by repeat (first | exact B2.out | refine Below.drews ?_ | refine Below.drew ?_ | refine Below.alloc ?_ (by have hq_ := B2.out.size; first | omega | (simp <;> omega)) _ | refine Below.setCell ?_ (by have hq_ := B2.out.size; first | omega | (simp <;> omega)) _))⟩
set_option maxHeartbeats 1000000 in
theorem sKeyOf_any {n e a b : Nat} {z : Int} (h1 : Fl .f32 n a) (h2 : Fl .f32 e b) (w : World) : Calls Try.prog 14 #[pl a b, .int .i64 z] w (RS (stT' (kofS n e z) (kofB n e z)) w) := by
  have B0 := Hb.mk (Below.refl w.heap.size w)
  have HI := @l02Is_any n e a b w.heap.size h1 h2
  have KZ := Hf.mk (fun w => l07Zoom_any (i := z) w)
  cases hv : validC n e
  · rw [hv] at HI
    have HI := Keep.mk HI
    have hb : kofB n e z = false := by unfold kofB; rw [hv]; rfl
    have KS := Hf.mk (show kofS n e z = ⟨#[]⟩ by unfold kofS; rw [hb]; rfl)
    rw [hb]
    clear hb hv
    go_enter Try.func14, Try.ntmps14
    go_wp2_with (first | (go_at_call 62; refine (HI.out _ (by simp [go_sem]) (by simp [go_sem])).mono ?_; rintro ex w' ⟨rfl, n1, rfl⟩))
    go_ret2
    rw [KS.out]
    exact ⟨rfl, (by repeat (first | exact B0.out | refine Below.drews ?_ | refine Below.drew ?_ | refine Below.alloc ?_ (by have hq_ := B0.out.size; first | omega | (simp <;> omega)) _ | refine Below.setCell ?_ (by have hq_ := B0.out.size; first | omega | (simp <;> omega)) _))⟩
  · rw [hv] at HI
    have HI := Keep.mk HI
    cases hz : zoomB z
    · rw [hz] at KZ
      have hb : kofB n e z = false := by unfold kofB; rw [hz, Bool.and_false]
      have KS := Hf.mk (show kofS n e z = ⟨#[]⟩ by unfold kofS; rw [hb]; rfl)
      rw [hb]
      clear hb hv hz
      go_enter Try.func14, Try.ntmps14
      go_wp2_with (first | (go_at_call 62; refine (HI.out _ (by simp [go_sem]) (by simp [go_sem])).mono ?_; rintro ex w' ⟨rfl, n1, rfl⟩) | (go_at_call 63; refine (KZ.out _).mono ?_; rintro e w' ⟨rfl, n2, rfl⟩))
      go_ret2
      rw [KS.out]
      exact ⟨rfl, (by repeat (first | exact B0.out | refine Below.drews ?_ | refine Below.drew ?_ | refine Below.alloc ?_ (by have hq_ := B0.out.size; first | omega | (simp <;> omega)) _ | refine Below.setCell ?_ (by have hq_ := B0.out.size; first | omega | (simp <;> omega)) _))⟩
    · rw [hz] at KZ
      have hb : kofB n e z = true := by unfold kofB; rw [hz, hv]; rfl
      obtain ⟨k, rfl, hk⟩ := zoom_nat hz
      have KT := Hf.mk (fun w => l07Tile_any h1 h2 hv hk w)
      obtain ⟨t1, t2, t3, t4⟩ := tile_in hv hk
      have KK := Hf.mk (fun w => l07Key_any hk t3 t4 w)
      have KS := Hf.mk (show kofS n e (k : Int) = keyS k (dv (tu e) (24 - k)) (dv (tw n) (24 - k)) by unfold kofS; rw [hb, if_pos rfl, Int.toNat_natCast])
      rw [hb]
      clear hb hv hz t1 t2 t3 t4
      generalize dv (tu e) (24 - k) = X at *
      generalize dv (tw n) (24 - k) = Y at *
      generalize keyS k X Y = K at *
      go_enter Try.func14, Try.ntmps14
      go_wp2_with (first | (go_at_call 62; refine (HI.out _ (by simp [go_sem]) (by simp [go_sem])).mono ?_; rintro ex w' ⟨rfl, n1, rfl⟩) | (go_at_call 63; refine (KZ.out _).mono ?_; rintro e w' ⟨rfl, n2, rfl⟩) | (go_at_call 64; refine (KT.out _).mono ?_; rintro e w1 ⟨rfl, b1⟩; have B1 := Hb.mk (Below.on (B := w.heap.size) (a := w) (by repeat (first | exact B0.out | refine Below.drews ?_ | refine Below.drew ?_ | refine Below.alloc ?_ (by have hq_ := B0.out.size; first | omega | (simp <;> omega)) _ | refine Below.setCell ?_ (by have hq_ := B0.out.size; first | omega | (simp <;> omega)) _)) b1 (by have hq_ := B0.out.size; first | omega | (simp <;> omega))); clear b1) | (go_at_call 65; refine (KK.out _).mono ?_; rintro e w2 ⟨rfl, b2⟩; have B2 := Hb.mk (Below.on (B := w.heap.size) (a := w) (by repeat (first | exact B1.out | refine Below.drews ?_ | refine Below.drew ?_ | refine Below.alloc ?_ (by have hq_ := B1.out.size; first | omega | (simp <;> omega)) _ | refine Below.setCell ?_ (by have hq_ := B1.out.size; first | omega | (simp <;> omega)) _)) b2 (by have hq_ := B1.out.size; first | omega | (simp <;> omega))); clear b2))
      go_ret2
      rw [KS.out]
      exact ⟨rfl, (by repeat (first | exact B2.out | refine Below.drews ?_ | refine Below.drew ?_ | refine Below.alloc ?_ (by have hq_ := B2.out.size; first | omega | (simp <;> omega)) _ | refine Below.setCell ?_ (by have hq_ := B2.out.size; first | omega | (simp <;> omega)) _))⟩
theorem law_KeyOf {a b : Nat} {z : Int} (wa : (Lit.float .f32 a).wf = true) (wb : (Lit.float .f32 b).wf = true) (_wz : (Lit.int .i64 z).wf = true) (w : World) : Calls Try.prog 3 #[pl a b, .int .i64 z] w (fun e w' => e = .returned (.bool true) ∧ Below w.heap.size w w') := by
  have f1 := Fl.own wa
  have f2 := Fl.own wb
  have KS := Hf.mk (fun w => sKeyOf_any (z := z) f1 f2 w)
  have KI := Hf.mk (fun w => iKeyOf_any (z := z) f1 f2 w)
  have B0 := Hb.mk (Below.refl w.heap.size w)
  generalize kofS _ _ z = s at *
  generalize kofB _ _ z = ok at *
  go_enter Try.func3, Try.ntmps3
  have tk_a : True := trivial; have tk_b : True := trivial
  go_wp2_with (first
    | (go_at_call 15; clear tk_a; refine (toPlace_any _ _ _).mono ?_; rintro e w1 ⟨rfl, b1⟩; have B1 := Hb.mk (Below.on (B := w.heap.size) (a := w) (by repeat (first | exact B0.out | refine Below.drews ?_ | refine Below.drew ?_ | refine Below.alloc ?_ (by have hq_ := B0.out.size; first | omega | (simp <;> omega)) _ | refine Below.setCell ?_ (by have hq_ := B0.out.size; first | omega | (simp <;> omega)) _)) b1 (by have hq_ := B0.out.size; first | omega | (simp <;> omega))); have q1 := Hb.mk b1; clear b1)
    | (go_at_call 14; refine (KS.out _).mono ?_; rintro e w2 ⟨rfl, b2⟩; have B2 := Hb.mk (Below.on (B := w.heap.size) (a := w) (by repeat (first | exact B1.out | refine Below.drews ?_ | refine Below.drew ?_ | refine Below.alloc ?_ (by have hq_ := B1.out.size; first | omega | (simp <;> omega)) _ | refine Below.setCell ?_ (by have hq_ := B1.out.size; first | omega | (simp <;> omega)) _)) b2 (by have hq_ := B1.out.size; first | omega | (simp <;> omega))); have c1 := Below.keep b2 (Below.keep q1.out (p := ⟨w.heap.size, 0, none⟩) (v := .float .f32 a) (by simp)); have c2 := Below.keep b2 (Below.keep q1.out (p := ⟨w.heap.size, 1, none⟩) (v := .float .f32 b) (by simp)); clear b2)
    | (go_at_call 15; clear tk_b; refine (toPlace_any _ _ _).mono ?_; rintro e w3 ⟨rfl, b3⟩; have B3 := Hb.mk (Below.on (B := w.heap.size) (a := w) (by repeat (first | exact B2.out | refine Below.drews ?_ | refine Below.drew ?_ | refine Below.alloc ?_ (by have hq_ := B2.out.size; first | omega | (simp <;> omega)) _ | refine Below.setCell ?_ (by have hq_ := B2.out.size; first | omega | (simp <;> omega)) _)) b3 (by have hq_ := B2.out.size; first | omega | (simp <;> omega))); clear b3)
    | (go_at_call 16; refine (KI.out _).mono ?_; rintro e w4 ⟨rfl, b4⟩; have B4 := Hb.mk (Below.on (B := w.heap.size) (a := w) (by repeat (first | exact B3.out | refine Below.drews ?_ | refine Below.drew ?_ | refine Below.alloc ?_ (by have hq_ := B3.out.size; first | omega | (simp <;> omega)) _ | refine Below.setCell ?_ (by have hq_ := B3.out.size; first | omega | (simp <;> omega)) _)) b4 (by have hq_ := B3.out.size; first | omega | (simp <;> omega))); clear b4))
  go_ret
  exact ⟨rfl, (by repeat (first | exact B4.out | refine Below.drews ?_ | refine Below.drew ?_ | refine Below.alloc ?_ (by have hq_ := B4.out.size; first | omega | (simp <;> omega)) _ | refine Below.setCell ?_ (by have hq_ := B4.out.size; first | omega | (simp <;> omega)) _))⟩
end Go.Proofs.Ytgbcgckkjhgchab
