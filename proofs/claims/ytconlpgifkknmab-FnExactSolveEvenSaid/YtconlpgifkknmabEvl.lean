/-
  Lists of floats that are told: compared and marked; the exact law of SolveEven. No premise beyond those named.
-/
import Derived.Test.YtconlpgifkknmabEvj
import Derived.Test.YtconlpgifkknmabRsl
namespace Go.Proofs.Ytconlpgifkknmab
open Go Go.RowKit
set_option maxRecDepth 100000

set_option maxHeartbeats 4000000 in
theorem eqFT_any {g1 g2 n k1 k2 : Nat} {f : Nat → Nat} (w : World) (h1 : Told w g1 n f) (h2 : Told w g2 n f) (hl : n ≤ 1048576) : Calls Try.prog 27 #[.slice (some ⟨g1, 0, none⟩) n k1, .slice (some ⟨g2, 0, none⟩) n k2] w (RB true w) := by
  have H1 := Hf.mk h1
  have H2 := Hf.mk h2
  clear h1 h2
  go_enter Try.func27, Try.ntmps27
  go_wp2
  go_loopw [5] (fun i wr => ∃ m : Nat, m ≤ n ∧ i = .int .i64 m ∧ Drew w wr) (fun i _ => n - (intOf i).toNat)
  case atStart => exact ⟨0, by omega, rfl, (by repeat (first | exact Drew.refl _ | refine Drew.more ?_))⟩
  case round =>
    obtain ⟨m, hm, rfl, q, rfl⟩ := hrel
    by_cases hlt : m < n
    · obtain ⟨r1, c1, f1⟩ := H1.out m hlt
      obtain ⟨r2, c2, f2⟩ := H2.out m hlt
      have hD1 : ∀ (W : World) (x : Addr), W.drew.cell? x = W.cell? x := fun _ _ => rfl
      have hD2 : ∀ (W : World) (n : Nat) (x : Addr), (W.drewN n).cell? x = W.cell? x := fun _ _ _ => rfl
      obtain ⟨R1, N1, hcv1, hfl1⟩ := wide_all Try.prog (src := 41) (dst := 46) (by kernel_rfl) Try.underlying46 f1
      obtain ⟨R2, N2, hcv2, hfl2⟩ := wide_all Try.prog (src := 41) (dst := 46) (by kernel_rfl) Try.underlying46 f2
      have HF1 := Hf.mk hfl1
      have HF2 := Hf.mk hfl2
      clear hfl1 hfl2
      go_wp2
      go_region_with (go_at_call 28; refine (sameFloat_any (HF1.out _) (HF2.out _) _).mono ?_; rintro e w' ⟨rfl, n, rfl⟩)
      all_goals go_wp2
      all_goals go_roundw
      all_goals first | exact ⟨m + 1, by omega, i_ext2 (by omega), ⟨_, rfl⟩⟩ | (simp [intOf]; omega)
    · obtain rfl : m = n := by omega
      go_wp2
      go_ret
      exact RB.any rfl (by repeat (first | exact Drew.refl _ | refine Drew.more ?_))
theorem eqF_nil (w : World) : Calls Try.prog 27 #[.slice none 0 0, .slice none 0 0] w (RB true w) := by
  go_enter Try.func27, Try.ntmps27
  go_wp2
  go_loopw [5] (fun i wr => i = .int .i64 0 ∧ Drew w wr) (fun _ _ => 0)
  case atStart => exact ⟨rfl, (by repeat (first | exact Drew.refl _ | refine Drew.more ?_))⟩
  case round =>
    obtain ⟨rfl, q, rfl⟩ := hrel
    go_wp2
    go_ret
    exact RB.any rfl (by repeat (first | exact Drew.refl _ | refine Drew.more ?_))
def sqI (k : Int) (j : Nat) : Nat := floatOfInt .f32 (k + (j : Int))
set_option maxHeartbeats 4000000 in
theorem markF_any {g n cap base : Nat} {cur : List Value} {k : Int} (w : World) (ho : w.ownsRow base 41 1 (.slice (some ⟨g, 0, none⟩) n cap) n cur) (hl : n ≤ 1048576) (hk0 : 0 ≤ k) (hk1 : k ≤ 2097152) : Calls Try.prog 29 #[.slice (some ⟨g, 0, none⟩) n cap, .int .i64 k] w (fun e w' => e = .returned (.int .i64 (k + (n : Int))) ∧ Told w' g n (sqI k) ∧ w.grownBy w' (some g)) := by
  have HO := Hf.mk ho
  clear ho
  go_enter Try.func29, Try.ntmps29
  go_wp2
  go_loopw [5, 1] (fun i kk wr => ∃ (m : Nat) (cu : List Value), m ≤ n ∧ i = .int .i64 m ∧ kk = .int .i64 (k + (m : Int)) ∧ Hf (wr.ownsRow base 41 1 (.slice (some ⟨g, 0, none⟩) n cap) n cu) ∧ Hf (∀ j, j < m → cu[j]? = some (.float .f32 (sqI k j))) ∧ Hf (w.grownBy wr (some g))) (fun i _ _ => n - (intOf i).toNat)
  case atStart => exact ⟨0, _, by omega, rfl, i_ext2 (by omega), HO, ⟨fun j hj => absurd hj (Nat.not_lt_zero j)⟩, ⟨gb_refl _ _⟩⟩
  case round =>
    obtain ⟨m, cu, hm, rfl, rfl, hown, hcur, hgb⟩ := hrel
    by_cases hlt : m < n
    · have hlen : cu.length = n * 1 := hown.out.1
      obtain ⟨old0, hold0⟩ : ∃ old, cu[m]? = some old := ⟨_, List.getElem?_eq_getElem (by omega)⟩
      have d0 : wr.cell? ⟨g, m, none⟩ = some old0 := (hown.out.cellAt m (by omega)).trans hold0
      have z0 := hown.out.frozenAt m
      clear hold0
      go_wp2
      go_roundw
      case rel =>
        have hst := hown.out.stored m (.float .f32 (sqI k m))
        refine ⟨m + 1, _, by omega, i_ext2 (by omega), i_ext2 (by omega), ⟨hst.1⟩, ⟨fun j hj => ?_⟩, ⟨gb_trans hgb.out hst.2⟩⟩
        by_cases he : j = m
        · subst he; rw [List.getElem?_set_self (by omega)]
        · rw [List.getElem?_set_ne (by omega)]; exact hcur.out j (by omega)
      case measure => simp [intOf]; omega
    · obtain rfl : m = n := by omega
      go_wp2
      go_ret
      refine ⟨rfl, fun j hj => ⟨sqI k j, ?_, Fl.ofInt _ _⟩, hgb.out⟩
      rw [hown.out.cellAt j (by omega)]
      exact hcur.out j hj
theorem markF_nil {k : Int} (w : World) : Calls Try.prog 29 #[.slice none 0 0, .int .i64 k] w (RI .i64 k w) := by
  go_enter Try.func29, Try.ntmps29
  go_wp2
  go_loopw [5, 1] (fun i kk wr => i = .int .i64 0 ∧ kk = .int .i64 k ∧ Drew w wr) (fun _ _ _ => 0)
  case atStart => exact ⟨rfl, rfl, (by repeat (first | exact Drew.refl _ | refine Drew.more ?_))⟩
  case round =>
    obtain ⟨rfl, rfl, q, rfl⟩ := hrel
    go_wp2
    go_ret
    exact RI.any rfl (by repeat (first | exact Drew.refl _ | refine Drew.more ?_))
theorem heldF_nil {k : Int} (w : World) : Calls Try.prog 30 #[.slice none 0 0, .int .i64 k] w (RI .i64 k w) := by
  go_enter Try.func30, Try.ntmps30
  go_wp2
  go_loopw [5, 1] (fun i kk wr => i = .int .i64 0 ∧ kk = .int .i64 k ∧ Drew w wr) (fun _ _ _ => 0)
  case atStart => exact ⟨rfl, rfl, (by repeat (first | exact Drew.refl _ | refine Drew.more ?_))⟩
  case round =>
    obtain ⟨rfl, rfl, q, rfl⟩ := hrel
    go_wp2
    go_ret
    exact RI.any rfl (by repeat (first | exact Drew.refl _ | refine Drew.more ?_))
set_option maxHeartbeats 4000000 in
theorem heldF_any {g n cap : Nat} {k : Int} (w : World) (hr : Told w g n (sqI k)) (hl : n ≤ 1048576) (hk0 : 0 ≤ k) (hk1 : k ≤ 2097152) : Calls Try.prog 30 #[.slice (some ⟨g, 0, none⟩) n cap, .int .i64 k] w (RI .i64 (k + (n : Int)) w) := by
  have HR := Hf.mk hr
  clear hr
  go_enter Try.func30, Try.ntmps30
  go_wp2
  go_loopw [5, 1] (fun i kk wr => ∃ m : Nat, m ≤ n ∧ i = .int .i64 m ∧ kk = .int .i64 (k + (m : Int)) ∧ Drew w wr) (fun i _ _ => n - (intOf i).toNat)
  case atStart => exact ⟨0, by omega, rfl, i_ext2 (by omega), (by repeat (first | exact Drew.refl _ | refine Drew.more ?_))⟩
  case round =>
    obtain ⟨m, hm, rfl, rfl, q, rfl⟩ := hrel
    by_cases hlt : m < n
    · obtain ⟨r, hc, hf⟩ := HR.out m hlt
      obtain rfl : sqI k m = r := (hf.word (nearest_notN .f32 _)).symm
      have hs := order_self (k := .f32) (x := sqI k m) (nearest_notN .f32 _)
      unfold sqI at hc hs
      clear hf
      go_wp2
      go_roundw
      case rel => exact ⟨m + 1, by omega, i_ext2 (by omega), i_ext2 (by omega), (by repeat (first | exact Drew.refl _ | refine Drew.more ?_))⟩
      case measure => simp [intOf]; omega
    · obtain rfl : m = n := by omega
      go_wp2
      go_ret
      exact RI.any rfl (by repeat (first | exact Drew.refl _ | refine Drew.more ?_))

set_option maxHeartbeats 8000000 in
theorem law_Solve_no {a b : Option Addr} {cap cap2 : Nat} {xs bs : List Nat} (w : World) (hr : FRow w a xs) (hw : Wf xs) (hr2 : FRow w b bs) (hw2 : Wf bs) (hl : xs.length ≤ 1048576) (hl2 : bs.length ≤ 1048576)
    (hs : ∀ ga gb k1 k2 W, FRow W (some ⟨ga, 0, none⟩) xs → FRow W (some ⟨gb, 0, none⟩) bs → Calls Try.prog 31 #[.slice (some ⟨ga, 0, none⟩) xs.length k1, .slice (some ⟨gb, 0, none⟩) bs.length k2] W (RS (.tuple #[.slice none 0 0, .bool false]) W))
    (hi : ∀ ga gb k1 k2 W, FRow W (some ⟨ga, 0, none⟩) xs → FRow W (some ⟨gb, 0, none⟩) bs → Calls Try.prog 33 #[.slice (some ⟨ga, 0, none⟩) xs.length k1, .slice (some ⟨gb, 0, none⟩) bs.length k2] W (RS (.tuple #[.slice none 0 0, .bool false]) W)) :
    Calls Try.prog 8 #[.slice a xs.length cap, .slice b bs.length cap2] w (RS (.bool true) w) := by
  have HRa := Hf.mk hr
  have HRb := Hf.mk hr2
  have HW := Hf.mk hw
  have HW2 := Hf.mk hw2
  have B0 := Hb.mk (Below.refl w.heap.size w)
  have HS := Hf.mk hs
  have HI := Hf.mk hi
  clear hr hr2 hw hw2 hs hi
  go_enter Try.func8, Try.ntmps8
  have tk_a : True := trivial; have tk_b : True := trivial; have tk_c : True := trivial; have tk_d : True := trivial; have tk_e : True := trivial; have tk_f : True := trivial; have tk_g : True := trivial; have tk_h : True := trivial; have tk_s : True := trivial; have tk_i : True := trivial; have tk_j : True := trivial; have tk_m : True := trivial; have tk_n : True := trivial; have tk_e1 : True := trivial; have tk_e2 : True := trivial
  go_wp2_with (first
    | (go_at_call 32; clear tk_a; refine (toF_any _ HRa.out hl).mono ?_; rintro e w1 ⟨rfl, o1, b1⟩; have A1 := Hf.mk (frow_own rfl o1); have B1 := Hb.mk (Below.on (B := w.heap.size) (a := w) (by repeat (first | exact B0.out | refine Below.drews ?_ | refine Below.drew ?_ | refine Below.alloc ?_ (by have hq_ := B0.out.size; first | omega | (simp <;> omega)) _ | refine Below.setCell ?_ (by have hq_ := B0.out.size; first | omega | (simp <;> omega)) _)) b1 (by have hq_ := B0.out.size; first | omega | (simp <;> omega))); clear o1 b1)
    | (go_at_call 32; clear tk_b; refine (toF_any _ (HRb.out.below B1.out) hl2).mono ?_; rintro e w2 ⟨rfl, o2, b2⟩; have A2 := Hf.mk (frow_own rfl o2); have A1' := Hf.mk (A1.out.below b2); have B2 := Hb.mk (Below.on (B := w.heap.size) (a := w) (by repeat (first | exact B1.out | refine Below.drews ?_ | refine Below.drew ?_ | refine Below.alloc ?_ (by have hq_ := B1.out.size; first | omega | (simp <;> omega)) _ | refine Below.setCell ?_ (by have hq_ := B1.out.size; first | omega | (simp <;> omega)) _)) b2 (by have hq_ := B1.out.size; first | omega | (simp <;> omega))); clear o2 b2)
    | (go_at_call 31; clear tk_s; refine (HS.out _ _ _ _ _ A1'.out A2.out).mono ?_; rintro e w3 ⟨rfl, b3⟩; have B3 := Hb.mk (Below.on (B := w.heap.size) (a := w) (by repeat (first | exact B2.out | refine Below.drews ?_ | refine Below.drew ?_ | refine Below.alloc ?_ (by have hq_ := B2.out.size; first | omega | (simp <;> omega)) _ | refine Below.setCell ?_ (by have hq_ := B2.out.size; first | omega | (simp <;> omega)) _)) b3 (by have hq_ := B2.out.size; first | omega | (simp <;> omega))); have S3 := B3.out.size; clear b3)
    | (go_at_call 32; clear tk_c; refine (toF_any _ (HRa.out.below B3.out) hl).mono ?_; rintro e w4 ⟨rfl, o4, b4⟩; have X4 := Hf.mk o4; have B4 := Hb.mk (Below.on (B := w.heap.size) (a := w) (by repeat (first | exact B3.out | refine Below.drews ?_ | refine Below.drew ?_ | refine Below.alloc ?_ (by have hq_ := B3.out.size; first | omega | (simp <;> omega)) _ | refine Below.setCell ?_ (by have hq_ := B3.out.size; first | omega | (simp <;> omega)) _)) b4 (by have hq_ := B3.out.size; first | omega | (simp <;> omega))); have S4 := (own_lt o4).2; clear o4 b4)
    | (go_at_call 32; clear tk_d; refine (toF_any _ (HRb.out.below B4.out) hl2).mono ?_; rintro e w5 ⟨rfl, o5, b5⟩; have Y5 := Hf.mk o5; have X5 := Hf.mk (iown_below X4.out b5); have B5 := Hb.mk (Below.on (B := w.heap.size) (a := w) (by repeat (first | exact B4.out | refine Below.drews ?_ | refine Below.drew ?_ | refine Below.alloc ?_ (by have hq_ := B4.out.size; first | omega | (simp <;> omega)) _ | refine Below.setCell ?_ (by have hq_ := B4.out.size; first | omega | (simp <;> omega)) _)) b5 (by have hq_ := B4.out.size; first | omega | (simp <;> omega))); have S5 := (own_lt o5).2; clear o5 b5)
    | (go_at_call 33; clear tk_i; refine (HI.out _ _ _ _ _ (frow_own rfl X5.out) (frow_own rfl Y5.out)).mono ?_; rintro e w6 ⟨rfl, b6⟩; have X6 := Hf.mk (iown_below X5.out b6); have Y6 := Hf.mk (iown_below Y5.out b6); have B6 := Hb.mk (Below.on (B := w.heap.size) (a := w) (by repeat (first | exact B5.out | refine Below.drews ?_ | refine Below.drew ?_ | refine Below.alloc ?_ (by have hq_ := B5.out.size; first | omega | (simp <;> omega)) _ | refine Below.setCell ?_ (by have hq_ := B5.out.size; first | omega | (simp <;> omega)) _)) b6 (by have hq_ := B5.out.size; first | omega | (simp <;> omega))); clear b6)
    | (go_at_call 27; have _tk := R7; clear tk_e1; refine (eqFT_any _ (Told.of (frow_own rfl X7.out) HW.out) (Told.of R7.out HW.out) hl).mono ?_; rintro e w' ⟨rfl, q7, rfl⟩)
    | (go_at_call 27; have _tk := R8; clear tk_e2; refine (eqFT_any _ (Told.of (frow_own rfl Y8.out) HW2.out) (Told.of R8.out HW2.out) hl2).mono ?_; rintro e w' ⟨rfl, q8, rfl⟩)
    | (go_at_call 27; (with_reducible refine (eqF_nil _).mono ?_); rintro e w' ⟨rfl, ne, rfl⟩)
    | (go_at_call 32; clear tk_e; refine (toF_any _ ((HRa.out.below B6.out).drew _) hl).mono ?_; rintro e w7 ⟨rfl, o7, b7⟩; have R7 := Hf.mk (frow_own rfl o7); have X7 := Hf.mk (iown_below (own_dr X6.out _) b7); have Y7 := Hf.mk (iown_below (own_dr Y6.out _) b7); have B7 := Hb.mk (Below.on (B := w.heap.size) (a := w) (by repeat (first | exact B6.out | refine Below.drews ?_ | refine Below.drew ?_ | refine Below.alloc ?_ (by have hq_ := B6.out.size; first | omega | (simp <;> omega)) _ | refine Below.setCell ?_ (by have hq_ := B6.out.size; first | omega | (simp <;> omega)) _)) b7 (by have hq_ := B6.out.size; first | omega | (simp <;> omega))); clear o7 b7)
    | (go_at_call 32; clear tk_f; refine (toF_any _ ((HRb.out.below B7.out).drew _) hl2).mono ?_; rintro e w8 ⟨rfl, o8, b8⟩; have R8 := Hf.mk (frow_own rfl o8); have X8 := Hf.mk (iown_below (own_dr X7.out _) b8); have Y8 := Hf.mk (iown_below (own_dr Y7.out _) b8); have B8 := Hb.mk (Below.on (B := w.heap.size) (a := w) (by repeat (first | exact B7.out | refine Below.drews ?_ | refine Below.drew ?_ | refine Below.alloc ?_ (by have hq_ := B7.out.size; first | omega | (simp <;> omega)) _ | refine Below.setCell ?_ (by have hq_ := B7.out.size; first | omega | (simp <;> omega)) _)) b8 (by have hq_ := B7.out.size; first | omega | (simp <;> omega))); clear o8 b8)
    | (go_at_call 29; clear tk_m; refine (markF_any _ (own_dr X8.out _) hl (by omega) (by omega)).mono ?_; rintro e w9 ⟨rfl, _, g9⟩; have Y9 := Hf.mk (own_gb (own_dr Y8.out _) g9 (by first | omega | (simp; omega))); have B9 := Hb.mk (below_gb (Below.drews B8.out) g9 (Below.drews B8.out).size (by first | omega | (simp; omega))); clear g9)
    | (go_at_call 29; clear tk_n; refine (markF_any _ Y9.out hl2 (by omega) (by omega)).mono ?_; rintro e w10 ⟨rfl, _, g10⟩; have B10 := Hb.mk (below_gb B9.out g10 B9.out.size (by first | omega | (simp; omega))); clear g10)
    | (go_at_call 29; (with_reducible refine (markF_nil _).mono ?_); rintro e w' ⟨rfl, nm, rfl⟩)
    | (go_at_call 30; (with_reducible refine (heldF_nil _).mono ?_); rintro e w' ⟨rfl, nh, rfl⟩)
    | (go_at_call 32; clear tk_g; refine (toF_any _ ((HRa.out.below B10.out).drew _) hl).mono ?_; rintro e w11 ⟨rfl, o11, b11⟩; have A11 := Hf.mk (frow_own rfl o11); have B11 := Hb.mk (Below.on (B := w.heap.size) (a := w) (by repeat (first | exact B10.out | refine Below.drews ?_ | refine Below.drew ?_ | refine Below.alloc ?_ (by have hq_ := B10.out.size; first | omega | (simp <;> omega)) _ | refine Below.setCell ?_ (by have hq_ := B10.out.size; first | omega | (simp <;> omega)) _)) b11 (by have hq_ := B10.out.size; first | omega | (simp <;> omega))); clear o11 b11)
    | (go_at_call 32; clear tk_h; refine (toF_any _ (HRb.out.below B11.out) hl2).mono ?_; rintro e w12 ⟨rfl, o12, b12⟩; have A12 := Hf.mk (A11.out.below b12); have C12 := Hf.mk (frow_own rfl o12); have B12 := Hb.mk (Below.on (B := w.heap.size) (a := w) (by repeat (first | exact B11.out | refine Below.drews ?_ | refine Below.drew ?_ | refine Below.alloc ?_ (by have hq_ := B11.out.size; first | omega | (simp <;> omega)) _ | refine Below.setCell ?_ (by have hq_ := B11.out.size; first | omega | (simp <;> omega)) _)) b12 (by have hq_ := B11.out.size; first | omega | (simp <;> omega))); clear o12 b12)
    | (go_at_call 33; clear tk_j; refine (HI.out _ _ _ _ _ A12.out C12.out).mono ?_; rintro e w13 ⟨rfl, b13⟩; have B13 := Hb.mk (Below.on (B := w.heap.size) (a := w) (by repeat (first | exact B12.out | refine Below.drews ?_ | refine Below.drew ?_ | refine Below.alloc ?_ (by have hq_ := B12.out.size; first | omega | (simp <;> omega)) _ | refine Below.setCell ?_ (by have hq_ := B12.out.size; first | omega | (simp <;> omega)) _)) b13 (by have hq_ := B12.out.size; first | omega | (simp <;> omega))); clear b13))
  go_ret
  exact ⟨rfl, (by repeat (first | exact Below.refl _ _ | exact B13.out | refine Below.drews ?_ | refine Below.drew ?_ | refine Below.alloc ?_ (by first | omega | (simp <;> omega)) _ | refine Below.setCell ?_ (by first | omega | (simp <;> omega)) _))⟩
theorem ne_som {a b : Nat} (h : a ≠ b) : some a ≠ some b := fun e => h (Option.some.inj e)
set_option maxHeartbeats 8000000 in
theorem law_Solve_yes {a b : Option Addr} {cap cap2 n : Nat} {xs bs : List Nat} {X : Nat → Nat} (w : World) (hr : FRow w a xs) (hw : Wf xs) (hr2 : FRow w b bs) (hw2 : Wf bs) (hl : xs.length ≤ 1048576) (hl2 : bs.length ≤ 1048576) (hln : n ≤ 1048576)
    (hs : ∀ ga gb k1 k2 W, FRow W (some ⟨ga, 0, none⟩) xs → FRow W (some ⟨gb, 0, none⟩) bs → Calls Try.prog 31 #[.slice (some ⟨ga, 0, none⟩) xs.length k1, .slice (some ⟨gb, 0, none⟩) bs.length k2] W (RE 41 true n X W))
    (hi : ∀ ga gb k1 k2 W, FRow W (some ⟨ga, 0, none⟩) xs → FRow W (some ⟨gb, 0, none⟩) bs → Calls Try.prog 33 #[.slice (some ⟨ga, 0, none⟩) xs.length k1, .slice (some ⟨gb, 0, none⟩) bs.length k2] W (RE 41 true n X W)) :
    Calls Try.prog 8 #[.slice a xs.length cap, .slice b bs.length cap2] w (RS (.bool true) w) := by
  have HRa := Hf.mk hr
  have HRb := Hf.mk hr2
  have HW := Hf.mk hw
  have HW2 := Hf.mk hw2
  have B0 := Hb.mk (Below.refl w.heap.size w)
  have HS := Hf.mk hs
  have HI := Hf.mk hi
  clear hr hr2 hw hw2 hs hi
  go_enter Try.func8, Try.ntmps8
  have tk_a : True := trivial; have tk_b : True := trivial; have tk_c : True := trivial; have tk_d : True := trivial; have tk_e : True := trivial; have tk_f : True := trivial; have tk_g : True := trivial; have tk_h : True := trivial; have tk_s : True := trivial; have tk_i : True := trivial; have tk_j : True := trivial; have tk_m : True := trivial; have tk_n : True := trivial; have tk_o : True := trivial; have tk_e0 : True := trivial; have tk_e1 : True := trivial; have tk_e2 : True := trivial; have tk_e3 : True := trivial; have tk_e4 : True := trivial; have tk_h1 : True := trivial; have tk_h2 : True := trivial
  go_wp2_with (first
    | (go_at_call 32; clear tk_a; refine (toF_any _ HRa.out hl).mono ?_; rintro e w1 ⟨rfl, o1, b1⟩; have A1 := Hf.mk (frow_own rfl o1); have B1 := Hb.mk (Below.on (B := w.heap.size) (a := w) (by repeat (first | exact B0.out | refine Below.drews ?_ | refine Below.drew ?_ | refine Below.alloc ?_ (by have hq_ := B0.out.size; first | omega | (simp <;> omega)) _ | refine Below.setCell ?_ (by have hq_ := B0.out.size; first | omega | (simp <;> omega)) _)) b1 (by have hq_ := B0.out.size; first | omega | (simp <;> omega))); clear o1 b1)
    | (go_at_call 32; clear tk_b; refine (toF_any _ (HRb.out.below B1.out) hl2).mono ?_; rintro e w2 ⟨rfl, o2, b2⟩; have A2 := Hf.mk (frow_own rfl o2); have A1' := Hf.mk (A1.out.below b2); have B2 := Hb.mk (Below.on (B := w.heap.size) (a := w) (by repeat (first | exact B1.out | refine Below.drews ?_ | refine Below.drew ?_ | refine Below.alloc ?_ (by have hq_ := B1.out.size; first | omega | (simp <;> omega)) _ | refine Below.setCell ?_ (by have hq_ := B1.out.size; first | omega | (simp <;> omega)) _)) b2 (by have hq_ := B1.out.size; first | omega | (simp <;> omega))); clear o2 b2)
    | (go_at_call 31; clear tk_s; refine (HS.out _ _ _ _ _ A1'.out A2.out).mono ?_; intro e w3 hre; obtain ⟨⟨gw, cw, rfl, ow⟩, b3⟩ := hre.t; have W3 := Hf.mk ow; have B3 := Hb.mk (Below.on (B := w.heap.size) (a := w) (by repeat (first | exact B2.out | refine Below.drews ?_ | refine Below.drew ?_ | refine Below.alloc ?_ (by have hq_ := B2.out.size; first | omega | (simp <;> omega)) _ | refine Below.setCell ?_ (by have hq_ := B2.out.size; first | omega | (simp <;> omega)) _)) b3 (by have hq_ := B2.out.size; first | omega | (simp <;> omega))); have S2 := B2.out.size; have S3 := ow.lt; clear b3 ow hre)
    | (go_at_call 32; clear tk_c; refine (toF_any _ (HRa.out.below B3.out) hl).mono ?_; rintro e w4 ⟨rfl, o4, b4⟩; have X4 := Hf.mk o4; have W4 := Hf.mk (Own.below W3.out b4); have B4 := Hb.mk (Below.on (B := w.heap.size) (a := w) (by repeat (first | exact B3.out | refine Below.drews ?_ | refine Below.drew ?_ | refine Below.alloc ?_ (by have hq_ := B3.out.size; first | omega | (simp <;> omega)) _ | refine Below.setCell ?_ (by have hq_ := B3.out.size; first | omega | (simp <;> omega)) _)) b4 (by have hq_ := B3.out.size; first | omega | (simp <;> omega))); have S4 := (own_lt o4).2; have T3 := B3.out.size; clear o4 b4)
    | (go_at_call 32; clear tk_d; refine (toF_any _ (HRb.out.below B4.out) hl2).mono ?_; rintro e w5 ⟨rfl, o5, b5⟩; have Y5 := Hf.mk o5; have X5 := Hf.mk (iown_below X4.out b5); have W5 := Hf.mk (Own.below W4.out b5); have B5 := Hb.mk (Below.on (B := w.heap.size) (a := w) (by repeat (first | exact B4.out | refine Below.drews ?_ | refine Below.drew ?_ | refine Below.alloc ?_ (by have hq_ := B4.out.size; first | omega | (simp <;> omega)) _ | refine Below.setCell ?_ (by have hq_ := B4.out.size; first | omega | (simp <;> omega)) _)) b5 (by have hq_ := B4.out.size; first | omega | (simp <;> omega))); have S5 := (own_lt o5).2; clear o5 b5)
    | (go_at_call 33; clear tk_i; refine (HI.out _ _ _ _ _ (frow_own rfl X5.out) (frow_own rfl Y5.out)).mono ?_; intro e w6 hre; obtain ⟨⟨gg, cg, rfl, og⟩, b6⟩ := hre.t; have G6 := Hf.mk og; have S6 := og.lt; have X6 := Hf.mk (iown_below X5.out b6); have Y6 := Hf.mk (iown_below Y5.out b6); have W6 := Hf.mk (Own.below W5.out b6); have B6 := Hb.mk (Below.on (B := w.heap.size) (a := w) (by repeat (first | exact B5.out | refine Below.drews ?_ | refine Below.drew ?_ | refine Below.alloc ?_ (by have hq_ := B5.out.size; first | omega | (simp <;> omega)) _ | refine Below.setCell ?_ (by have hq_ := B5.out.size; first | omega | (simp <;> omega)) _)) b6 (by have hq_ := B5.out.size; first | omega | (simp <;> omega))); clear b6 og hre)
    | (go_at_call 27; clear tk_e0; refine (eqFT_any _ G6.out.told W6.out.told hln).mono ?_; rintro e w' ⟨rfl, q6, rfl⟩)
    | (go_at_call 32; clear tk_e; refine (toF_any _ ((HRa.out.below B6.out).drew _) hl).mono ?_; rintro e w7 ⟨rfl, o7, b7⟩; have R7 := Hf.mk (frow_own rfl o7); have X7 := Hf.mk (iown_below (own_dr X6.out _) b7); have Y7 := Hf.mk (iown_below (own_dr Y6.out _) b7); have W7 := Hf.mk (Own.below (W6.out.drews _) b7); have G7 := Hf.mk (Own.below (G6.out.drews _) b7); have B7 := Hb.mk (Below.on (B := w.heap.size) (a := w) (by repeat (first | exact B6.out | refine Below.drews ?_ | refine Below.drew ?_ | refine Below.alloc ?_ (by have hq_ := B6.out.size; first | omega | (simp <;> omega)) _ | refine Below.setCell ?_ (by have hq_ := B6.out.size; first | omega | (simp <;> omega)) _)) b7 (by have hq_ := B6.out.size; first | omega | (simp <;> omega))); clear o7 b7)
    | (go_at_call 27; clear tk_e1; refine (eqFT_any _ (Told.of (frow_own rfl X7.out) HW.out) (Told.of R7.out HW.out) hl).mono ?_; rintro e w' ⟨rfl, q7, rfl⟩)
    | (go_at_call 32; clear tk_f; refine (toF_any _ ((HRb.out.below B7.out).drew _) hl2).mono ?_; rintro e w8 ⟨rfl, o8, b8⟩; have R8 := Hf.mk (frow_own rfl o8); have X8 := Hf.mk (iown_below (own_dr X7.out _) b8); have Y8 := Hf.mk (iown_below (own_dr Y7.out _) b8); have W8 := Hf.mk (Own.below (W7.out.drews _) b8); have G8 := Hf.mk (Own.below (G7.out.drews _) b8); have B8 := Hb.mk (Below.on (B := w.heap.size) (a := w) (by repeat (first | exact B7.out | refine Below.drews ?_ | refine Below.drew ?_ | refine Below.alloc ?_ (by have hq_ := B7.out.size; first | omega | (simp <;> omega)) _ | refine Below.setCell ?_ (by have hq_ := B7.out.size; first | omega | (simp <;> omega)) _)) b8 (by have hq_ := B7.out.size; first | omega | (simp <;> omega))); clear o8 b8)
    | (go_at_call 27; clear tk_e2; refine (eqFT_any _ (Told.of (frow_own rfl Y8.out) HW2.out) (Told.of R8.out HW2.out) hl2).mono ?_; rintro e w' ⟨rfl, q8, rfl⟩)
    | (go_at_call 29; clear tk_m; refine (markF_any _ (own_dr X8.out _) hl (by omega) (by omega)).mono ?_; rintro e w9 ⟨rfl, _, g9⟩; have Y9 := Hf.mk (own_gb (own_dr Y8.out _) g9 (by first | omega | (simp; omega))); have W9 := Hf.mk ((W8.out.drews _).gb g9 (ne_som (by first | omega | (simp; omega)))); have G9 := Hf.mk ((G8.out.drews _).gb g9 (ne_som (by first | omega | (simp; omega)))); have B9 := Hb.mk (below_gb (Below.drews B8.out) g9 (Below.drews B8.out).size (by first | omega | (simp; omega))); clear g9)
    | (go_at_call 29; clear tk_n; refine (markF_any _ Y9.out hl2 (by omega) (by omega)).mono ?_; rintro e w10 ⟨rfl, _, g10⟩; have W10 := Hf.mk (W9.out.gb g10 (ne_som (by first | omega | (simp; omega)))); have G10 := Hf.mk (G9.out.gb g10 (ne_som (by first | omega | (simp; omega)))); have B10 := Hb.mk (below_gb B9.out g10 B9.out.size (by first | omega | (simp; omega))); clear g10)
    | (go_at_call 27; clear tk_e3; refine (eqFT_any _ G10.out.told W10.out.told hln).mono ?_; rintro e w' ⟨rfl, q10, rfl⟩)
    | (go_at_call 29; clear tk_o; obtain ⟨ys, oy, _⟩ := G10.out; refine (markF_any _ (own_dr oy _) hln (by omega) (by omega)).mono ?_; rintro e w11 ⟨rfl, t11, g11⟩; have W11 := Hf.mk ((W10.out.drews _).gb g11 (ne_som (by omega))); have Q11 := Hf.mk t11; have B11 := Hb.mk (below_gb (Below.drews B10.out) g11 (Below.drews B10.out).size (by omega)); clear g11 t11 oy)
    | (go_at_call 30; clear tk_h1; refine (heldF_any _ Q11.out hln (by omega) (by omega)).mono ?_; rintro e w' ⟨rfl, nh, rfl⟩)
    | (go_at_call 32; clear tk_g; refine (toF_any _ ((HRa.out.below B11.out).drew _) hl).mono ?_; rintro e w12 ⟨rfl, o12, b12⟩; have A12 := Hf.mk (frow_own rfl o12); have W12 := Hf.mk (Own.below (W11.out.drews _) b12); have Q12 := Hf.mk ((Q11.out.drew _).below b12); have B12 := Hb.mk (Below.on (B := w.heap.size) (a := w) (by repeat (first | exact B11.out | refine Below.drews ?_ | refine Below.drew ?_ | refine Below.alloc ?_ (by have hq_ := B11.out.size; first | omega | (simp <;> omega)) _ | refine Below.setCell ?_ (by have hq_ := B11.out.size; first | omega | (simp <;> omega)) _)) b12 (by have hq_ := B11.out.size; first | omega | (simp <;> omega))); clear o12 b12)
    | (go_at_call 32; clear tk_h; refine (toF_any _ (HRb.out.below B12.out) hl2).mono ?_; rintro e w13 ⟨rfl, o13, b13⟩; have A13 := Hf.mk (A12.out.below b13); have C13 := Hf.mk (frow_own rfl o13); have W13 := Hf.mk (Own.below W12.out b13); have Q13 := Hf.mk (Q12.out.below b13); have B13 := Hb.mk (Below.on (B := w.heap.size) (a := w) (by repeat (first | exact B12.out | refine Below.drews ?_ | refine Below.drew ?_ | refine Below.alloc ?_ (by have hq_ := B12.out.size; first | omega | (simp <;> omega)) _ | refine Below.setCell ?_ (by have hq_ := B12.out.size; first | omega | (simp <;> omega)) _)) b13 (by have hq_ := B12.out.size; first | omega | (simp <;> omega))); clear o13 b13)
    | (go_at_call 33; clear tk_j; refine (HI.out _ _ _ _ _ A13.out C13.out).mono ?_; intro e w14 hre; obtain ⟨⟨gh, ch, rfl, oh⟩, b14⟩ := hre.t; have H14 := Hf.mk oh; have W14 := Hf.mk (Own.below W13.out b14); have Q14 := Hf.mk (Q13.out.below b14); have B14 := Hb.mk (Below.on (B := w.heap.size) (a := w) (by repeat (first | exact B13.out | refine Below.drews ?_ | refine Below.drew ?_ | refine Below.alloc ?_ (by have hq_ := B13.out.size; first | omega | (simp <;> omega)) _ | refine Below.setCell ?_ (by have hq_ := B13.out.size; first | omega | (simp <;> omega)) _)) b14 (by have hq_ := B13.out.size; first | omega | (simp <;> omega))); clear b14 oh hre)
    | (go_at_call 27; clear tk_e4; refine (eqFT_any _ H14.out.told W14.out.told hln).mono ?_; rintro e w' ⟨rfl, q14, rfl⟩)
    | (go_at_call 30; clear tk_h2; refine (heldF_any _ (Q14.out.drew _) hln (by omega) (by omega)).mono ?_; rintro e w' ⟨rfl, nh2, rfl⟩))
  go_ret
  exact ⟨rfl, (by repeat (first | exact Below.refl _ _ | exact B14.out | refine Below.drews ?_ | refine Below.drew ?_ | refine Below.alloc ?_ (by first | omega | (simp <;> omega)) _ | refine Below.setCell ?_ (by first | omega | (simp <;> omega)) _))⟩
theorem law_SolveEven {a b : Option Addr} {cap cap2 : Nat} {xs bs : List Nat} (w : World) (hr : FRow w a xs) (hw : Wf xs) (hr2 : FRow w b bs) (hw2 : Wf bs) : Calls Try.prog 8 #[.slice a xs.length cap, .slice b bs.length cap2] w (fun e w' => e = .returned (.bool true) ∧ Below w.heap.size w w') := by
  by_cases hl : xs.length ≤ 1048576
  · by_cases hl2 : bs.length ≤ 1048576
    · cases hok : okIn xs bs
      · exact law_Solve_no w hr hw hr2 hw2 hl hl2
          (fun ga gb k1 k2 W h1 h2 => (sSolve_no W h1 hw h2 hw2 rfl rfl hl hl2 hok).mono fun e w' ⟨he, q, hq⟩ => ⟨he, by rw [hq]; exact Below.drews (Below.refl _ _)⟩)
          (fun ga gb k1 k2 W h1 h2 => (iSolve_no W h1 hw h2 hw2 rfl rfl hl hl2 hok).mono fun e w' ⟨he, q, hq⟩ => ⟨he, by rw [hq]; exact Below.drews (Below.refl _ _)⟩)
      · have h10 : bs.length ≤ 10 := by
          have h := hok
          unfold okIn at h
          rw [Bool.and_eq_true, decide_eq_true_iff] at h
          exact h.1.2.1
        obtain ⟨M, hM⟩ := rt_ex (sqF xs bs.length) bs.length h10
        obtain ⟨Y, hY⟩ := ys_ex (fun i => nrm .f32 (bs.getD i 0)) bs.length M h10
        obtain ⟨X, hX⟩ := xs_ex bs.length M Y h10
        cases hg : goodB (sqF xs bs.length) M bs.length && finB bs.length X
        · exact law_Solve_no w hr hw hr2 hw2 hl hl2
            (fun ga gb k1 k2 W h1 h2 => (sSolve_yes W h1 hw h2 hw2 rfl rfl hok hM hY hX).mono fun e w' h => by rw [hg] at h; exact h.f)
            (fun ga gb k1 k2 W h1 h2 => (iSolve_yes W h1 hw h2 hw2 rfl rfl hok hM hY hX).mono fun e w' h => by rw [hg] at h; exact h.f)
        · exact law_Solve_yes w hr hw hr2 hw2 hl hl2 (by omega)
            (fun ga gb k1 k2 W h1 h2 => (sSolve_yes W h1 hw h2 hw2 rfl rfl hok hM hY hX).mono fun e w' h => by rw [hg] at h; exact h)
            (fun ga gb k1 k2 W h1 h2 => (iSolve_yes W h1 hw h2 hw2 rfl rfl hok hM hY hX).mono fun e w' h => by rw [hg] at h; exact h)
    · clear hr hr2 hw hw2
      go_enter Try.func8, Try.ntmps8
      go_wp2
      go_ret
      exact ⟨rfl, (by repeat (first | exact Below.refl _ _ | with_reducible assumption | refine Below.drews ?_ | refine Below.drew ?_ | refine Below.alloc ?_ (by simp <;> omega) _ | refine Below.setCell ?_ (by simp <;> omega) _))⟩
  · clear hr hr2 hw hw2
    go_enter Try.func8, Try.ntmps8
    go_wp2
    go_ret
    exact ⟨rfl, (by repeat (first | exact Below.refl _ _ | with_reducible assumption | refine Below.drews ?_ | refine Below.drew ?_ | refine Below.alloc ?_ (by simp <;> omega) _ | refine Below.setCell ?_ (by simp <;> omega) _))⟩
end Go.Proofs.Ytconlpgifkknmab
