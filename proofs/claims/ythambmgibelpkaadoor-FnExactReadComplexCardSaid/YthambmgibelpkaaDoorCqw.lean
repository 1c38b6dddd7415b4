/-
Lists of complex numbers as a law compares, marks and looks at them: any capacity, empty ones too.
-/
import Derived.Test.YthambmgibelpkaaDoorLri
import Derived.Test.YthambmgibelpkaaDoorCou
namespace Go.Proofs.YthambmgibelpkaaDoor
open Go Go.RowKit
set_option maxRecDepth 100000

def cxs (X : List (Nat × Nat)) : List Value := X.map fun p => .complex .f32 p.1 p.2
theorem cxs_len (X : List (Nat × Nat)) : (cxs X).length = X.length := by simp [cxs]
/-- All parts are told by themselves. -/
def FlC (X : List (Nat × Nat)) : Prop := ∀ j, j < X.length → Fl .f32 (X.getD j (0, 0)).1 (X.getD j (0, 0)).1 ∧ Fl .f32 (X.getD j (0, 0)).2 (X.getD j (0, 0)).2
section
variable {P : Program}
theorem wide_part (w : World) {c x : Nat} (hx : Fl .f32 c x) : ∃ r n, (Conv.floatToFloat .f32 x .f64).run P w = .ok (.float .f64 r) (w.drewN n) ∧ Fl .f64 (fcv .f32 .f64 c) r := by
  have e : fcv .f32 .f64 c = fcv .f32 .f64 x := by rw [← hx.eq, fcv_nrm]
  have f := fits_wide x
  rw [e]
  unfold fcv
  unfold fits at f
  cases hr : FloatKind.f32.format.read x with
  | nan g fr =>
    have hrun : (Conv.floatToFloat .f32 x .f64).run P w = .ok (.float .f64 ((Question.nanConv .f64 x).cut (w.tape w.drawn (.nanConv .f64 x)))) (w.drewN 1) := by
      simp [Conv.floatToFloat, FloatKind.decode, hr, Question.forced, World.drewN]
    exact ⟨_, 1, hrun, Fl.ofN (answer64 _)⟩
  | infinity g =>
    refine ⟨FloatKind.f64.format.write (.infinity g), 0, ?_, Fl.not (write_notNaN _ _ rfl) (wf_write _ _)⟩
    simp [Conv.floatToFloat, FloatKind.decode, FloatKind.encode, hr, World.drewN]
  | number g m e =>
    rw [hr] at f
    dsimp only at f
    refine ⟨FloatKind.f64.format.write (.number g m e), 0, ?_, Fl.not (write_notNaN _ _ rfl) (wf_write _ _)⟩
    have f' : (FloatKind.f64.decode (FloatKind.f64.encode (.number g m e))).isInfinity = false := by simpa [FloatKind.decode, FloatKind.encode] using f
    simp [Conv.floatToFloat, FloatKind.decode, FloatKind.encode, hr, World.drewN] at f' ⊢
    simp [f']
theorem wide_cx (P : Program) {src dst : TypeId} {cr ci r i : Nat} (hs : (P.underlying src).isSome = true) (hd : P.underlying dst = some (.complex .f64)) (hr : Fl .f32 cr r) (hi : Fl .f32 ci i) :
    ∃ R I N : World → Nat, (∀ w, (convert src dst (.complex .f32 r i)).run P w = .ok (.complex .f64 (R w) (I w)) (w.drewN (N w))) ∧ (∀ w, Fl .f64 (fcv .f32 .f64 cr) (R w)) ∧ ∀ w, Fl .f64 (fcv .f32 .f64 ci) (I w) := by
  have h : ∀ w : World, ∃ t : Nat × Nat × Nat, (convert src dst (.complex .f32 r i)).run P w = .ok (.complex .f64 t.1 t.2.1) (w.drewN t.2.2) ∧ Fl .f64 (fcv .f32 .f64 cr) t.1 ∧ Fl .f64 (fcv .f32 .f64 ci) t.2.1 := by
    intro w
    obtain ⟨u, hs'⟩ := Option.isSome_iff_exists.1 hs
    obtain ⟨r', n1, h1, f1⟩ := wide_part (P := P) w hr
    obtain ⟨i', n2, h2, f2⟩ := wide_part (P := P) (w.drewN n1) hi
    refine ⟨(r', i', n1 + n2), ?_, f1, f2⟩
    dsimp only
    rw [← World.drewN_drewN]
    cases u <;> simp [convert, run_underlying hs', run_underlying hd, Conv.complexToComplex, h1, h2]
  exact ⟨fun w => (Classical.choose (h w)).1, fun w => (Classical.choose (h w)).2.1, fun w => (Classical.choose (h w)).2.2, fun w => (Classical.choose_spec (h w)).1, fun w => (Classical.choose_spec (h w)).2.1, fun w => (Classical.choose_spec (h w)).2.2⟩
end
set_option maxHeartbeats 1000000 in
theorem sameCx_any {cr ci a b c d : Nat} (h1 : Fl .f64 cr a) (h2 : Fl .f64 ci b) (h3 : Fl .f64 cr c) (h4 : Fl .f64 ci d) (w : World) : Calls Tryd.prog 12 #[.complex .f64 a b, .complex .f64 c d] w (RB true w) := by
  go_enter Tryd.func12, Tryd.ntmps12
  have tk_a : True := trivial; have tk_b : True := trivial
  go_wp2_with (first | (go_at_call 17; clear tk_a; refine (sameFloat_any h1 h3 _).mono ?_; rintro e w' ⟨rfl, n, rfl⟩) | (go_at_call 17; clear tk_b; refine (sameFloat_any h2 h4 _).mono ?_; rintro e w' ⟨rfl, n, rfl⟩))
  go_ret
  exact RB.any rfl (by repeat (first | exact Drew.refl _ | refine Drew.more ?_))
/-- complex numbers, told, in a block -/
def CRow (w : World) (g : Nat) (X : List (Nat × Nat)) : Prop := ∀ j, j < X.length → w.cell? ⟨g, j, none⟩ = some (.complex .f32 (X.getD j (0, 0)).1 (X.getD j (0, 0)).2)
theorem CRow.below {w w' : World} {g : Nat} {X : List (Nat × Nat)} (h : CRow w g X) (b : Below w.heap.size w w') : CRow w' g X := fun j hj => Below.keep b (h j hj)
theorem crow_own {w : World} {base g n cap : Nat} {e : TypeId} {X : List (Nat × Nat)} (h : w.ownsRow base e 1 (.slice (some ⟨g, 0, none⟩) n cap) n (cxs X)) : CRow w g X := by
  intro j hj
  have hl : n = X.length := by have := h.1; rw [cxs_len] at this; omega
  rw [h.cellAt j (by omega)]
  simp [cxs, List.getD, List.getElem?_eq_getElem hj]
theorem own_formC {w : World} {base n : Nat} {e : TypeId} {v : Value} {ys : List Value} (h : w.ownsRow base e 1 v n ys) : (v = .slice none 0 0 ∧ n = 0) ∨ ∃ g cap, v = .slice (some ⟨g, 0, none⟩) n cap := by
  rcases h.2 with h | ⟨g, cap, cur, hv, _⟩
  · exact .inl h
  · exact .inr ⟨g, cap, hv⟩
theorem eqC_zero {a b : Option Addr} {k1 k2 : Nat} (w : World) : Calls Tryd.prog 6 #[.slice a 0 k1, .slice b 0 k2] w (RB true w) := by
  go_enter Tryd.func6, Tryd.ntmps6
  go_wp2
  go_loopw [5] (fun i wr => i = .int .i64 0 ∧ Drew w wr) (fun _ _ => 0)
  case atStart => exact ⟨rfl, (by repeat (first | exact Drew.refl _ | refine Drew.more ?_))⟩
  case round =>
    obtain ⟨rfl, q, rfl⟩ := hrel
    go_wp2
    go_ret
    exact RB.any rfl (by repeat (first | exact Drew.refl _ | refine Drew.more ?_))
set_option maxHeartbeats 1000000 in
theorem eqC_any {g1 g2 n k1 k2 : Nat} {X : List (Nat × Nat)} (w : World) (h1 : CRow w g1 X) (h2 : CRow w g2 X) (hf : FlC X) (hn : n = X.length) (hl : n ≤ 1048576) : Calls Tryd.prog 6 #[.slice (some ⟨g1, 0, none⟩) n k1, .slice (some ⟨g2, 0, none⟩) n k2] w (RB true w) := by
  subst hn
  have H1 := Hf.mk h1
  have H2 := Hf.mk h2
  have HF := Hf.mk hf
  clear h1 h2 hf
  go_enter Tryd.func6, Tryd.ntmps6
  go_wp2
  go_loopw [5] (fun i wr => ∃ m : Nat, m ≤ X.length ∧ i = .int .i64 m ∧ Drew w wr) (fun i _ => X.length - (intOf i).toNat)
  case atStart => exact ⟨0, by omega, rfl, (by repeat (first | exact Drew.refl _ | refine Drew.more ?_))⟩
  case round =>
    obtain ⟨m, hm, rfl, q, rfl⟩ := hrel
    by_cases hlt : m < X.length
    · have c1 := H1.out m hlt
      have c2 := H2.out m hlt
      obtain ⟨f1, f2⟩ := HF.out m hlt
      have hD1 : ∀ (W : World) (x : Addr), W.drew.cell? x = W.cell? x := fun _ _ => rfl
      have hD2 : ∀ (W : World) (n : Nat) (x : Addr), (W.drewN n).cell? x = W.cell? x := fun _ _ _ => rfl
      generalize (X.getD m (0, 0)).1 = x1 at *
      generalize (X.getD m (0, 0)).2 = x2 at *
      obtain ⟨R, I, N, hcv, hfr, hfi⟩ := wide_cx Tryd.prog (src := 29) (dst := 32) (by kernel_rfl) Tryd.underlying32 f1 f2
      have HR := Hf.mk hfr
      have HI := Hf.mk hfi
      clear hfr hfi f1 f2
      go_wp2
      go_region_with (go_at_call 12; refine (sameCx_any (HR.out _) (HI.out _) (HR.out _) (HI.out _) _).mono ?_; rintro e w' ⟨rfl, n, rfl⟩)
      all_goals go_wp2
      all_goals go_roundw
      all_goals first | exact ⟨m + 1, by omega, i_ext2 (by omega), ⟨_, rfl⟩⟩ | (simp [intOf]; omega)
    · obtain rfl : m = X.length := by omega
      go_wp2
      go_ret
      exact RB.any rfl (by repeat (first | exact Drew.refl _ | refine Drew.more ?_))
theorem eqC_own {b1 b2 n m : Nat} {T1 T2 : TypeId} {v1 v2 : Value} {X : List (Nat × Nat)} (w : World) (h1 : w.ownsRow b1 T1 1 v1 n (cxs X)) (h2 : w.ownsRow b2 T2 1 v2 m (cxs X)) (hf : FlC X) (hl : X.length ≤ 1048576) : Calls Tryd.prog 6 #[v1, v2] w (RB true w) := by
  have e1 : n = X.length := by have := h1.1; rw [cxs_len] at this; omega
  have e2 : m = X.length := by have := h2.1; rw [cxs_len] at this; omega
  have hnm : n = m := by omega
  clear e2
  subst hnm
  rcases own_formC h1 with ⟨rfl, h0⟩ | ⟨g1, k1, rfl⟩
  · subst h0
    rcases own_formC h2 with ⟨rfl, _⟩ | ⟨g2, k2, rfl⟩
    · exact eqC_zero w
    · exact eqC_zero w
  · rcases own_formC h2 with ⟨rfl, h0⟩ | ⟨g2, k2, rfl⟩
    · subst h0
      exact eqC_zero w
    · exact eqC_any w (crow_own h1) (crow_own h2) hf e1 (by omega)
section
variable {P : Program}
theorem narrow_part (w : World) {x : Nat} (hN : isN .f64 x = false) (f : fits .f64 .f32 x = true) : (Conv.floatToFloat .f64 x .f32).run P w = .ok (.float .f32 (fcv .f64 .f32 x)) w := by
  unfold fcv
  unfold fits at f
  cases hr : FloatKind.f64.format.read x with
  | nan g fr => unfold isN at hN; rw [hr] at hN; cases hN
  | infinity g => simp [Conv.floatToFloat, FloatKind.decode, FloatKind.encode, hr]
  | number g m e =>
    rw [hr] at f
    dsimp only at f
    have f' : (FloatKind.f32.decode (FloatKind.f32.encode (.number g m e))).isInfinity = false := by simpa [FloatKind.decode, FloatKind.encode] using f
    simp [Conv.floatToFloat, FloatKind.decode, FloatKind.encode, hr] at f' ⊢
    simp [f']
theorem narrow_cx {src dst : TypeId} {r i : Nat} (hs : (P.underlying src).isSome = true) (hd : P.underlying dst = some (.complex .f32)) (h1 : isN .f64 r = false) (h2 : isN .f64 i = false) (f1 : fits .f64 .f32 r = true) (f2 : fits .f64 .f32 i = true) (w : World) :
    (convert src dst (.complex .f64 r i)).run P w = .ok (.complex .f32 (fcv .f64 .f32 r) (fcv .f64 .f32 i)) w := by
  obtain ⟨u, hs'⟩ := Option.isSome_iff_exists.1 hs
  have g1 := narrow_part (P := P) w h1 f1
  have g2 := narrow_part (P := P) w h2 f2
  cases u <;> simp [convert, run_underlying hs', run_underlying hd, Conv.complexToComplex, g1, g2]
end
theorem fits_small {k : Int} (h0 : 0 ≤ k) (h1 : k < 300) : fits .f64 .f32 (floatOfInt .f64 k) = true := by
  have : ∀ m : Nat, m < 300 → fits .f64 .f32 (floatOfInt .f64 (m : Int)) = true := by decide +kernel
  have h := this k.toNat (by omega)
  rwa [show ((k.toNat : Nat) : Int) = k by omega] at h
theorem small_notN {k : Int} (h0 : 0 ≤ k) (h1 : k < 300) : isN .f32 (fcv .f64 .f32 (floatOfInt .f64 k)) = false := by
  have : ∀ m : Nat, m < 300 → isN .f32 (fcv .f64 .f32 (floatOfInt .f64 (m : Int))) = false := by decide +kernel
  have h := this k.toNat (by omega)
  rwa [show ((k.toNat : Nat) : Int) = k by omega] at h
/-- the marks -/
def mkC (k : Int) (n : Nat) : List (Nat × Nat) := (List.range n).map fun (j : Nat) => (fcv .f64 .f32 (floatOfInt .f64 (k + (j : Int))), 1065353216)
theorem mkC_len (k : Int) (n : Nat) : (mkC k n).length = n := by simp [mkC]
theorem mkC_at {k : Int} {n j : Nat} (h : j < n) : (mkC k n).getD j (0, 0) = (fcv .f64 .f32 (floatOfInt .f64 (k + (j : Int))), 1065353216) := by simp [mkC, List.getD, h]
set_option maxHeartbeats 1000000 in
theorem markC_any {g n cap base : Nat} {cur : List Value} {k : Int} (w : World) (ho : w.ownsRow base 29 1 (.slice (some ⟨g, 0, none⟩) n cap) n cur) (hk0 : 0 ≤ k) (hk1 : k + (n : Int) ≤ 300) : Calls Tryd.prog 7 #[.slice (some ⟨g, 0, none⟩) n cap, .int .i64 k] w (fun e w' => e = .returned (.int .i64 (k + (n : Int))) ∧ CRow w' g (mkC k n) ∧ w.grownBy w' (some g)) := by
  have HO := Hf.mk ho
  clear ho
  have h1f : fits .f64 .f32 4607182418800017408 = true := by decide +kernel
  have h1n : isN .f64 4607182418800017408 = false := by decide +kernel
  have h1v : fcv .f64 .f32 4607182418800017408 = 1065353216 := by decide +kernel
  have HN := Hf.mk (fun (m : Nat) (h : m < n) w => narrow_cx (P := Tryd.prog) (src := 32) (dst := 29) (r := floatOfInt .f64 (k + (m : Int))) (by kernel_rfl) Tryd.underlying29 (nearest_notN .f64 _) h1n (fits_small (by omega) (by omega)) h1f w)
  rw [h1v] at HN
  clear h1f h1n h1v
  go_enter Tryd.func7, Tryd.ntmps7
  go_wp2
  go_loopw [5, 1] (fun i kk wr => ∃ (m : Nat) (cu : List Value), m ≤ n ∧ i = .int .i64 m ∧ kk = .int .i64 (k + (m : Int)) ∧ Hf (wr.ownsRow base 29 1 (.slice (some ⟨g, 0, none⟩) n cap) n cu) ∧ Hf (∀ j, j < m → cu[j]? = some (.complex .f32 (fcv .f64 .f32 (floatOfInt .f64 (k + (j : Int)))) 1065353216)) ∧ Hf (w.grownBy wr (some g))) (fun i _ _ => n - (intOf i).toNat)
  case atStart => exact ⟨0, _, by omega, rfl, i_ext2 (by omega), HO, ⟨fun j hj => absurd hj (Nat.not_lt_zero j)⟩, ⟨gb_refl _ _⟩⟩
  case round =>
    obtain ⟨m, cu, hm, rfl, rfl, hown, hcur, hgb⟩ := hrel
    by_cases hlt : m < n
    · have hlen : cu.length = n * 1 := hown.out.1
      obtain ⟨old0, hold0⟩ : ∃ old, cu[m]? = some old := ⟨_, List.getElem?_eq_getElem (by omega)⟩
      have d0 : wr.cell? ⟨g, m, none⟩ = some old0 := (hown.out.cellAt m (by omega)).trans hold0
      have z0 := hown.out.frozenAt m
      have hnr := HN.out m hlt
      have hsto : ∀ x y md, (store ⟨g, m, none⟩ (.complex .f32 x y) md).run Tryd.prog wr = .ok () (wr.setCell ⟨g, m, none⟩ (.complex .f32 x y)) := fun x y md => (run_store _ _ _ _ _ rfl).trans (by simp [d0, z0])
      clear hold0
      go_wp2
      go_roundw
      case rel =>
        have hst := hown.out.stored m (.complex .f32 (fcv .f64 .f32 (floatOfInt .f64 (k + (m : Int)))) 1065353216)
        refine ⟨m + 1, _, by omega, i_ext2 (by omega), i_ext2 (by omega), ⟨hst.1⟩, ⟨fun j hj => ?_⟩, ⟨gb_trans hgb.out hst.2⟩⟩
        by_cases he : j = m
        · subst he; rw [List.getElem?_set_self (by omega)]
        · rw [List.getElem?_set_ne (by omega)]; exact hcur.out j (by omega)
      case measure => simp [intOf]; omega
    · obtain rfl : m = n := by omega
      go_wp2
      go_ret
      refine ⟨rfl, ?_, hgb.out⟩
      intro j hj
      rw [mkC_len] at hj
      rw [hown.out.cellAt j (by omega), mkC_at hj]
      exact hcur.out j hj
theorem markC_nil {k : Int} (w : World) : Calls Tryd.prog 7 #[.slice none 0 0, .int .i64 k] w (RI .i64 k w) := by
  go_enter Tryd.func7, Tryd.ntmps7
  go_wp2
  go_loopw [5, 1] (fun i kk wr => i = .int .i64 0 ∧ kk = .int .i64 k ∧ Drew w wr) (fun _ _ _ => 0)
  case atStart => exact ⟨rfl, rfl, (by repeat (first | exact Drew.refl _ | refine Drew.more ?_))⟩
  case round =>
    obtain ⟨rfl, rfl, q, rfl⟩ := hrel
    go_wp2
    go_ret
    exact RI.any rfl (by repeat (first | exact Drew.refl _ | refine Drew.more ?_))
/-- 'these are marks' -/
def QC (w : World) (v : Value) (n : Nat) (k : Int) : Prop := (v = .slice none 0 0 ∧ n = 0) ∨ ∃ g cap, v = .slice (some ⟨g, 0, none⟩) n cap ∧ CRow w g (mkC k n)
theorem QC.below {w w' : World} {v : Value} {n : Nat} {k : Int} (h : QC w v n k) (b : Below w.heap.size w w') : QC w' v n k := by
  rcases h with h | ⟨g, cap, h1, h2⟩
  · exact .inl h
  · exact .inr ⟨g, cap, h1, h2.below b⟩
theorem markC_own {n base : Nat} {v : Value} {cur : List Value} {k : Int} (w : World) (ho : w.ownsRow base 29 1 v n cur) (hk0 : 0 ≤ k) (hk1 : k + (n : Int) ≤ 300) : Calls Tryd.prog 7 #[v, .int .i64 k] w (fun e w' => e = .returned (.int .i64 (k + (n : Int))) ∧ QC w' v n k ∧ w.grownBy w' v.ownBlock) := by
  rcases own_formC ho with ⟨rfl, h0⟩ | ⟨g, cap, rfl⟩
  · subst h0
    refine (markC_nil w).mono ?_
    rintro e w' ⟨rfl, q, rfl⟩
    exact ⟨by simp, .inl ⟨rfl, rfl⟩, gb_drew _ _ _⟩
  · refine (markC_any (k := k) w ho hk0 hk1).mono ?_
    rintro e w' ⟨rfl, h1, h2⟩
    exact ⟨rfl, .inr ⟨g, cap, rfl, h1⟩, h2⟩
theorem heldC_nil {k : Int} (w : World) : Calls Tryd.prog 8 #[.slice none 0 0, .int .i64 k] w (RI .i64 k w) := by
  go_enter Tryd.func8, Tryd.ntmps8
  go_wp2
  go_loopw [5, 1] (fun i kk wr => i = .int .i64 0 ∧ kk = .int .i64 k ∧ Drew w wr) (fun _ _ _ => 0)
  case atStart => exact ⟨rfl, rfl, (by repeat (first | exact Drew.refl _ | refine Drew.more ?_))⟩
  case round =>
    obtain ⟨rfl, rfl, q, rfl⟩ := hrel
    go_wp2
    go_ret
    exact RI.any rfl (by repeat (first | exact Drew.refl _ | refine Drew.more ?_))
set_option maxHeartbeats 1000000 in
theorem heldC_any {g n cap : Nat} {k : Int} (w : World) (hr : CRow w g (mkC k n)) (hk0 : 0 ≤ k) (hk1 : k + (n : Int) ≤ 300) : Calls Tryd.prog 8 #[.slice (some ⟨g, 0, none⟩) n cap, .int .i64 k] w (RI .i64 (k + (n : Int)) w) := by
  have HR := Hf.mk hr
  clear hr
  have h1f : fits .f64 .f32 4607182418800017408 = true := by decide +kernel
  have h1n : isN .f64 4607182418800017408 = false := by decide +kernel
  have h1v : fcv .f64 .f32 4607182418800017408 = 1065353216 := by decide +kernel
  have HN := Hf.mk (fun (m : Nat) (h : m < n) w => narrow_cx (P := Tryd.prog) (src := 32) (dst := 29) (r := floatOfInt .f64 (k + (m : Int))) (by kernel_rfl) Tryd.underlying29 (nearest_notN .f64 _) h1n (fits_small (by omega) (by omega)) h1f w)
  rw [h1v] at HN
  clear h1f h1n h1v
  go_enter Tryd.func8, Tryd.ntmps8
  go_wp2
  go_loopw [5, 1] (fun i kk wr => ∃ m : Nat, m ≤ n ∧ i = .int .i64 m ∧ kk = .int .i64 (k + (m : Int)) ∧ Drew w wr) (fun i _ _ => n - (intOf i).toNat)
  case atStart => exact ⟨0, by omega, rfl, i_ext2 (by omega), (by repeat (first | exact Drew.refl _ | refine Drew.more ?_))⟩
  case round =>
    obtain ⟨m, hm, rfl, rfl, q, rfl⟩ := hrel
    by_cases hlt : m < n
    · have hc := HR.out m (by rw [mkC_len]; exact hlt)
      rw [mkC_at hlt] at hc
      dsimp only at hc
      have hnr := HN.out m hlt
      have hs := order_self (k := .f32) (x := fcv .f64 .f32 (floatOfInt .f64 (k + (m : Int)))) (small_notN (by omega) (by omega))
      have hs1 := order_self (k := .f32) (x := 1065353216) (by decide +kernel)
      generalize fcv .f64 .f32 (floatOfInt .f64 (k + (m : Int))) = y at *
      go_wp2
      go_roundw
      case rel => exact ⟨m + 1, by omega, i_ext2 (by omega), i_ext2 (by omega), (by repeat (first | exact Drew.refl _ | refine Drew.more ?_))⟩
      case measure => simp [intOf]; omega
    · obtain rfl : m = n := by omega
      go_wp2
      go_ret
      exact RI.any rfl (by repeat (first | exact Drew.refl _ | refine Drew.more ?_))
theorem heldC_own {n : Nat} {v : Value} {k : Int} (w : World) (h : QC w v n k) (hk0 : 0 ≤ k) (hk1 : k + (n : Int) ≤ 300) : Calls Tryd.prog 8 #[v, .int .i64 k] w (RI .i64 (k + (n : Int)) w) := by
  rcases h with ⟨rfl, h0⟩ | ⟨g, cap, rfl, h1⟩
  · subst h0
    refine (heldC_nil w).mono ?_
    rintro e w' ⟨rfl, q, rfl⟩
    exact ⟨by simp, q, rfl⟩
  · exact heldC_any w h1 hk0 hk1
end Go.Proofs.YthambmgibelpkaaDoor
