/-
  SlopeOfGrid, of the program and of the model: what it answers. No premise beyond those named.
-/
import Derived.Test.YtcgmffpddahgoaaSlp
import Derived.Test.YtcgmffpddahgoaaIdx
namespace Go.Proofs.Ytcgmffpddahgoaa
open Go Go.RowKit
set_option maxRecDepth 100000

/-- the answer at an index: whether there is a slope, and its parts -/
structure Slope (wd hg : Int) (n : Nat) (f : Nat → Nat) (i : Int) (ok : Bool) (c d : Nat) : Prop where
  no : (gridB wd hg n f && idxB i n) = false → ok = false
  yes : ∀ W Hh j, Gr wd hg n f W Hh → i = (j : Nat) → j < n → c = slX f W j ∧ d = slY f W Hh j ∧ ok = (fin .f32 c && fin .f32 d)
theorem slope_ex (wd hg : Int) (n : Nat) (f : Nat → Nat) (i : Int) : ∃ ok c d, Slope wd hg n f i ok c d ∧ ((∀ j, Fl .f32 (f j) (f j)) → World → Fl .f32 c c ∧ Fl .f32 d d) := by
  cases h : (gridB wd hg n f && idxB i n)
  · refine ⟨false, 0, 0, ⟨fun _ => rfl, fun W Hh j hG hi hj => ?_⟩, fun _ _ => ⟨zero32, zero32⟩⟩
    exfalso
    rw [Bool.and_eq_false_iff] at h
    rcases h with h | h
    · have : gridB wd hg n f = true := by
        unfold gridB sideB
        rw [Bool.and_eq_true, Bool.and_eq_true, decide_eq_true_iff, decide_eq_true_iff]
        refine ⟨?_, ?_, hG.fin⟩
        · rw [hG.w, hG.h]; have := hG.w2; have := hG.w16; have := hG.h2; have := hG.h16; omega
        · rw [hG.w, hG.h, hG.nn]; simp
      rw [h] at this
      cases this
    · unfold idxB at h
      rw [decide_eq_false_iff_not] at h
      omega
  · rw [Bool.and_eq_true] at h
    obtain ⟨W, Hh, hG⟩ := gridB_of h.1
    obtain ⟨j, hj, hjn⟩ := idxB_of h.2
    refine ⟨fin .f32 (slX f W j) && fin .f32 (slY f W Hh j), slX f W j, slY f W Hh j, ⟨fun h => by simp_all, fun W' Hh' j' hG' hi' hj' => ?_⟩, fun hf w => ⟨partC_fl w hf, partC_fl w hf⟩⟩
    have e1 : W' = W := Int.ofNat.inj (hG'.w.symm.trans hG.w)
    have e2 : Hh' = Hh := Int.ofNat.inj (hG'.h.symm.trans hG.h)
    have e3 : j' = j := Int.ofNat.inj (hi'.symm.trans hj)
    subst e1 e2 e3
    exact ⟨rfl, rfl, rfl⟩
set_option maxHeartbeats 4000000 in
theorem sSlope_any {g n k : Nat} {wd hg i : Int} {f : Nat → Nat} {ok : Bool} {c d : Nat} (hs : Slope wd hg n f i ok c d) (hf : ∀ j, Fl .f32 (f j) (f j)) (w : World) (h : Told w g n f) (hl : n ≤ 1048576) : Calls Try.prog 40 #[gd wd hg (sl g n k), .int .i64 i] w (RS (cT ok c d) w) := by
  have H := Hf.mk h
  clear h
  cases h1 : (gridB wd hg n f && idxB i n)
  · have KV := Keep.mk (hs.no h1)
    have H1 := Hf.mk h1
    clear h1 hs
    go_enter Try.func40, Try.ntmps40
    go_wp2_with (first | (go_at_call 92; refine (l06Index_any (k := k) (wd := wd) (hg := hg) _ (by simp) (by simp) (by simp) (H.out.below (by repeat (first | exact Below.refl _ _ | with_reducible assumption | refine Below.drews ?_ | refine Below.drew ?_ | refine Below.alloc ?_ (by simp <;> omega) _ | refine Below.setCell ?_ (by simp <;> omega) _))) hl).mono ?_; rw [H1.out]; rintro e w' ⟨rfl, q0, rfl⟩))
    go_ret2
    rw [KV.out]
    exact ⟨rfl, (by repeat (first | exact Below.refl _ _ | with_reducible assumption | refine Below.drews ?_ | refine Below.drew ?_ | refine Below.alloc ?_ (by simp <;> omega) _ | refine Below.setCell ?_ (by simp <;> omega) _))⟩
  · have H1 := Hf.mk h1
    rw [Bool.and_eq_true] at h1
    obtain ⟨W, Hh, hG⟩ := gridB_of h1.1
    obtain ⟨j, rfl, hj⟩ := idxB_of h1.2
    obtain ⟨rfl, rfl, h3⟩ := hs.yes W Hh j hG rfl hj
    have KV := Keep.mk h3
    have HG := Hf.mk hG
    have X := Hf.mk (H.out.exact hG.fin)
    have n256 := hG.n256
    have FX := Hf.mk (partC_fl w hf (i := j) (p := j % W) (m := W) (d := 1))
    have FY := Hf.mk (partC_fl w hf (i := j) (p := j / W) (m := Hh) (d := W))
    have KC := Hf.mk (fun w => l01CFin_any FX.out FY.out w)
    clear h1 h3 hs hG
    cases h4 : (fin .f32 (slX f W j) && fin .f32 (slY f W Hh j))
    all_goals
      have H4 := Hf.mk h4
      have KD : Hf (∀ w, Calls Try.prog 94 #[.complex .f32 (slX f W j) (slY f W Hh j)] w (RB (fin .f32 (slX f W j) && fin .f32 (slY f W Hh j)) w)) := KC
      rw [h4] at KD
      clear h4 KC
      go_enter Try.func40, Try.ntmps40
      go_wp2_with (first | (go_at_call 92; refine (l06Index_any (k := k) (wd := wd) (hg := hg) _ (by simp) (by simp) (by simp) (H.out.below (by repeat (first | exact Below.refl _ _ | with_reducible assumption | refine Below.drews ?_ | refine Below.drew ?_ | refine Below.alloc ?_ (by simp <;> omega) _ | refine Below.setCell ?_ (by simp <;> omega) _))) hl).mono ?_; rw [H1.out]; rintro e w' ⟨rfl, q0, rfl⟩) | (go_at_call 93; refine (l06Slope_any (k := k) _ (by simp) (by simp) (by simp) (X.out.below (by repeat (first | exact Below.refl _ _ | with_reducible assumption | refine Below.drews ?_ | refine Below.drew ?_ | refine Below.alloc ?_ (by simp <;> omega) _ | refine Below.setCell ?_ (by simp <;> omega) _))) HG.out hj).mono ?_; rintro e w' ⟨rfl, q1, rfl⟩) | (go_at_call 94; refine (KD.out _).mono ?_; rintro e w' ⟨rfl, q2, rfl⟩))
      go_ret2
      rw [KV.out, H4.out]
      exact ⟨rfl, (by repeat (first | exact Below.refl _ _ | with_reducible assumption | refine Below.drews ?_ | refine Below.drew ?_ | refine Below.alloc ?_ (by simp <;> omega) _ | refine Below.setCell ?_ (by simp <;> omega) _))⟩
set_option maxHeartbeats 4000000 in
theorem iSlope_any {g n k : Nat} {wd hg i : Int} {f : Nat → Nat} {ok : Bool} {c d : Nat} (hs : Slope wd hg n f i ok c d) (hf : ∀ j, Fl .f32 (f j) (f j)) (w : World) (h : Told w g n f) (hl : n ≤ 1048576) : Calls Try.prog 41 #[gd wd hg (sl g n k), .int .i64 i] w (RS (cT ok c d) w) := by
  have H := Hf.mk h
  clear h
  have B0 := Hb.mk (Below.refl w.heap.size w)
  cases h0 : gridB wd hg n f
  · have KV := Keep.mk (hs.no (by rw [h0]; rfl))
    have H0 := Hf.mk h0
    clear h0 hs
    go_enter Try.func41, Try.ntmps41
    go_wp2_with (first | (go_at_call 32; refine (iValid_any _ (H.out.below (by repeat (first | exact Below.refl _ _ | with_reducible assumption | refine Below.drews ?_ | refine Below.drew ?_ | refine Below.alloc ?_ (by simp <;> omega) _ | refine Below.setCell ?_ (by simp <;> omega) _))) hl).mono ?_; rw [H0.out]; rintro e w1 ⟨rfl, b1⟩; have B1 := Hb.mk (Below.on (B := w.heap.size) (a := w) (by repeat (first | exact B0.out | refine Below.drews ?_ | refine Below.drew ?_ | refine Below.alloc ?_ (by have hq_ := B0.out.size; first | omega | (simp <;> omega)) _ | refine Below.setCell ?_ (by have hq_ := B0.out.size; first | omega | (simp <;> omega)) _)) b1 (by have hq_ := B0.out.size; first | omega | (simp <;> omega))); have r0 := Hb.mk (At.keep b1 (p := ⟨(w.heap.size), 0, none⟩) (v := .int .i64 wd) (by simp [go_sem]) (by simp [go_sem])); obtain ⟨r0c, r0z, r0l⟩ := r0.out; have r1 := Hb.mk (At.keep b1 (p := ⟨(w.heap.size), 1, none⟩) (v := .int .i64 hg) (by simp [go_sem]) (by simp [go_sem])); obtain ⟨r1c, r1z, r1l⟩ := r1.out; have r2 := Hb.mk (At.keep b1 (p := ⟨(w.heap.size), 2, none⟩) (v := sl g n k) (by simp [go_sem]) (by simp [go_sem])); obtain ⟨r2c, r2z, r2l⟩ := r2.out; clear b1))
    go_ret2
    rw [KV.out]
    exact ⟨rfl, (by repeat (first | with_reducible refine Below.setCell ?_ (by first | omega | (simp <;> omega)) _ | with_reducible refine Below.drews ?_ | with_reducible refine Below.drew ?_ | with_reducible refine Below.alloc ?_ (by first | omega | (simp <;> omega)) _ | with_reducible exact B1.out | with_reducible exact Below.refl _ _))⟩
  · have H0 := Hf.mk h0
    obtain ⟨W, Hh, hG⟩ := gridB_of h0
    cases h1 : idxB i n
    · have KV := Keep.mk (hs.no (by rw [h1, Bool.and_false]))
      have H1 := Hf.mk h1
      clear h0 h1 hs
      go_enter Try.func41, Try.ntmps41
      go_wp2_with (first | (go_at_call 32; refine (iValid_any _ (H.out.below (by repeat (first | exact Below.refl _ _ | with_reducible assumption | refine Below.drews ?_ | refine Below.drew ?_ | refine Below.alloc ?_ (by simp <;> omega) _ | refine Below.setCell ?_ (by simp <;> omega) _))) hl).mono ?_; rw [H0.out]; rintro e w1 ⟨rfl, b1⟩; have B1 := Hb.mk (Below.on (B := w.heap.size) (a := w) (by repeat (first | exact B0.out | refine Below.drews ?_ | refine Below.drew ?_ | refine Below.alloc ?_ (by have hq_ := B0.out.size; first | omega | (simp <;> omega)) _ | refine Below.setCell ?_ (by have hq_ := B0.out.size; first | omega | (simp <;> omega)) _)) b1 (by have hq_ := B0.out.size; first | omega | (simp <;> omega))); have r0 := Hb.mk (At.keep b1 (p := ⟨(w.heap.size), 0, none⟩) (v := .int .i64 wd) (by simp [go_sem]) (by simp [go_sem])); obtain ⟨r0c, r0z, r0l⟩ := r0.out; have r1 := Hb.mk (At.keep b1 (p := ⟨(w.heap.size), 1, none⟩) (v := .int .i64 hg) (by simp [go_sem]) (by simp [go_sem])); obtain ⟨r1c, r1z, r1l⟩ := r1.out; have r2 := Hb.mk (At.keep b1 (p := ⟨(w.heap.size), 2, none⟩) (v := sl g n k) (by simp [go_sem]) (by simp [go_sem])); obtain ⟨r2c, r2z, r2l⟩ := r2.out; clear b1) | (go_at_call 56; refine (has_any hl _).mono ?_; rw [H1.out]; rintro e w2 ⟨rfl, b2⟩; have B2 := Hb.mk (Below.on (B := w.heap.size) (a := w) (by repeat (first | exact B1.out | refine Below.drews ?_ | refine Below.drew ?_ | refine Below.alloc ?_ (by have hq_ := B1.out.size; first | omega | (simp <;> omega)) _ | refine Below.setCell ?_ (by have hq_ := B1.out.size; first | omega | (simp <;> omega)) _)) b2 (by have hq_ := B1.out.size; first | omega | (simp <;> omega))); have r0 := Hb.mk (At.re r0.out b2 (by first | exact r0c | simp [go_sem, r0c, r0l]) (by first | exact r0z | simp [go_sem, r0z, r0l])); obtain ⟨r0c, r0z, r0l⟩ := r0.out; have r1 := Hb.mk (At.re r1.out b2 (by first | exact r1c | simp [go_sem, r1c, r1l]) (by first | exact r1z | simp [go_sem, r1z, r1l])); obtain ⟨r1c, r1z, r1l⟩ := r1.out; have r2 := Hb.mk (At.re r2.out b2 (by first | exact r2c | simp [go_sem, r2c, r2l]) (by first | exact r2z | simp [go_sem, r2z, r2l])); obtain ⟨r2c, r2z, r2l⟩ := r2.out; clear b2))
      go_ret2
      rw [KV.out]
      exact ⟨rfl, (by repeat (first | with_reducible refine Below.setCell ?_ (by first | omega | (simp <;> omega)) _ | with_reducible refine Below.drews ?_ | with_reducible refine Below.drew ?_ | with_reducible refine Below.alloc ?_ (by first | omega | (simp <;> omega)) _ | with_reducible exact B2.out | with_reducible exact Below.refl _ _))⟩
    · have H1 := Hf.mk h1
      obtain ⟨j, rfl, hj⟩ := idxB_of h1
      obtain ⟨rfl, rfl, h3⟩ := hs.yes W Hh j hG rfl hj
      have KV := Keep.mk h3
      have X := Hf.mk (H.out.exact hG.fin)
      have HS := Hf.mk (fun w (h : Exact w g n f) => slopeAt_any (k := k) w h hf hG hj)
      clear h0 h1 h3 hs hG
      cases h4 : (fin .f32 (slX f W j) && fin .f32 (slY f W Hh j))
      all_goals
        have H4 := Hf.mk h4
        rw [h4] at HS
        clear h4
        simp only [cT, if_true, if_false, Bool.false_eq_true] at HS
        go_enter Try.func41, Try.ntmps41
        go_wp2_with (first | (go_at_call 32; refine (iValid_any _ (H.out.below (by repeat (first | exact Below.refl _ _ | with_reducible assumption | refine Below.drews ?_ | refine Below.drew ?_ | refine Below.alloc ?_ (by simp <;> omega) _ | refine Below.setCell ?_ (by simp <;> omega) _))) hl).mono ?_; rw [H0.out]; rintro e w1 ⟨rfl, b1⟩; have B1 := Hb.mk (Below.on (B := w.heap.size) (a := w) (by repeat (first | exact B0.out | refine Below.drews ?_ | refine Below.drew ?_ | refine Below.alloc ?_ (by have hq_ := B0.out.size; first | omega | (simp <;> omega)) _ | refine Below.setCell ?_ (by have hq_ := B0.out.size; first | omega | (simp <;> omega)) _)) b1 (by have hq_ := B0.out.size; first | omega | (simp <;> omega))); have r0 := Hb.mk (At.keep b1 (p := ⟨(w.heap.size), 0, none⟩) (v := .int .i64 wd) (by simp [go_sem]) (by simp [go_sem])); obtain ⟨r0c, r0z, r0l⟩ := r0.out; have r1 := Hb.mk (At.keep b1 (p := ⟨(w.heap.size), 1, none⟩) (v := .int .i64 hg) (by simp [go_sem]) (by simp [go_sem])); obtain ⟨r1c, r1z, r1l⟩ := r1.out; have r2 := Hb.mk (At.keep b1 (p := ⟨(w.heap.size), 2, none⟩) (v := sl g n k) (by simp [go_sem]) (by simp [go_sem])); obtain ⟨r2c, r2z, r2l⟩ := r2.out; clear b1) | (go_at_call 56; refine (has_any hl _).mono ?_; rw [H1.out]; rintro e w2 ⟨rfl, b2⟩; have B2 := Hb.mk (Below.on (B := w.heap.size) (a := w) (by repeat (first | exact B1.out | refine Below.drews ?_ | refine Below.drew ?_ | refine Below.alloc ?_ (by have hq_ := B1.out.size; first | omega | (simp <;> omega)) _ | refine Below.setCell ?_ (by have hq_ := B1.out.size; first | omega | (simp <;> omega)) _)) b2 (by have hq_ := B1.out.size; first | omega | (simp <;> omega))); have r0 := Hb.mk (At.re r0.out b2 (by first | exact r0c | simp [go_sem, r0c, r0l]) (by first | exact r0z | simp [go_sem, r0z, r0l])); obtain ⟨r0c, r0z, r0l⟩ := r0.out; have r1 := Hb.mk (At.re r1.out b2 (by first | exact r1c | simp [go_sem, r1c, r1l]) (by first | exact r1z | simp [go_sem, r1z, r1l])); obtain ⟨r1c, r1z, r1l⟩ := r1.out; have r2 := Hb.mk (At.re r2.out b2 (by first | exact r2c | simp [go_sem, r2c, r2l]) (by first | exact r2z | simp [go_sem, r2z, r2l])); obtain ⟨r2c, r2z, r2l⟩ := r2.out; clear b2) | (go_at_call 95; refine (HS.out _ (X.out.below B2.out)).mono ?_; rintro e w3 ⟨rfl, b3⟩; have B3 := Hb.mk (Below.on (B := w.heap.size) (a := w) (by repeat (first | exact B2.out | refine Below.drews ?_ | refine Below.drew ?_ | refine Below.alloc ?_ (by have hq_ := B2.out.size; first | omega | (simp <;> omega)) _ | refine Below.setCell ?_ (by have hq_ := B2.out.size; first | omega | (simp <;> omega)) _)) b3 (by have hq_ := B2.out.size; first | omega | (simp <;> omega))); clear b3))
        go_ret2
        rw [KV.out, H4.out]
        exact ⟨rfl, (by repeat (first | with_reducible refine Below.setCell ?_ (by first | omega | (simp <;> omega)) _ | with_reducible refine Below.drews ?_ | with_reducible refine Below.drew ?_ | with_reducible refine Below.alloc ?_ (by first | omega | (simp <;> omega)) _ | with_reducible exact B3.out | with_reducible exact Below.refl _ _))⟩
end Go.Proofs.Ytcgmffpddahgoaa
