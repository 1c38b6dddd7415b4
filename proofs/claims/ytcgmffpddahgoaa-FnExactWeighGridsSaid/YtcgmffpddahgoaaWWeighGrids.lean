/-
  WeighGrids: the law. No premise.
-/
import Derived.Test.YtcgmffpddahgoaaWgno
import Derived.Test.YtcgmffpddahgoaaWgye
namespace Go.Proofs.Ytcgmffpddahgoaa
open Go Go.RowKit
set_option maxRecDepth 100000

theorem RN.x {w w' : World} {e : Ending} (r : RN w e w') : RGx 29 false 0 0 0 (fun _ => 0) #[] w e w' := r
theorem RG.xf {T : TypeId} {ok : Bool} {wd hg : Int} {n : Nat} {h : Nat → Nat} {w w' : World} {e : Ending} (r : RG T ok wd hg n h w e w') (ho : ok = false) : RN w e w' := by subst ho; exact r.f
theorem law_WeighGrids {a0 : Option Addr} {cap0 : Nat} {xs0 : List Nat} {wd0 hg0 : Int} {a1 : Option Addr} {cap1 : Nat} {xs1 : List Nat} {wd1 hg1 : Int} {xr yr : Nat} (w : World) (hr0 : FRow w a0 xs0) (hw0 : Wf xs0) (hm0 : xs0.length ≤ 9223372036854775807) (hr1 : FRow w a1 xs1) (hw1 : Wf xs1) (hm1 : xs1.length ≤ 9223372036854775807) (wx : (Lit.float .f32 xr).wf = true) (wy : (Lit.float .f32 yr).wf = true) : Calls Try.prog 8 #[gd wd0 hg0 (.slice a0 xs0.length cap0), gd wd1 hg1 (.slice a1 xs1.length cap1), .float .f32 xr, .float .f32 yr] w (RS (.bool true) w) := by
  by_cases hl : xs0.length + xs1.length ≤ 1048576
  · have fx := Fl.own wx
    have fy := Fl.own wy
    have l0 : xs0.length ≤ 1048576 := by omega
    have l1 : xs1.length ≤ 1048576 := by omega
    cases q1 : gridB wd0 hg0 xs0.length (hF xs0)
    · exact walkno_WeighGrids (wr := 0) (hr := 0) (n := 0) (h := fun _ => 0) w hr0 hw0 hr1 hw1 hl
        (fun g0 k0 g1 k1 W h0 h1 => (sWg_n1 W (Told.of h0 hw0) (Told.of h1 hw1) l0 l1 fx fy q1).mono fun _ _ r => RN.x r)
        (fun g0 k0 g1 k1 W h0 h1 => (iWg_n1 W (Told.of h0 hw0) (Told.of h1 hw1) l0 l1 fx fy q1).mono fun _ _ r => RN.x r)
    · cases q2 : gridB wd1 hg1 xs1.length (hF xs1)
      · exact walkno_WeighGrids (wr := 0) (hr := 0) (n := 0) (h := fun _ => 0) w hr0 hw0 hr1 hw1 hl
          (fun g0 k0 g1 k1 W h0 h1 => (sWg_n2 W (Told.of h0 hw0) (Told.of h1 hw1) l0 l1 fx fy q1 q2).mono fun _ _ r => RN.x r)
          (fun g0 k0 g1 k1 W h0 h1 => (iWg_n2 W (Told.of h0 hw0) (Told.of h1 hw1) l0 l1 fx fy q1 q2).mono fun _ _ r => RN.x r)
      · by_cases e1 : wd0 = wd1
        · subst e1
          by_cases e2 : hg0 = hg1
          · subst e2
            obtain ⟨W', H', hG⟩ := gridB_of q1
            obtain ⟨W2, H2, hG2⟩ := gridB_of q2
            obtain rfl := hG.w
            obtain rfl := hG.h
            have hn : xs1.length = xs0.length := by
              rw [hG.nn, hG2.nn]
              have := hG2.w
              have := hG2.h
              rw [show W' = W2 by omega, show H' = H2 by omega]
            have hF2 := hG2.fin
            have f0 := hF_fl hw0
            have f1 := hF_fl hw1
            rw [hn] at hF2
            have ki : ∀ g0 k0 g1 k1 W, FRow W (some ⟨g0, 0, none⟩) xs0 → FRow W (some ⟨g1, 0, none⟩) xs1 → Calls Try.prog 39 #[gd W' H' (sl g0 xs0.length k0), gd W' H' (sl g1 xs1.length k1), .float .f32 xr, .float .f32 yr] W (RG 29 (finB xs0.length (wgC (nrm .f32 xr) (nrm .f32 yr) (hF xs0) (hF xs1))) W' H' xs0.length (wgC (nrm .f32 xr) (nrm .f32 yr) (hF xs0) (hF xs1)) W) := by
              intro g0 k0 g1 k1 W h0 h1
              have t1 := Told.of h1 hw1
              rw [hn] at t1
              have q2' := q2
              rw [hn] at q2'
              rw [hn]
              exact iWg_yes W (Told.of h0 hw0) t1 f0 f1 fx fy q1 q2' hG hF2
            cases q3 : fin .f32 (nrm .f32 xr)
            · have ho : finB xs0.length (wgC (nrm .f32 xr) (nrm .f32 yr) (hF xs0) (hF xs1)) = false := by
                cases hh : finB xs0.length (wgC (nrm .f32 xr) (nrm .f32 yr) (hF xs0) (hF xs1))
                · rfl
                · have := (wg_fin (by have := hG.n4; omega) hh).1; rw [q3] at this; cases this
              exact walkno_WeighGrids (wr := 0) (hr := 0) (n := 0) (h := fun _ => 0) w hr0 hw0 hr1 hw1 hl
                (fun g0 k0 g1 k1 W h0 h1 => (sWg_n5 W (Told.of h0 hw0) (Told.of h1 hw1) l0 l1 fx fy q1 q2 q3).mono fun _ _ r => RN.x r)
                (fun g0 k0 g1 k1 W h0 h1 => (ki g0 k0 g1 k1 W h0 h1).mono fun _ _ r => RN.x (r.xf ho))
            · cases q4 : fin .f32 (nrm .f32 yr)
              · have ho : finB xs0.length (wgC (nrm .f32 xr) (nrm .f32 yr) (hF xs0) (hF xs1)) = false := by
                  cases hh : finB xs0.length (wgC (nrm .f32 xr) (nrm .f32 yr) (hF xs0) (hF xs1))
                  · rfl
                  · have := (wg_fin (by have := hG.n4; omega) hh).2; rw [q4] at this; cases this
                exact walkno_WeighGrids (wr := 0) (hr := 0) (n := 0) (h := fun _ => 0) w hr0 hw0 hr1 hw1 hl
                  (fun g0 k0 g1 k1 W h0 h1 => (sWg_n6 W (Told.of h0 hw0) (Told.of h1 hw1) l0 l1 fx fy q1 q2 q3 q4).mono fun _ _ r => RN.x r)
                  (fun g0 k0 g1 k1 W h0 h1 => (ki g0 k0 g1 k1 W h0 h1).mono fun _ _ r => RN.x (r.xf ho))
              · have ks : ∀ g0 k0 g1 k1 W, FRow W (some ⟨g0, 0, none⟩) xs0 → FRow W (some ⟨g1, 0, none⟩) xs1 → Calls Try.prog 38 #[gd W' H' (sl g0 xs0.length k0), gd W' H' (sl g1 xs1.length k1), .float .f32 xr, .float .f32 yr] W (RG 29 (finB xs0.length (wgC (nrm .f32 xr) (nrm .f32 yr) (hF xs0) (hF xs1))) W' H' xs0.length (wgC (nrm .f32 xr) (nrm .f32 yr) (hF xs0) (hF xs1)) W) := by
                  intro g0 k0 g1 k1 W h0 h1
                  have t1 := Told.of h1 hw1
                  rw [hn] at t1
                  have q2' := q2
                  rw [hn] at q2'
                  rw [hn]
                  exact sWg_yes W (Told.of h0 hw0) t1 f0 f1 fx fy q1 q2' q3 q4 hG hF2
                cases ho : finB xs0.length (wgC (nrm .f32 xr) (nrm .f32 yr) (hF xs0) (hF xs1))
                · exact walkno_WeighGrids (wr := 0) (hr := 0) (n := 0) (h := fun _ => 0) w hr0 hw0 hr1 hw1 hl
                    (fun g0 k0 g1 k1 W h0 h1 => (ks g0 k0 g1 k1 W h0 h1).mono fun _ _ r => RN.x (r.xf ho))
                    (fun g0 k0 g1 k1 W h0 h1 => (ki g0 k0 g1 k1 W h0 h1).mono fun _ _ r => RN.x (r.xf ho))
                · exact walkyes_WeighGrids (wr := (W' : Int)) (hr := (H' : Int)) (n := xs0.length) (h := wgC (nrm .f32 xr) (nrm .f32 yr) (hF xs0) (hF xs1)) l0 w hr0 hw0 hr1 hw1 hl
                    (fun g0 k0 g1 k1 W h0 h1 => (ks g0 k0 g1 k1 W h0 h1).mono fun _ _ r => by rw [ho] at r; exact r.x)
                    (fun g0 k0 g1 k1 W h0 h1 => (ki g0 k0 g1 k1 W h0 h1).mono fun _ _ r => by rw [ho] at r; exact r.x)
          · exact walkno_WeighGrids (wr := 0) (hr := 0) (n := 0) (h := fun _ => 0) w hr0 hw0 hr1 hw1 hl
              (fun g0 k0 g1 k1 W h0 h1 => (sWg_n4 W (Told.of h0 hw0) (Told.of h1 hw1) l0 l1 fx fy q1 q2 e2).mono fun _ _ r => RN.x r)
              (fun g0 k0 g1 k1 W h0 h1 => (iWg_n4 W (Told.of h0 hw0) (Told.of h1 hw1) l0 l1 fx fy q1 q2 e2).mono fun _ _ r => RN.x r)
        · exact walkno_WeighGrids (wr := 0) (hr := 0) (n := 0) (h := fun _ => 0) w hr0 hw0 hr1 hw1 hl
            (fun g0 k0 g1 k1 W h0 h1 => (sWg_n3 W (Told.of h0 hw0) (Told.of h1 hw1) l0 l1 fx fy q1 q2 e1).mono fun _ _ r => RN.x r)
            (fun g0 k0 g1 k1 W h0 h1 => (iWg_n3 W (Told.of h0 hw0) (Told.of h1 hw1) l0 l1 fx fy q1 q2 e1).mono fun _ _ r => RN.x r)
  · clear hr0 hw0 hr1 hw1
    have B0 := Hb.mk (Below.refl w.heap.size w)
    by_cases hl0 : xs0.length ≤ 1048576
    · have KZ0 := Hf.mk (szGrid_yes (a := a0) (cap := cap0) (n := xs0.length) (wd := wd0) (hg := hg0) hl0)
      have KZ1 := Hf.mk (szGrid_no2 (a := a1) (cap := cap1) (n := xs1.length) (m := xs0.length) (wd := wd1) (hg := hg1) (by omega) hl0 hm1)
      go_enter Try.func8, Try.ntmps8
      have tk_z0 : True := trivial; have tk_z1 : True := trivial
      go_wp2_with (first | (go_at_call 29; clear tk_z0; refine (KZ0.out _).mono ?_; rintro e w1 ⟨rfl, b1⟩; have B1 := Hb.mk (Below.on (B := w.heap.size) (a := w) (by repeat (first | exact B0.out | refine Below.drews ?_ | refine Below.drew ?_ | refine Below.alloc ?_ (by have hq_ := B0.out.size; first | omega | (simp <;> omega)) _ | refine Below.setCell ?_ (by have hq_ := B0.out.size; first | omega | (simp <;> omega)) _)) b1 (by have hq_ := B0.out.size; first | omega | (simp <;> omega))); have r0 := Hb.mk (At.keep b1 (p := ⟨(w.heap.size + 1), 0, none⟩) (v := .int .i64 wd1) (by simp [go_sem]) (by simp [go_sem])); obtain ⟨r0c, r0z, r0l⟩ := r0.out; have r1 := Hb.mk (At.keep b1 (p := ⟨(w.heap.size + 1), 1, none⟩) (v := .int .i64 hg1) (by simp [go_sem]) (by simp [go_sem])); obtain ⟨r1c, r1z, r1l⟩ := r1.out; have r2 := Hb.mk (At.keep b1 (p := ⟨(w.heap.size + 1), 2, none⟩) (v := .slice a1 xs1.length cap1) (by simp [go_sem]) (by simp [go_sem])); obtain ⟨r2c, r2z, r2l⟩ := r2.out; clear b1) | (go_at_call 29; clear tk_z1; refine (KZ1.out _).mono ?_; rintro e w2 ⟨rfl, b2⟩; have B2 := Hb.mk (Below.on (B := w.heap.size) (a := w) (by repeat (first | exact B1.out | refine Below.drews ?_ | refine Below.drew ?_ | refine Below.alloc ?_ (by have hq_ := B1.out.size; first | omega | (simp <;> omega)) _ | refine Below.setCell ?_ (by have hq_ := B1.out.size; first | omega | (simp <;> omega)) _)) b2 (by have hq_ := B1.out.size; first | omega | (simp <;> omega))); clear b2))
      go_ret
      exact ⟨rfl, (by repeat (first | with_reducible refine Below.setCell ?_ (by first | omega | (simp <;> omega)) _ | with_reducible refine Below.drews ?_ | with_reducible refine Below.drew ?_ | with_reducible refine Below.alloc ?_ (by first | omega | (simp <;> omega)) _ | with_reducible exact B2.out | with_reducible exact Below.refl _ _))⟩
    · have KZ0 := Hf.mk (szGrid_no (a := a0) (cap := cap0) (wd := wd0) (hg := hg0) (by omega) hm0)
      go_enter Try.func8, Try.ntmps8
      go_wp2_with (first | (go_at_call 29; refine (KZ0.out _).mono ?_; rintro e w1 ⟨rfl, b1⟩; have B1 := Hb.mk (Below.on (B := w.heap.size) (a := w) (by repeat (first | exact B0.out | refine Below.drews ?_ | refine Below.drew ?_ | refine Below.alloc ?_ (by have hq_ := B0.out.size; first | omega | (simp <;> omega)) _ | refine Below.setCell ?_ (by have hq_ := B0.out.size; first | omega | (simp <;> omega)) _)) b1 (by have hq_ := B0.out.size; first | omega | (simp <;> omega))); clear b1))
      go_ret
      exact ⟨rfl, (by repeat (first | with_reducible refine Below.setCell ?_ (by first | omega | (simp <;> omega)) _ | with_reducible refine Below.drews ?_ | with_reducible refine Below.drew ?_ | with_reducible refine Below.alloc ?_ (by first | omega | (simp <;> omega)) _ | with_reducible exact B1.out | with_reducible exact Below.refl _ _))⟩
end Go.Proofs.Ytcgmffpddahgoaa
