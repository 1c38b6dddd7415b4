/-
  PointOf: the model's and the program's answers are the same; its exact law.
-/
import Derived.Test.YtenekhckmglobaaGreatPtF
import Derived.Test.YtenekhckmglobaaGreatPtR
import Derived.Test.YtenekhckmglobaaGreatMopn
namespace Go.Proofs.YtenekhckmglobaaGreat
open Go Go.RowKit
set_option maxRecDepth 100000

set_option maxHeartbeats 1000000 in
theorem sPointOf_no0 {k : Int} {cmn cme cf cn ce mn me f pn pe : Nat} (h1 : Fl .f32 cmn mn) (h2 : Fl .f32 cme me) (h3 : Fl .f32 cf f) (_h4 : Fl .f32 cn pn) (_h5 : Fl .f32 ce pe) (hv : validM k cmn cme cf = false) (w : World) : Calls Tryz.prog 8 #[mp k mn me f, pl pn pe] w (RS (cxT 0 0 false) w) := by
  have B0 := Hb.mk (Below.refl w.heap.size w)
  have HV := Hb.mk hv
  clear hv
  go_enter Tryz.func8, Tryz.ntmps8
  go_wp2_with (go_at_call 22; refine (l03Is_any (k := k) h1 h2 h3 _ (by first | simp | simp [go_sem]) (by first | simp | simp [go_sem]) (by first | simp | simp [go_sem]) (by first | simp | simp [go_sem])).mono ?_; rw [HV.out]; rintro ex w1 ⟨rfl, m1, rfl⟩)
  go_ret2
  exact ⟨rfl, (by repeat (first | with_reducible refine Below.setCell ?_ (by first | omega | (simp <;> omega)) _ | with_reducible refine Below.drews ?_ | with_reducible refine Below.drew ?_ | with_reducible refine Below.alloc ?_ (by first | omega | (simp <;> omega)) _ | with_reducible exact B0.out | with_reducible exact Below.refl _ _))⟩
set_option maxHeartbeats 1000000 in
theorem sPointOf_no1 {k : Int} {cmn cme cf cn ce mn me f pn pe : Nat} (h1 : Fl .f32 cmn mn) (h2 : Fl .f32 cme me) (h3 : Fl .f32 cf f) (h4 : Fl .f32 cn pn) (h5 : Fl .f32 ce pe) (hv : validM k cmn cme cf = true) (hp : validC cn ce = false) (w : World) : Calls Tryz.prog 8 #[mp k mn me f, pl pn pe] w (RS (cxT 0 0 false) w) := by
  have B0 := Hb.mk (Below.refl w.heap.size w)
  have HV := Hb.mk hv
  have HP := Hb.mk hp
  clear hv hp
  go_enter Tryz.func8, Tryz.ntmps8
  go_wp2_with (first | (go_at_call 22; refine (l03Is_any (k := k) h1 h2 h3 _ (by first | simp | simp [go_sem]) (by first | simp | simp [go_sem]) (by first | simp | simp [go_sem]) (by first | simp | simp [go_sem])).mono ?_; rw [HV.out]; rintro ex w1 ⟨rfl, m1, rfl⟩) | (go_at_call 23; refine (l02Is_any h4 h5 _ (by first | simp | simp [go_sem]) (by first | simp | simp [go_sem])).mono ?_; rw [HP.out]; rintro ex w1 ⟨rfl, m2, rfl⟩))
  go_ret2
  exact ⟨rfl, (by repeat (first | with_reducible refine Below.setCell ?_ (by first | omega | (simp <;> omega)) _ | with_reducible refine Below.drews ?_ | with_reducible refine Below.drew ?_ | with_reducible refine Below.alloc ?_ (by first | omega | (simp <;> omega)) _ | with_reducible exact B0.out | with_reducible exact Below.refl _ _))⟩
set_option maxHeartbeats 1000000 in
theorem sPointOf_yes {k : Int} {mn me f pn pe a b : Nat} {ok : Bool} (h1 : Fl .f32 mn mn) (h2 : Fl .f32 me me) (h3 : Fl .f32 f f) (h4 : Fl .f32 pn pn) (h5 : Fl .f32 pe pe) (hv : validM k mn me f = true) (hp : validC pn pe = true) (HK : Hb (∀ g (w : World), g < w.heap.size → w.cell? ⟨g, 0, none⟩ = some (.int .i64 k) → w.cell? ⟨g, 1, none⟩ = some (.float .f32 mn) → w.cell? ⟨g, 2, none⟩ = some (.float .f32 me) → w.cell? ⟨g, 3, none⟩ = some (.float .f32 f) → Calls Tryz.prog 24 #[.pointer (some ⟨g, 0, none⟩), pl pn pe] w (RS (cxT a b ok) w))) (w : World) : Calls Tryz.prog 8 #[mp k mn me f, pl pn pe] w (RS (cxT a b ok) w) := by
  have B0 := Hb.mk (Below.refl w.heap.size w)
  have HV := Hb.mk hv
  have HP := Hb.mk hp
  clear hv hp
  go_enter Tryz.func8, Tryz.ntmps8
  go_wp2_with (first | (go_at_call 22; refine (l03Is_any (k := k) h1 h2 h3 _ (by first | simp | simp [go_sem]) (by first | simp | simp [go_sem]) (by first | simp | simp [go_sem]) (by first | simp | simp [go_sem])).mono ?_; rw [HV.out]; rintro ex w1 ⟨rfl, m1, rfl⟩) | (go_at_call 23; refine (l02Is_any h4 h5 _ (by first | simp | simp [go_sem]) (by first | simp | simp [go_sem])).mono ?_; rw [HP.out]; rintro ex w1 ⟨rfl, m2, rfl⟩) | (go_at_call 24; refine (HK.out _ _ (by simp <;> omega) (by first | simp | simp [go_sem]) (by first | simp | simp [go_sem]) (by first | simp | simp [go_sem]) (by first | simp | simp [go_sem])).mono ?_; rintro ex w1 ⟨rfl, b1⟩; have B1 := Hb.mk (Below.on (B := w.heap.size) (a := w) (by repeat (first | exact B0.out | refine Below.drews ?_ | refine Below.drew ?_ | refine Below.alloc ?_ (by have hq_ := B0.out.size; first | omega | (simp <;> omega)) _ | refine Below.setCell ?_ (by have hq_ := B0.out.size; first | omega | (simp <;> omega)) _)) b1 (by have hq_ := B0.out.size; first | omega | (simp <;> omega)))))
  go_ret2
  exact ⟨rfl, (by repeat (first | with_reducible refine Below.setCell ?_ (by first | omega | (simp <;> omega)) _ | with_reducible refine Below.drews ?_ | with_reducible refine Below.drew ?_ | with_reducible refine Below.alloc ?_ (by first | omega | (simp <;> omega)) _ | with_reducible exact B1.out | with_reducible exact Below.refl _ _))⟩
set_option maxHeartbeats 1000000 in
theorem iPointOf_no0 {k : Int} {cmn cme cf cn ce mn me f pn pe : Nat} (h1 : Fl .f32 cmn mn) (h2 : Fl .f32 cme me) (h3 : Fl .f32 cf f) (_h4 : Fl .f32 cn pn) (_h5 : Fl .f32 ce pe) (hv : validM k cmn cme cf = false) (w : World) : Calls Tryz.prog 11 #[mp k mn me f, pl pn pe] w (RS (cxT 0 0 false) w) := by
  have B0 := Hb.mk (Below.refl w.heap.size w)
  have KV := iValidMap_any (k := k) h1 h2 h3
  rw [hv] at KV
  have HV := Hb.mk KV
  clear KV hv
  go_enter Tryz.func11, Tryz.ntmps11
  go_wp2_with (go_at_call 25; refine (HV.out _).mono ?_; rintro ex w1 ⟨rfl, b1⟩; have B1 := Hb.mk (Below.on (B := w.heap.size) (a := w) (by repeat (first | exact B0.out | refine Below.drews ?_ | refine Below.drew ?_ | refine Below.alloc ?_ (by have hq_ := B0.out.size; first | omega | (simp <;> omega)) _ | refine Below.setCell ?_ (by have hq_ := B0.out.size; first | omega | (simp <;> omega)) _)) b1 (by have hq_ := B0.out.size; first | omega | (simp <;> omega))); clear b1)
  go_ret2
  exact ⟨rfl, (by repeat (first | with_reducible refine Below.setCell ?_ (by first | omega | (simp <;> omega)) _ | with_reducible refine Below.drews ?_ | with_reducible refine Below.drew ?_ | with_reducible refine Below.alloc ?_ (by first | omega | (simp <;> omega)) _ | with_reducible exact B1.out | with_reducible exact Below.refl _ _))⟩
set_option maxHeartbeats 1000000 in
theorem iPointOf_no1 {k : Int} {cmn cme cf cn ce mn me f pn pe : Nat} (h1 : Fl .f32 cmn mn) (h2 : Fl .f32 cme me) (h3 : Fl .f32 cf f) (h4 : Fl .f32 cn pn) (h5 : Fl .f32 ce pe) (hv : validM k cmn cme cf = true) (hp : validC cn ce = false) (w : World) : Calls Tryz.prog 11 #[mp k mn me f, pl pn pe] w (RS (cxT 0 0 false) w) := by
  have B0 := Hb.mk (Below.refl w.heap.size w)
  have KV := iValidMap_any (k := k) h1 h2 h3
  rw [hv] at KV
  have HV := Hb.mk KV
  have KP := iValidPlace_any h4 h5
  rw [hp] at KP
  have HP := Hb.mk KP
  clear KV KP hv hp
  go_enter Tryz.func11, Tryz.ntmps11
  go_wp2_with (first | (go_at_call 25; refine (HV.out _).mono ?_; rintro ex w1 ⟨rfl, b1⟩; have B1 := Hb.mk (Below.on (B := w.heap.size) (a := w) (by repeat (first | exact B0.out | refine Below.drews ?_ | refine Below.drew ?_ | refine Below.alloc ?_ (by have hq_ := B0.out.size; first | omega | (simp <;> omega)) _ | refine Below.setCell ?_ (by have hq_ := B0.out.size; first | omega | (simp <;> omega)) _)) b1 (by have hq_ := B0.out.size; first | omega | (simp <;> omega))); have p0 := Hb.mk (At.keep b1 (p := ⟨w.heap.size + 1, 0, none⟩) (v := .float .f32 pn) (by simp [go_sem]) (by simp [go_sem])); obtain ⟨p0c, p0z, p0l⟩ := p0.out; have p1 := Hb.mk (At.keep b1 (p := ⟨w.heap.size + 1, 1, none⟩) (v := .float .f32 pe) (by simp [go_sem]) (by simp [go_sem])); obtain ⟨p1c, p1z, p1l⟩ := p1.out; clear b1) | (go_at_call 26; refine (HP.out _).mono ?_; rintro ex w2 ⟨rfl, b2⟩; have B2 := Hb.mk (Below.on (B := w.heap.size) (a := w) (by repeat (first | exact B1.out | refine Below.drews ?_ | refine Below.drew ?_ | refine Below.alloc ?_ (by have hq_ := B1.out.size; first | omega | (simp <;> omega)) _ | refine Below.setCell ?_ (by have hq_ := B1.out.size; first | omega | (simp <;> omega)) _)) b2 (by have hq_ := B1.out.size; first | omega | (simp <;> omega))); clear b2))
  go_ret2
  exact ⟨rfl, (by repeat (first | with_reducible refine Below.setCell ?_ (by first | omega | (simp <;> omega)) _ | with_reducible refine Below.drews ?_ | with_reducible refine Below.drew ?_ | with_reducible refine Below.alloc ?_ (by first | omega | (simp <;> omega)) _ | with_reducible exact B2.out | with_reducible exact Below.refl _ _))⟩
/-- The model's point of a valid place on a valid map, and the program's. -/
theorem lpoints {k : Int} {mn me f pn pe : Nat} (h1 : Fl .f32 mn mn) (h2 : Fl .f32 me me) (h3 : Fl .f32 f f) (h4 : Fl .f32 pn pn) (h5 : Fl .f32 pe pe) (hv : validM k mn me f = true) (hp : validC pn pe = true) :
    ∃ cr ci ok, (Lit.float .f32 cr).wf = true ∧ (Lit.float .f32 ci).wf = true ∧ (∀ g (w : World), g < w.heap.size → w.cell? ⟨g, 0, none⟩ = some (.int .i64 k) → w.cell? ⟨g, 1, none⟩ = some (.float .f32 mn) → w.cell? ⟨g, 2, none⟩ = some (.float .f32 me) → w.cell? ⟨g, 3, none⟩ = some (.float .f32 f) → Calls Tryz.prog 24 #[.pointer (some ⟨g, 0, none⟩), pl pn pe] w (RS (ptT cr ci ok) w)) ∧ (∀ w, Calls Tryz.prog 11 #[mp k mn me f, pl pn pe] w (RS (ptT cr ci ok) w)) := by
  have hv' := hv
  unfold validM at hv'
  simp only [Bool.and_eq_true] at hv'
  obtain ⟨hk, v1, hf⟩ := hv'
  have tf := first_turn hf
  have hm : Pm mn me f pn pe := ⟨h1, h2, h3, h4, h5, v1, hp, tf⟩
  obtain ⟨cr, ci, hS, hI⟩ := phasorL (ptX_fl v1 hp)
  have HS := Hb.mk hS
  have HI := Hb.mk hI
  unfold kindIn at hk
  have hk := of_decide_eq_true hk
  have hc : k = 0 ∨ k = 1 ∨ k = 2 ∨ k = 3 ∨ k = 4 ∨ k = 5 ∨ k = 6 := by omega
  rcases hc with rfl | rfl | rfl | rfl | rfl | rfl | rfl
  · exact ⟨_, _, _, (by exact wf_fop _ _ _ _), (by exact wf_fop _ _ _ _), fun g w hg c0 c1 c2 c3 => l03Point_0 hm w hg c0 c1 c2 c3, fun w => iPointOf_flat h1 h2 h3 h4 h5 hv hp (Good := fun b w => w.cell? ⟨b, 0, none⟩ = some (.float .f32 (cosC f))) ⟨fun w => proj_0 h3 tf w⟩ ⟨fun b w h => iPt_0 hm w h⟩ w⟩
  · cases hs : stretOk pn
    · refine ⟨roundC (ptE me pe), roundC (stretV pn), false, wf_fop _ _ _ _, wf_fop _ _ _ _, ?_, ?_⟩
      · rw [ptT_no (by rfl)]
        exact fun g w hg c0 c1 c2 c3 => l03Point_1n hm hs w hg c0 c1 c2 c3
      · exact fun w => iPointOf_flat h1 h2 h3 h4 h5 hv hp (V := fun _ => _) (Good := fun _ _ => True) ⟨fun w => (proj_1 h3 tf w).mono fun _ _ ⟨a, b⟩ => ⟨0, a, trivial, b⟩⟩ ⟨fun _ w _ => hs ▸ iPt_1 hm w⟩ w
    · exact ⟨_, _, _, (by exact wf_fop _ _ _ _), (by exact wf_fop _ _ _ _), fun g w hg c0 c1 c2 c3 => l03Point_1y hm hs w hg c0 c1 c2 c3, fun w => iPointOf_flat h1 h2 h3 h4 h5 hv hp (V := fun _ => _) (Good := fun _ _ => True) ⟨fun w => (proj_1 h3 tf w).mono fun _ _ ⟨a, b⟩ => ⟨0, a, trivial, b⟩⟩ ⟨fun _ w _ => hs ▸ iPt_1 hm w⟩ w⟩
  · exact ⟨_, _, _, (by exact wf_fop _ _ _ _), (by exact wf_fop _ _ _ _), fun g w hg c0 c1 c2 c3 => l03Point_2 hm w hg c0 c1 c2 c3, fun w => iPointOf_flat h1 h2 h3 h4 h5 hv hp (Good := fun b w => w.cell? ⟨b, 0, none⟩ = some (.float .f32 (cosC f))) ⟨fun w => proj_2 h3 tf w⟩ ⟨fun b w h => iPt_2 hm w h⟩ w⟩
  · exact ⟨_, _, _, (by exact wf_fop _ _ _ _), (by exact wf_fop _ _ _ _), fun g w hg c0 c1 c2 c3 => l03Point_3 hm w hg c0 c1 c2 c3, fun w => iPointOf_flat h1 h2 h3 h4 h5 hv hp (V := fun _ => _) (Good := fun _ _ => True) ⟨fun w => (proj_3 h3 tf w).mono fun _ _ ⟨a, b⟩ => ⟨0, a, trivial, b⟩⟩ ⟨fun _ w _ => iPt_3 hm w⟩ w⟩
  · cases hs : sterOk (ptA mn me pn pe)
    · refine ⟨fop .mul .f32 cr (sterC (ptA mn me pn pe)), fop .mul .f32 ci (sterC (ptA mn me pn pe)), false, wf_fop _ _ _ _, wf_fop _ _ _ _, ?_, ?_⟩
      · rw [ptT_no (by rfl)]
        exact fun g w hg c0 c1 c2 c3 => l03Point_4n hm HS hs w hg c0 c1 c2 c3
      · exact fun w => iPointOf_round h1 h2 h3 h4 h5 hv hp (V := fun _ => _) (Good := fun _ _ => True) ⟨fun w => (proj_4 h3 tf w).mono fun _ _ ⟨a, b⟩ => ⟨0, a, trivial, b⟩⟩ ⟨fun _ w _ => hs ▸ iPt_4 HI hm w⟩ w
    · exact ⟨_, _, _, (by exact wf_fop _ _ _ _), (by exact wf_fop _ _ _ _), fun g w hg c0 c1 c2 c3 => l03Point_4y hm HS hs w hg c0 c1 c2 c3, fun w => iPointOf_round h1 h2 h3 h4 h5 hv hp (V := fun _ => _) (Good := fun _ _ => True) ⟨fun w => (proj_4 h3 tf w).mono fun _ _ ⟨a, b⟩ => ⟨0, a, trivial, b⟩⟩ ⟨fun _ w _ => hs ▸ iPt_4 HI hm w⟩ w⟩
  · exact ⟨_, _, _, (by exact wf_fop _ _ _ _), (by exact wf_fop _ _ _ _), fun g w hg c0 c1 c2 c3 => l03Point_5 hm HS w hg c0 c1 c2 c3, fun w => iPointOf_round h1 h2 h3 h4 h5 hv hp (V := fun _ => _) (Good := fun _ _ => True) ⟨fun w => (proj_5 h3 tf w).mono fun _ _ ⟨a, b⟩ => ⟨0, a, trivial, b⟩⟩ ⟨fun _ w _ => iPt_5 HI hm w⟩ w⟩
  · exact ⟨_, _, _, (by exact wf_fop _ _ _ _), (by exact wf_fop _ _ _ _), fun g w hg c0 c1 c2 c3 => l03Point_6 hm HS w hg c0 c1 c2 c3, fun w => iPointOf_round h1 h2 h3 h4 h5 hv hp (V := fun _ => _) (Good := fun _ _ => True) ⟨fun w => (proj_6 h3 tf w).mono fun _ _ ⟨a, b⟩ => ⟨0, a, trivial, b⟩⟩ ⟨fun _ w _ => iPt_6 HI hm w⟩ w⟩
theorem points {k : Int} {mn me f pn pe : Nat} (h1 : Fl .f32 mn mn) (h2 : Fl .f32 me me) (h3 : Fl .f32 f f) (h4 : Fl .f32 pn pn) (h5 : Fl .f32 pe pe) (hv : validM k mn me f = true) (hp : validC pn pe = true) :
    ∃ cr ci ok, (Lit.float .f32 cr).wf = true ∧ (Lit.float .f32 ci).wf = true ∧ (∀ w, Calls Tryz.prog 8 #[mp k mn me f, pl pn pe] w (RS (ptT cr ci ok) w)) ∧ (∀ w, Calls Tryz.prog 11 #[mp k mn me f, pl pn pe] w (RS (ptT cr ci ok) w)) := by
  obtain ⟨cr, ci, ok, wr, wi, hL, hI⟩ := lpoints h1 h2 h3 h4 h5 hv hp
  exact ⟨cr, ci, ok, wr, wi, fun w => sPointOf_yes h1 h2 h3 h4 h5 hv hp ⟨hL⟩ w, hI⟩
theorem pt_fl {cr ci : Nat} (hr : (Lit.float .f32 cr).wf = true) (ok : Bool) (hi : (Lit.float .f32 ci).wf = true) : Fl .f32 (ptR cr ci ok) (ptR cr ci ok) ∧ Fl .f32 (ptI cr ci ok) (ptI cr ci ok) := by
  have h0 : Fl .f32 0 0 := Fl.not (by decide +kernel) (by decide +kernel)
  unfold ptR ptI
  by_cases h : ptOk cr ci ok = true
  · rw [if_pos h, if_pos h]
    unfold ptOk at h
    simp only [Bool.and_eq_true] at h
    exact ⟨Fl.not (fin_notN h.2.1) hr, Fl.not (fin_notN h.2.2) hi⟩
  · rw [if_neg h, if_neg h]
    exact ⟨h0, h0⟩
end Go.Proofs.YtenekhckmglobaaGreat
