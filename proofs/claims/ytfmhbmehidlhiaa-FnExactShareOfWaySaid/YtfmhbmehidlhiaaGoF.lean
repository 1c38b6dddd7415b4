/-
  Where a course leads: the exact law GoFrom. No condition.
-/
import Derived.Test.YtfmhbmehidlhiaaGoS
import Derived.Test.YtfmhbmehidlhiaaGoI
namespace Go.Proofs.Ytfmhbmehidlhiaa
open Go Go.RowKit
set_option maxRecDepth 100000
set_option maxHeartbeats 1000000 in
theorem sGo_yes {n e c f : Nat} (f1 : Fl .f32 n n) (f2 : Fl .f32 e e) (f3 : Fl .f32 c c) (f4 : Fl .f32 f f) (hc : fin .f32 c = true) (hf : fin .f32 f = true) (hv : validC n e = true) {A B : Nat} {ok : Bool} (KP : Hb (∀ w, Calls Try.prog 66 #[wy (nP1 n e c f) (nP2 n e c f) (nP3 n c f)] w (RS (plT A B ok) w))) (w : World) : Calls Try.prog 9 #[pl n e, .float .f32 c, .float .f32 f] w (RS (plT A B ok) w) := by
  have KG := Hb.mk (l02Go_any f1 f2 f3 f4 hc hf hv KP)
  have HI := @l02Is_any n e n e w.heap.size f1 f2
  rw [hv] at HI
  replace HI := Hb.mk HI
  have HC := @l01Finite_any c c f3
  rw [hc] at HC
  replace HC := Hb.mk HC
  have HF := @l01Finite_any f f f4
  rw [hf] at HF
  replace HF := Hb.mk HF
  clear hv hc hf f1 f2 f3 f4 KP
  have B0 := Hb.mk (Below.refl w.heap.size w)
  go_enter Try.func9, Try.ntmps9
  go_wp2_with (first | (go_at_call 27; refine (HI.out _ (by simp [go_sem]) (by simp [go_sem])).mono ?_; rintro ex w' ⟨rfl, n1, rfl⟩) | (go_at_call_of 28 (Value.float .f32 c); refine (HC.out _).mono ?_; rintro ex w' ⟨rfl, n2, rfl⟩) | (go_at_call_of 28 (Value.float .f32 f); refine (HF.out _).mono ?_; rintro ex w' ⟨rfl, n3, rfl⟩) | (go_at_call 29; refine (KG.out _).mono ?_; rintro ex w4 ⟨rfl, b4⟩; have B4 := Hb.mk (Below.on (B := w.heap.size) (a := w) (by repeat (first | exact B0.out | refine Below.drews ?_ | refine Below.drew ?_ | refine Below.alloc ?_ (by have hq_ := B0.out.size; first | omega | (simp <;> omega)) _ | refine Below.setCell ?_ (by have hq_ := B0.out.size; first | omega | (simp <;> omega)) _)) b4 (by have hq_ := B0.out.size; first | omega | (simp <;> omega))); have r0 := Hb.mk (At.keep b4 (p := ⟨w.heap.size + 1, 0, none⟩) (v := .float .f32 0) (by simp [go_sem]) (by simp [go_sem])); obtain ⟨r0c, r0z, r0l⟩ := r0.out; have r1 := Hb.mk (At.keep b4 (p := ⟨w.heap.size + 1, 1, none⟩) (v := .float .f32 0) (by simp [go_sem]) (by simp [go_sem])); obtain ⟨r1c, r1z, r1l⟩ := r1.out; clear b4))
  exact bodyPost_ret (v := plT A B ok) (by simp [results, Try.results9, go_sem, r0c, r1c]) rfl ⟨rfl, (by repeat (first | exact Below.refl _ _ | exact B4.out | refine Below.drews ?_ | refine Below.drew ?_ | refine Below.alloc ?_ (by first | omega | (simp <;> omega)) _ | refine Below.setCell ?_ (by first | omega | (simp <;> omega)) _))⟩
theorem sGo_no0 {n e an ae ac af : Nat} (f1 : Fl .f32 n an) (f2 : Fl .f32 e ae) (hv : validC n e = false) (w : World) : Calls Try.prog 9 #[pl an ae, .float .f32 ac, .float .f32 af] w (RS (plT 0 0 false) w) := by
  have HI := @l02Is_any n e an ae w.heap.size f1 f2
  rw [hv] at HI
  replace HI := Hb.mk HI
  clear hv  f1 f2 
  go_enter Try.func9, Try.ntmps9
  go_wp2_with (first | (go_at_call 27; refine (HI.out _ (by simp [go_sem]) (by simp [go_sem])).mono ?_; rintro ex w' ⟨rfl, n1, rfl⟩))
  exact bodyPost_ret (v := plT 0 0 false) (by simp [results, Try.results9, go_sem]) rfl ⟨rfl, (by repeat (first | exact Below.refl _ _ | with_reducible assumption | refine Below.drews ?_ | refine Below.drew ?_ | refine Below.alloc ?_ (by simp <;> omega) _ | refine Below.setCell ?_ (by simp <;> omega) _))⟩
theorem sGo_no1 {n e c an ae ac af : Nat} (f1 : Fl .f32 n an) (f2 : Fl .f32 e ae) (f3 : Fl .f32 c ac) (hv : validC n e = true) (hc : fin .f32 c = false) (w : World) : Calls Try.prog 9 #[pl an ae, .float .f32 ac, .float .f32 af] w (RS (plT 0 0 false) w) := by
  have HI := @l02Is_any n e an ae w.heap.size f1 f2
  rw [hv] at HI
  replace HI := Hb.mk HI
  have HC := @l01Finite_any c ac f3
  rw [hc] at HC
  replace HC := Hb.mk HC
  clear hv hc f1 f2 f3
  go_enter Try.func9, Try.ntmps9
  go_wp2_with (first | (go_at_call 27; refine (HI.out _ (by simp [go_sem]) (by simp [go_sem])).mono ?_; rintro ex w' ⟨rfl, n1, rfl⟩) | (go_at_call_of 28 (Value.float .f32 ac); refine (HC.out _).mono ?_; rintro ex w' ⟨rfl, n2, rfl⟩))
  exact bodyPost_ret (v := plT 0 0 false) (by simp [results, Try.results9, go_sem]) rfl ⟨rfl, (by repeat (first | exact Below.refl _ _ | with_reducible assumption | refine Below.drews ?_ | refine Below.drew ?_ | refine Below.alloc ?_ (by simp <;> omega) _ | refine Below.setCell ?_ (by simp <;> omega) _))⟩
theorem sGo_no2 {n e c f an ae ac af : Nat} (f1 : Fl .f32 n an) (f2 : Fl .f32 e ae) (f3 : Fl .f32 c ac) (f4 : Fl .f32 f af) (hv : validC n e = true) (hc : fin .f32 c = true) (hf : fin .f32 f = false) (w : World) : Calls Try.prog 9 #[pl an ae, .float .f32 ac, .float .f32 af] w (RS (plT 0 0 false) w) := by
  have HI := @l02Is_any n e an ae w.heap.size f1 f2
  rw [hv] at HI
  replace HI := Hb.mk HI
  have HC := @l01Finite_any c ac f3
  rw [hc] at HC
  replace HC := Hb.mk HC
  have HF := @l01Finite_any f af f4
  rw [hf] at HF
  replace HF := Hb.mk HF
  clear hv hc hf f1 f2 f3 f4
  go_enter Try.func9, Try.ntmps9
  go_wp2_with (first | (go_at_call 27; refine (HI.out _ (by simp [go_sem]) (by simp [go_sem])).mono ?_; rintro ex w' ⟨rfl, n1, rfl⟩) | (go_at_call_of 28 (Value.float .f32 ac); refine (HC.out _).mono ?_; rintro ex w' ⟨rfl, n2, rfl⟩) | (go_at_call_of 28 (Value.float .f32 af); refine (HF.out _).mono ?_; rintro ex w' ⟨rfl, n3, rfl⟩))
  exact bodyPost_ret (v := plT 0 0 false) (by simp [results, Try.results9, go_sem]) rfl ⟨rfl, (by repeat (first | exact Below.refl _ _ | with_reducible assumption | refine Below.drews ?_ | refine Below.drew ?_ | refine Below.alloc ?_ (by simp <;> omega) _ | refine Below.setCell ?_ (by simp <;> omega) _))⟩
set_option maxHeartbeats 1000000 in
theorem iGo_yes {n e c f : Nat} (f1 : Fl .f32 n n) (f2 : Fl .f32 e e) (f3 : Fl .f32 c c) (f4 : Fl .f32 f f) (hc : fin .f32 c = true) (hf : fin .f32 f = true) (hv : validC n e = true) {A B : Nat} {ok : Bool} (KP : Hb (∀ w, Calls Try.prog 73 #[wy (nP1 n e c f) (nP2 n e c f) (nP3 n c f)] w (RS (plT A B ok) w))) (w : World) : Calls Try.prog 11 #[pl n e, .float .f32 c, .float .f32 f] w (RS (plT A B ok) w) := by
  have KG := Hb.mk (courseFrom_any f1 f2 f3 hc hv)
  have KH := Hb.mk (fun (bs bd : Nat) w hs hd => courseFn_any (bs := bs) (bd := bd) f1 f2 f3 f4 hc hf hv KP w hs hd)
  have HI := @iValidPlace_any n e n e f1 f2
  rw [hv] at HI
  replace HI := Hb.mk HI
  have HC := @iIsFinite_any c c f3
  rw [hc] at HC
  replace HC := Hb.mk HC
  have HF := @iIsFinite_any f f f4
  rw [hf] at HF
  replace HF := Hb.mk HF
  clear hv hc hf f1 f2 f3 f4 KP
  have B0 := Hb.mk (Below.refl w.heap.size w)
  go_enter Try.func11, Try.ntmps11
  go_wp2_with (first | (go_at_call 30; refine (HI.out _).mono ?_; rintro ex w1 ⟨rfl, b1⟩; have B1 := Hb.mk (Below.on (B := w.heap.size) (a := w) (by repeat (first | exact B0.out | refine Below.drews ?_ | refine Below.drew ?_ | refine Below.alloc ?_ (by have hq_ := B0.out.size; first | omega | (simp <;> omega)) _ | refine Below.setCell ?_ (by have hq_ := B0.out.size; first | omega | (simp <;> omega)) _)) b1 (by have hq_ := B0.out.size; first | omega | (simp <;> omega))); have p0 := Hb.mk (At.keep b1 (p := ⟨w.heap.size, 0, none⟩) (v := .float .f32 n) (by simp [go_sem]) (by simp [go_sem])); obtain ⟨p0c, p0z, p0l⟩ := p0.out; have p1 := Hb.mk (At.keep b1 (p := ⟨w.heap.size, 1, none⟩) (v := .float .f32 e) (by simp [go_sem]) (by simp [go_sem])); obtain ⟨p1c, p1z, p1l⟩ := p1.out; have r0 := Hb.mk (At.keep b1 (p := ⟨w.heap.size + 1, 0, none⟩) (v := .float .f32 0) (by simp [go_sem]) (by simp [go_sem])); obtain ⟨r0c, r0z, r0l⟩ := r0.out; have r1 := Hb.mk (At.keep b1 (p := ⟨w.heap.size + 1, 1, none⟩) (v := .float .f32 0) (by simp [go_sem]) (by simp [go_sem])); obtain ⟨r1c, r1z, r1l⟩ := r1.out; clear b1) | (go_at_call_of 31 (Value.float .f32 c); refine (HC.out _).mono ?_; rintro ex w' ⟨rfl, n2, rfl⟩) | (go_at_call_of 31 (Value.float .f32 f); refine (HF.out _).mono ?_; rintro ex w' ⟨rfl, n3, rfl⟩) | (go_at_call 32; refine (KG.out _).mono ?_; rintro ex w4 ⟨bs, bd, rfl, hs, hd, b4⟩; have B4 := Hb.mk (Below.on (B := w.heap.size) (a := w) (by repeat (first | exact B1.out | refine Below.drews ?_ | refine Below.drew ?_ | refine Below.alloc ?_ (by have hq_ := B1.out.size; first | omega | (simp <;> omega)) _ | refine Below.setCell ?_ (by have hq_ := B1.out.size; first | omega | (simp <;> omega)) _)) b4 (by have hq_ := B1.out.size; first | omega | (simp <;> omega))); have r0 := Hb.mk (At.re r0.out b4 (by first | exact r0c | simp [go_sem, r0c, r0l]) (by first | exact r0z | simp [go_sem, r0z, r0l])); obtain ⟨r0c, r0z, r0l⟩ := r0.out; have r1 := Hb.mk (At.re r1.out b4 (by first | exact r1c | simp [go_sem, r1c, r1l]) (by first | exact r1z | simp [go_sem, r1z, r1l])); obtain ⟨r1c, r1z, r1l⟩ := r1.out; clear b4) | (go_at_call 72; refine (KH.out _ _ _ hs hd).mono ?_; rintro ex w5 ⟨rfl, b5⟩; have B5 := Hb.mk (Below.on (B := w.heap.size) (a := w) (by repeat (first | exact B4.out | refine Below.drews ?_ | refine Below.drew ?_ | refine Below.alloc ?_ (by have hq_ := B4.out.size; first | omega | (simp <;> omega)) _ | refine Below.setCell ?_ (by have hq_ := B4.out.size; first | omega | (simp <;> omega)) _)) b5 (by have hq_ := B4.out.size; first | omega | (simp <;> omega))); have r0 := Hb.mk (At.re r0.out b5 (by first | exact r0c | simp [go_sem, r0c, r0l]) (by first | exact r0z | simp [go_sem, r0z, r0l])); obtain ⟨r0c, r0z, r0l⟩ := r0.out; have r1 := Hb.mk (At.re r1.out b5 (by first | exact r1c | simp [go_sem, r1c, r1l]) (by first | exact r1z | simp [go_sem, r1z, r1l])); obtain ⟨r1c, r1z, r1l⟩ := r1.out; clear b5))
  exact bodyPost_ret (v := plT A B ok) (by simp [results, Try.results11, go_sem, r0c, r1c]) rfl ⟨rfl, (by repeat (first | exact Below.refl _ _ | exact B5.out | refine Below.drews ?_ | refine Below.drew ?_ | refine Below.alloc ?_ (by first | omega | (simp <;> omega)) _ | refine Below.setCell ?_ (by first | omega | (simp <;> omega)) _))⟩
theorem iGo_no0 {n e an ae ac af : Nat} (f1 : Fl .f32 n an) (f2 : Fl .f32 e ae) (hv : validC n e = false) (w : World) : Calls Try.prog 11 #[pl an ae, .float .f32 ac, .float .f32 af] w (RS (plT 0 0 false) w) := by
  have HI := @iValidPlace_any n e an ae f1 f2
  rw [hv] at HI
  replace HI := Hb.mk HI
  clear hv  f1 f2 
  have B0 := Hb.mk (Below.refl w.heap.size w)
  go_enter Try.func11, Try.ntmps11
  go_wp2_with (first | (go_at_call 30; refine (HI.out _).mono ?_; rintro ex w1 ⟨rfl, b1⟩; have B1 := Hb.mk (Below.on (B := w.heap.size) (a := w) (by repeat (first | exact B0.out | refine Below.drews ?_ | refine Below.drew ?_ | refine Below.alloc ?_ (by have hq_ := B0.out.size; first | omega | (simp <;> omega)) _ | refine Below.setCell ?_ (by have hq_ := B0.out.size; first | omega | (simp <;> omega)) _)) b1 (by have hq_ := B0.out.size; first | omega | (simp <;> omega))); have r0 := Hb.mk (At.keep b1 (p := ⟨w.heap.size + 1, 0, none⟩) (v := .float .f32 0) (by simp [go_sem]) (by simp [go_sem])); obtain ⟨r0c, r0z, r0l⟩ := r0.out; have r1 := Hb.mk (At.keep b1 (p := ⟨w.heap.size + 1, 1, none⟩) (v := .float .f32 0) (by simp [go_sem]) (by simp [go_sem])); obtain ⟨r1c, r1z, r1l⟩ := r1.out; clear b1))
  exact bodyPost_ret (v := plT 0 0 false) (by simp [results, Try.results11, go_sem, r0c, r1c]) rfl ⟨rfl, (by repeat (first | exact Below.refl _ _ | exact B1.out | refine Below.drews ?_ | refine Below.drew ?_ | refine Below.alloc ?_ (by first | omega | (simp <;> omega)) _ | refine Below.setCell ?_ (by first | omega | (simp <;> omega)) _))⟩
theorem iGo_no1 {n e c an ae ac af : Nat} (f1 : Fl .f32 n an) (f2 : Fl .f32 e ae) (f3 : Fl .f32 c ac) (hv : validC n e = true) (hc : fin .f32 c = false) (w : World) : Calls Try.prog 11 #[pl an ae, .float .f32 ac, .float .f32 af] w (RS (plT 0 0 false) w) := by
  have HI := @iValidPlace_any n e an ae f1 f2
  rw [hv] at HI
  replace HI := Hb.mk HI
  have HC := @iIsFinite_any c ac f3
  rw [hc] at HC
  replace HC := Hb.mk HC
  clear hv hc f1 f2 f3
  have B0 := Hb.mk (Below.refl w.heap.size w)
  go_enter Try.func11, Try.ntmps11
  go_wp2_with (first | (go_at_call 30; refine (HI.out _).mono ?_; rintro ex w1 ⟨rfl, b1⟩; have B1 := Hb.mk (Below.on (B := w.heap.size) (a := w) (by repeat (first | exact B0.out | refine Below.drews ?_ | refine Below.drew ?_ | refine Below.alloc ?_ (by have hq_ := B0.out.size; first | omega | (simp <;> omega)) _ | refine Below.setCell ?_ (by have hq_ := B0.out.size; first | omega | (simp <;> omega)) _)) b1 (by have hq_ := B0.out.size; first | omega | (simp <;> omega))); have r0 := Hb.mk (At.keep b1 (p := ⟨w.heap.size + 1, 0, none⟩) (v := .float .f32 0) (by simp [go_sem]) (by simp [go_sem])); obtain ⟨r0c, r0z, r0l⟩ := r0.out; have r1 := Hb.mk (At.keep b1 (p := ⟨w.heap.size + 1, 1, none⟩) (v := .float .f32 0) (by simp [go_sem]) (by simp [go_sem])); obtain ⟨r1c, r1z, r1l⟩ := r1.out; clear b1) | (go_at_call_of 31 (Value.float .f32 ac); refine (HC.out _).mono ?_; rintro ex w' ⟨rfl, n2, rfl⟩))
  exact bodyPost_ret (v := plT 0 0 false) (by simp [results, Try.results11, go_sem, r0c, r1c]) rfl ⟨rfl, (by repeat (first | exact Below.refl _ _ | exact B1.out | refine Below.drews ?_ | refine Below.drew ?_ | refine Below.alloc ?_ (by first | omega | (simp <;> omega)) _ | refine Below.setCell ?_ (by first | omega | (simp <;> omega)) _))⟩
theorem iGo_no2 {n e c f an ae ac af : Nat} (f1 : Fl .f32 n an) (f2 : Fl .f32 e ae) (f3 : Fl .f32 c ac) (f4 : Fl .f32 f af) (hv : validC n e = true) (hc : fin .f32 c = true) (hf : fin .f32 f = false) (w : World) : Calls Try.prog 11 #[pl an ae, .float .f32 ac, .float .f32 af] w (RS (plT 0 0 false) w) := by
  have HI := @iValidPlace_any n e an ae f1 f2
  rw [hv] at HI
  replace HI := Hb.mk HI
  have HC := @iIsFinite_any c ac f3
  rw [hc] at HC
  replace HC := Hb.mk HC
  have HF := @iIsFinite_any f af f4
  rw [hf] at HF
  replace HF := Hb.mk HF
  clear hv hc hf f1 f2 f3 f4
  have B0 := Hb.mk (Below.refl w.heap.size w)
  go_enter Try.func11, Try.ntmps11
  go_wp2_with (first | (go_at_call 30; refine (HI.out _).mono ?_; rintro ex w1 ⟨rfl, b1⟩; have B1 := Hb.mk (Below.on (B := w.heap.size) (a := w) (by repeat (first | exact B0.out | refine Below.drews ?_ | refine Below.drew ?_ | refine Below.alloc ?_ (by have hq_ := B0.out.size; first | omega | (simp <;> omega)) _ | refine Below.setCell ?_ (by have hq_ := B0.out.size; first | omega | (simp <;> omega)) _)) b1 (by have hq_ := B0.out.size; first | omega | (simp <;> omega))); have r0 := Hb.mk (At.keep b1 (p := ⟨w.heap.size + 1, 0, none⟩) (v := .float .f32 0) (by simp [go_sem]) (by simp [go_sem])); obtain ⟨r0c, r0z, r0l⟩ := r0.out; have r1 := Hb.mk (At.keep b1 (p := ⟨w.heap.size + 1, 1, none⟩) (v := .float .f32 0) (by simp [go_sem]) (by simp [go_sem])); obtain ⟨r1c, r1z, r1l⟩ := r1.out; clear b1) | (go_at_call_of 31 (Value.float .f32 ac); refine (HC.out _).mono ?_; rintro ex w' ⟨rfl, n2, rfl⟩) | (go_at_call_of 31 (Value.float .f32 af); refine (HF.out _).mono ?_; rintro ex w' ⟨rfl, n3, rfl⟩))
  exact bodyPost_ret (v := plT 0 0 false) (by simp [results, Try.results11, go_sem, r0c, r1c]) rfl ⟨rfl, (by repeat (first | exact Below.refl _ _ | exact B1.out | refine Below.drews ?_ | refine Below.drew ?_ | refine Below.alloc ?_ (by first | omega | (simp <;> omega)) _ | refine Below.setCell ?_ (by first | omega | (simp <;> omega)) _))⟩
theorem pair_GoFrom {a b c f : Nat} (wa : (Lit.float .f32 a).wf = true) (wb : (Lit.float .f32 b).wf = true) (wc : (Lit.float .f32 c).wf = true) (wf : (Lit.float .f32 f).wf = true) :
    ∃ X Y ok, Hb (∀ w, Calls Try.prog 9 #[pl a b, .float .f32 c, .float .f32 f] w (RS (plT X Y ok) w)) ∧ Hb (∀ w, Calls Try.prog 11 #[pl a b, .float .f32 c, .float .f32 f] w (RS (plT X Y ok) w)) ∧ Fl .f32 X X ∧ Fl .f32 Y Y := by
  have h1 := Fl.own wa
  have h2 := Fl.own wb
  have h3 := Fl.own wc
  have h4 := Fl.own wf
  cases hv : validC (nrm .f32 a) (nrm .f32 b)
  · exact ⟨_, _, _, ⟨sGo_no0 h1 h2 hv⟩, ⟨iGo_no0 h1 h2 hv⟩, fl0, fl0⟩
  · obtain ⟨hn, he⟩ := turns_of hv
    have e1 := hn.word h1
    have e2 := he.word h2
    cases hc : fin .f32 (nrm .f32 c)
    · exact ⟨_, _, _, ⟨sGo_no1 h1 h2 h3 hv hc⟩, ⟨iGo_no1 h1 h2 h3 hv hc⟩, fl0, fl0⟩
    · cases hf : fin .f32 (nrm .f32 f)
      · exact ⟨_, _, _, ⟨sGo_no2 h1 h2 h3 h4 hv hc hf⟩, ⟨iGo_no2 h1 h2 h3 h4 hv hc hf⟩, fl0, fl0⟩
      · have e3 := h3.word (fin_notN hc)
        have e4 := h4.word (fin_notN hf)
        rw [← e1] at hn h1 hv
        rw [← e2] at he h2 hv
        rw [← e3] at h3 hc
        rw [← e4] at h4 hf
        have g := (Go2.of hn he hc hf).P
        cases hk : placeOk (nP1 a b c f) (nP2 a b c f) (nP3 a c f)
        · exact ⟨_, _, _, ⟨sGo_yes h1 h2 h3 h4 hc hf hv ⟨l02From_no g.fx g.fy g.fz hk⟩⟩, ⟨iGo_yes h1 h2 h3 h4 hc hf hv ⟨iPlaceOfWay_no g.fx g.fy g.fz hk⟩⟩, fl0, fl0⟩
        · obtain ⟨g1, g2⟩ := place_fls hk
          exact ⟨_, _, _, ⟨sGo_yes h1 h2 h3 h4 hc hf hv ⟨l02From_yes g.fx g.fy g.fz hk⟩⟩, ⟨iGo_yes h1 h2 h3 h4 hc hf hv ⟨iPlaceOfWay_yes g.fx g.fy g.fz hk⟩⟩, g1, g2⟩
theorem law_GoFrom {a0 b0 c0 d0 : Nat} (wa0 : (Lit.float .f32 a0).wf = true) (wb0 : (Lit.float .f32 b0).wf = true) (wc0 : (Lit.float .f32 c0).wf = true) (wd0 : (Lit.float .f32 d0).wf = true) (w : World) : Calls Try.prog 3 #[pl a0 b0, .float .f32 c0, .float .f32 d0] w (RS (.bool true) w) := by
  obtain ⟨X, Y, ok, KS, KG, f1, f2⟩ := pair_GoFrom wa0 wb0 wc0 wd0
  have B0 := Hb.mk (Below.refl w.heap.size w)
  cases ok
  all_goals
    go_enter Try.func3, Try.ntmps3
    have tk_a : True := trivial; have tk_b : True := trivial
    go_wp2_with (first
      | (go_at_call 10; clear tk_a; refine (toPlace_any _ _ _).mono ?_; rintro e w1 ⟨rfl, b1⟩; have B1 := Hb.mk (Below.on (B := w.heap.size) (a := w) (by repeat (first | exact B0.out | refine Below.drews ?_ | refine Below.drew ?_ | refine Below.alloc ?_ (by have hq_ := B0.out.size; first | omega | (simp <;> omega)) _ | refine Below.setCell ?_ (by have hq_ := B0.out.size; first | omega | (simp <;> omega)) _)) b1 (by have hq_ := B0.out.size; first | omega | (simp <;> omega))); have p0 := Hb.mk (At.keep b1 (p := ⟨w.heap.size, 0, none⟩) (v := .float .f32 a0) (by simp [go_sem]) (by simp [go_sem])); obtain ⟨p0c, p0z, p0l⟩ := p0.out; have p1 := Hb.mk (At.keep b1 (p := ⟨w.heap.size, 1, none⟩) (v := .float .f32 b0) (by simp [go_sem]) (by simp [go_sem])); obtain ⟨p1c, p1z, p1l⟩ := p1.out; clear b1)
      | (go_at_call 9; refine (KS.out _).mono ?_; rintro e w2 ⟨rfl, b2⟩; have B2 := Hb.mk (Below.on (B := w.heap.size) (a := w) (by repeat (first | exact B1.out | refine Below.drews ?_ | refine Below.drew ?_ | refine Below.alloc ?_ (by have hq_ := B1.out.size; first | omega | (simp <;> omega)) _ | refine Below.setCell ?_ (by have hq_ := B1.out.size; first | omega | (simp <;> omega)) _)) b2 (by have hq_ := B1.out.size; first | omega | (simp <;> omega))); have p0 := Hb.mk (At.re p0.out b2 (by first | exact p0c | simp [go_sem, p0c, p0l]) (by first | exact p0z | simp [go_sem, p0z, p0l])); obtain ⟨p0c, p0z, p0l⟩ := p0.out; have p1 := Hb.mk (At.re p1.out b2 (by first | exact p1c | simp [go_sem, p1c, p1l]) (by first | exact p1z | simp [go_sem, p1z, p1l])); obtain ⟨p1c, p1z, p1l⟩ := p1.out; clear b2)
      | (go_at_call 10; clear tk_b; refine (toPlace_any _ _ _).mono ?_; rintro e w3 ⟨rfl, b3⟩; have B3 := Hb.mk (Below.on (B := w.heap.size) (a := w) (by repeat (first | exact B2.out | refine Below.drews ?_ | refine Below.drew ?_ | refine Below.alloc ?_ (by have hq_ := B2.out.size; first | omega | (simp <;> omega)) _ | refine Below.setCell ?_ (by have hq_ := B2.out.size; first | omega | (simp <;> omega)) _)) b3 (by have hq_ := B2.out.size; first | omega | (simp <;> omega))); have g0 := Hb.mk (At.keep b3 (p := ⟨w2.heap.size, 0, none⟩) (v := .float .f32 X) (by simp [go_sem]) (by simp [go_sem])); obtain ⟨g0c, g0z, g0l⟩ := g0.out; have g1 := Hb.mk (At.keep b3 (p := ⟨w2.heap.size, 1, none⟩) (v := .float .f32 Y) (by simp [go_sem]) (by simp [go_sem])); obtain ⟨g1c, g1z, g1l⟩ := g1.out; clear b3)
      | (go_at_call 11; refine (KG.out _).mono ?_; rintro e w4 ⟨rfl, b4⟩; have B4 := Hb.mk (Below.on (B := w.heap.size) (a := w) (by repeat (first | exact B3.out | refine Below.drews ?_ | refine Below.drew ?_ | refine Below.alloc ?_ (by have hq_ := B3.out.size; first | omega | (simp <;> omega)) _ | refine Below.setCell ?_ (by have hq_ := B3.out.size; first | omega | (simp <;> omega)) _)) b4 (by have hq_ := B3.out.size; first | omega | (simp <;> omega))); have g0 := Hb.mk (At.re g0.out b4 (by first | exact g0c | simp [go_sem, g0c, g0l]) (by first | exact g0z | simp [go_sem, g0z, g0l])); obtain ⟨g0c, g0z, g0l⟩ := g0.out; have g1 := Hb.mk (At.re g1.out b4 (by first | exact g1c | simp [go_sem, g1c, g1l]) (by first | exact g1z | simp [go_sem, g1z, g1l])); obtain ⟨g1c, g1z, g1l⟩ := g1.out; clear b4)
      | (go_at_call 12; refine (eqPlace_any f1 f2 f1 f2 _).mono ?_; rintro e w5 ⟨rfl, b5⟩; have B5 := Hb.mk (Below.on (B := w.heap.size) (a := w) (by repeat (first | exact B4.out | refine Below.drews ?_ | refine Below.drew ?_ | refine Below.alloc ?_ (by have hq_ := B4.out.size; first | omega | (simp <;> omega)) _ | refine Below.setCell ?_ (by have hq_ := B4.out.size; first | omega | (simp <;> omega)) _)) b5 (by have hq_ := B4.out.size; first | omega | (simp <;> omega))); clear b5))
    go_ret
    exact ⟨rfl, (by repeat (first | exact B5.out | refine Below.drews ?_ | refine Below.drew ?_ | refine Below.alloc ?_ (by have hq_ := B5.out.size; first | omega | (simp <;> omega)) _ | refine Below.setCell ?_ (by have hq_ := B5.out.size; first | omega | (simp <;> omega)) _))⟩
end Go.Proofs.Ytfmhbmehidlhiaa
