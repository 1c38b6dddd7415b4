/-
  ZoneMap, of the program and of its model; its exact law. No condition.
-/
import Derived.Test.YtjjhklfpdllijabMap
import Derived.Test.YtjjhklfpdllijabZon
namespace Go.Proofs.Ytjjhklfpdllijab
open Go Go.RowKit
set_option maxRecDepth 100000

abbrev mpT (k : Int) (n e f : Nat) (ok : Bool) : Value := .tuple #[mp k n e f, .bool ok]
theorem mid_all : ∀ z : Fin 61, ∀ n : Fin 61, n.val < z.val → isEastC (midC (n.val : Int) (z.val : Int)) = true := by decide +kernel
theorem mid_east {n z : Int} (h0 : 0 ≤ n) (h1 : n < z) (h2 : z ≤ 60) : isEastC (midC n z) = true := by
  have := mid_all ⟨z.toNat, by omega⟩ ⟨n.toNat, by omega⟩ (by show n.toNat < z.toNat; omega)
  have e1 : (((⟨z.toNat, by omega⟩ : Fin 61).val : Nat) : Int) = z := by show (z.toNat : Int) = z; omega
  have e2 : (((⟨n.toNat, by omega⟩ : Fin 61).val : Nat) : Int) = n := by show (n.toNat : Int) = n; omega
  rw [e1, e2] at this
  exact this
theorem mid_fin {n z : Int} (h0 : 0 ≤ n) (h1 : n < z) (h2 : z ≤ 60) : isN .f32 (midC n z) = false := fin_notN (east_ab (mid_east h0 h1 h2)).fin
theorem mid_fl {n z : Int} (h0 : 0 ≤ n) (h1 : n < z) (h2 : z ≤ 60) : Fl .f32 (midC n z) (midC n z) := Fl.not (mid_fin h0 h1 h2) (wf_fop _ _ _ _)
theorem areZ_of {z : Int} (h : areZ z = true) : 1 ≤ z ∧ z ≤ 60 := by unfold areZ at h; exact of_decide_eq_true h
theorem valid_mid {k : Int} {cn ce cf : Nat} {n z : Int} (h : validM k cn ce cf = true) (h0 : 0 ≤ n) (h1 : n < z) (h2 : z ≤ 60) : validM k cn (midC n z) cf = true := by
  unfold validM validC at h ⊢
  simp only [Bool.and_eq_true] at h ⊢
  exact ⟨h.1, ⟨h.2.1.1, mid_east h0 h1 h2⟩, h.2.2⟩
theorem eqMap_any {k : Int} {cn ce cf n e f n' e' f' : Nat} (h1 : Fl .f32 cn n) (h2 : Fl .f32 ce e) (h3 : Fl .f32 cf f) (h4 : Fl .f32 cn n') (h5 : Fl .f32 ce e') (h6 : Fl .f32 cf f') (w : World) : Calls Try.prog 29 #[mp k n e f, mp k n' e' f'] w (RS (.bool true) w) := by
  have B0 := Hb.mk (Below.refl w.heap.size w)
  have hkk : (k != k) = false := by simp
  go_enter Try.func29, Try.ntmps29
  go_wp2_with (first | (go_at_call 14; refine (eqPlace_any h1 h2 h4 h5 _).mono ?_; rintro ex w1 ⟨rfl, b1⟩; have B1 := Hb.mk (Below.on (B := w.heap.size) (a := w) (by repeat (first | exact B0.out | refine Below.drews ?_ | refine Below.drew ?_ | refine Below.alloc ?_ (by have hq_ := B0.out.size; first | omega | (simp <;> omega)) _ | refine Below.setCell ?_ (by have hq_ := B0.out.size; first | omega | (simp <;> omega)) _)) b1 (by have hq_ := B0.out.size; first | omega | (simp <;> omega))); have p0 := Hb.mk (At.keep b1 (p := ⟨w.heap.size, 0, none⟩) (v := .int .i64 k) (by simp [go_sem]) (by simp [go_sem])); obtain ⟨p0c, p0z, p0l⟩ := p0.out; have p1 := Hb.mk (At.keep b1 (p := ⟨w.heap.size, 1, none⟩) (v := .float .f32 n) (by simp [go_sem]) (by simp [go_sem])); obtain ⟨p1c, p1z, p1l⟩ := p1.out; have p2 := Hb.mk (At.keep b1 (p := ⟨w.heap.size, 2, none⟩) (v := .float .f32 e) (by simp [go_sem]) (by simp [go_sem])); obtain ⟨p2c, p2z, p2l⟩ := p2.out; have p3 := Hb.mk (At.keep b1 (p := ⟨w.heap.size, 3, none⟩) (v := .float .f32 f) (by simp [go_sem]) (by simp [go_sem])); obtain ⟨p3c, p3z, p3l⟩ := p3.out; have q0 := Hb.mk (At.keep b1 (p := ⟨w.heap.size + 1, 0, none⟩) (v := .int .i64 k) (by simp [go_sem]) (by simp [go_sem])); obtain ⟨q0c, q0z, q0l⟩ := q0.out; have q1 := Hb.mk (At.keep b1 (p := ⟨w.heap.size + 1, 1, none⟩) (v := .float .f32 n') (by simp [go_sem]) (by simp [go_sem])); obtain ⟨q1c, q1z, q1l⟩ := q1.out; have q2 := Hb.mk (At.keep b1 (p := ⟨w.heap.size + 1, 2, none⟩) (v := .float .f32 e') (by simp [go_sem]) (by simp [go_sem])); obtain ⟨q2c, q2z, q2l⟩ := q2.out; have q3 := Hb.mk (At.keep b1 (p := ⟨w.heap.size + 1, 3, none⟩) (v := .float .f32 f') (by simp [go_sem]) (by simp [go_sem])); obtain ⟨q3c, q3z, q3l⟩ := q3.out; clear b1) | (refine wpList_fcv rfl rfl rfl (by kernel_rfl) Try.underlying39 (by decide) (by first | (with_reducible assumption) | (with_reducible exact Fl.ofInt _ _) | exact Fl.not (by decide +kernel) (by decide +kernel)) (fits_wide _) ?_; intro r n hr; simp only [Act.put, List.setIfInBounds_toArray, List.set_cons_succ, List.set_cons_zero]) | (go_at_call 19; refine (sameFloat_any (by assumption) (by assumption) _).mono ?_; rintro e w' ⟨rfl, n, rfl⟩))
  go_ret
  exact ⟨rfl, (by repeat (first | with_reducible refine Below.setCell ?_ (by first | omega | (simp <;> omega)) _ | with_reducible refine Below.drews ?_ | with_reducible refine Below.drew ?_ | with_reducible refine Below.alloc ?_ (by first | omega | (simp <;> omega)) _ | with_reducible exact B1.out | with_reducible exact Below.refl _ _))⟩
set_option maxHeartbeats 1000000 in
theorem iZoneMap_no0 {k zn z : Int} {cn ce cf n e f : Nat} (h1 : Fl .f32 cn n) (h2 : Fl .f32 ce e) (h3 : Fl .f32 cf f) (hv : validM k cn ce cf = false) (w : World) : Calls Try.prog 28 #[mp k n e f, .int .i64 zn, .int .i64 z] w (RS (mpT 0 0 0 0 false) w) := by
  have B0 := Hb.mk (Below.refl w.heap.size w)
  have KV := iValidMap_any (k := k) h1 h2 h3
  rw [hv] at KV
  have HV := Hb.mk KV
  clear KV hv 
  go_enter Try.func28, Try.ntmps28
  go_wp2_with (first | (go_at_call 22; refine (HV.out _).mono ?_; rintro ex w1 ⟨rfl, b1⟩; have B1 := Hb.mk (Below.on (B := w.heap.size) (a := w) (by repeat (first | exact B0.out | refine Below.drews ?_ | refine Below.drew ?_ | refine Below.alloc ?_ (by have hq_ := B0.out.size; first | omega | (simp <;> omega)) _ | refine Below.setCell ?_ (by have hq_ := B0.out.size; first | omega | (simp <;> omega)) _)) b1 (by have hq_ := B0.out.size; first | omega | (simp <;> omega))); have p0 := Hb.mk (At.keep b1 (p := ⟨w.heap.size, 0, none⟩) (v := .int .i64 k) (by simp [go_sem]) (by simp [go_sem])); obtain ⟨p0c, p0z, p0l⟩ := p0.out; have p1 := Hb.mk (At.keep b1 (p := ⟨w.heap.size, 1, none⟩) (v := .float .f32 n) (by simp [go_sem]) (by simp [go_sem])); obtain ⟨p1c, p1z, p1l⟩ := p1.out; have p2 := Hb.mk (At.keep b1 (p := ⟨w.heap.size, 2, none⟩) (v := .float .f32 e) (by simp [go_sem]) (by simp [go_sem])); obtain ⟨p2c, p2z, p2l⟩ := p2.out; have p3 := Hb.mk (At.keep b1 (p := ⟨w.heap.size, 3, none⟩) (v := .float .f32 f) (by simp [go_sem]) (by simp [go_sem])); obtain ⟨p3c, p3z, p3l⟩ := p3.out; have q0 := Hb.mk (At.keep b1 (p := ⟨w.heap.size + 1, 0, none⟩) (v := .int .i64 0) (by simp [go_sem]) (by simp [go_sem])); obtain ⟨q0c, q0z, q0l⟩ := q0.out; have q1 := Hb.mk (At.keep b1 (p := ⟨w.heap.size + 1, 1, none⟩) (v := .float .f32 0) (by simp [go_sem]) (by simp [go_sem])); obtain ⟨q1c, q1z, q1l⟩ := q1.out; have q2 := Hb.mk (At.keep b1 (p := ⟨w.heap.size + 1, 2, none⟩) (v := .float .f32 0) (by simp [go_sem]) (by simp [go_sem])); obtain ⟨q2c, q2z, q2l⟩ := q2.out; have q3 := Hb.mk (At.keep b1 (p := ⟨w.heap.size + 1, 3, none⟩) (v := .float .f32 0) (by simp [go_sem]) (by simp [go_sem])); obtain ⟨q3c, q3z, q3l⟩ := q3.out; clear b1))
  exact bodyPost_ret (v := mpT 0 0 0 0 false) (by first | simp [results, Try.results28, go_sem, q0c, q1c, q2c, q3c] | simp [results, Try.results28, go_sem, q0c, q1c, q2c, q3c]) rfl ⟨rfl, (by repeat (first | with_reducible refine Below.setCell ?_ (by first | omega | (simp <;> omega)) _ | with_reducible refine Below.drews ?_ | with_reducible refine Below.drew ?_ | with_reducible refine Below.alloc ?_ (by first | omega | (simp <;> omega)) _ | with_reducible exact B1.out | with_reducible exact Below.refl _ _))⟩
set_option maxHeartbeats 1000000 in
theorem iZoneMap_no1 {k zn z : Int} {cn ce cf n e f : Nat} (h1 : Fl .f32 cn n) (h2 : Fl .f32 ce e) (h3 : Fl .f32 cf f) (hv : validM k cn ce cf = true) (hz : areZ z = false) (w : World) : Calls Try.prog 28 #[mp k n e f, .int .i64 zn, .int .i64 z] w (RS (mpT 0 0 0 0 false) w) := by
  have B0 := Hb.mk (Below.refl w.heap.size w)
  have KV := iValidMap_any (k := k) h1 h2 h3
  rw [hv] at KV
  have HV := Hb.mk KV
  have KZ := areZones_any (z := z)
  rw [hz] at KZ
  have HZ := Hb.mk KZ
  clear KZ
  clear KV hv hz
  go_enter Try.func28, Try.ntmps28
  go_wp2_with (first | (go_at_call 22; refine (HV.out _).mono ?_; rintro ex w1 ⟨rfl, b1⟩; have B1 := Hb.mk (Below.on (B := w.heap.size) (a := w) (by repeat (first | exact B0.out | refine Below.drews ?_ | refine Below.drew ?_ | refine Below.alloc ?_ (by have hq_ := B0.out.size; first | omega | (simp <;> omega)) _ | refine Below.setCell ?_ (by have hq_ := B0.out.size; first | omega | (simp <;> omega)) _)) b1 (by have hq_ := B0.out.size; first | omega | (simp <;> omega))); have p0 := Hb.mk (At.keep b1 (p := ⟨w.heap.size, 0, none⟩) (v := .int .i64 k) (by simp [go_sem]) (by simp [go_sem])); obtain ⟨p0c, p0z, p0l⟩ := p0.out; have p1 := Hb.mk (At.keep b1 (p := ⟨w.heap.size, 1, none⟩) (v := .float .f32 n) (by simp [go_sem]) (by simp [go_sem])); obtain ⟨p1c, p1z, p1l⟩ := p1.out; have p2 := Hb.mk (At.keep b1 (p := ⟨w.heap.size, 2, none⟩) (v := .float .f32 e) (by simp [go_sem]) (by simp [go_sem])); obtain ⟨p2c, p2z, p2l⟩ := p2.out; have p3 := Hb.mk (At.keep b1 (p := ⟨w.heap.size, 3, none⟩) (v := .float .f32 f) (by simp [go_sem]) (by simp [go_sem])); obtain ⟨p3c, p3z, p3l⟩ := p3.out; have q0 := Hb.mk (At.keep b1 (p := ⟨w.heap.size + 1, 0, none⟩) (v := .int .i64 0) (by simp [go_sem]) (by simp [go_sem])); obtain ⟨q0c, q0z, q0l⟩ := q0.out; have q1 := Hb.mk (At.keep b1 (p := ⟨w.heap.size + 1, 1, none⟩) (v := .float .f32 0) (by simp [go_sem]) (by simp [go_sem])); obtain ⟨q1c, q1z, q1l⟩ := q1.out; have q2 := Hb.mk (At.keep b1 (p := ⟨w.heap.size + 1, 2, none⟩) (v := .float .f32 0) (by simp [go_sem]) (by simp [go_sem])); obtain ⟨q2c, q2z, q2l⟩ := q2.out; have q3 := Hb.mk (At.keep b1 (p := ⟨w.heap.size + 1, 3, none⟩) (v := .float .f32 0) (by simp [go_sem]) (by simp [go_sem])); obtain ⟨q3c, q3z, q3l⟩ := q3.out; clear b1) | (go_at_call 57; refine (HZ.out _).mono ?_; rintro ex w9 ⟨rfl, m9, rfl⟩))
  exact bodyPost_ret (v := mpT 0 0 0 0 false) (by first | simp [results, Try.results28, go_sem, q0c, q1c, q2c, q3c] | simp [results, Try.results28, go_sem, q0c, q1c, q2c, q3c]) rfl ⟨rfl, (by repeat (first | with_reducible refine Below.setCell ?_ (by first | omega | (simp <;> omega)) _ | with_reducible refine Below.drews ?_ | with_reducible refine Below.drew ?_ | with_reducible refine Below.alloc ?_ (by first | omega | (simp <;> omega)) _ | with_reducible exact B1.out | with_reducible exact Below.refl _ _))⟩
set_option maxHeartbeats 1000000 in
theorem iZoneMap_no2 {k zn z : Int} {cn ce cf n e f : Nat} (h1 : Fl .f32 cn n) (h2 : Fl .f32 ce e) (h3 : Fl .f32 cf f) (hv : validM k cn ce cf = true) (hz : areZ z = true) (hn : zn < 0) (w : World) : Calls Try.prog 28 #[mp k n e f, .int .i64 zn, .int .i64 z] w (RS (mpT 0 0 0 0 false) w) := by
  have B0 := Hb.mk (Below.refl w.heap.size w)
  obtain ⟨z1, z2⟩ := areZ_of hz
  have KV := iValidMap_any (k := k) h1 h2 h3
  rw [hv] at KV
  have HV := Hb.mk KV
  have KZ := areZones_any (z := z)
  rw [hz] at KZ
  have HZ := Hb.mk KZ
  clear KZ
  clear KV hv hz
  go_enter Try.func28, Try.ntmps28
  go_wp2_with (first | (go_at_call 22; refine (HV.out _).mono ?_; rintro ex w1 ⟨rfl, b1⟩; have B1 := Hb.mk (Below.on (B := w.heap.size) (a := w) (by repeat (first | exact B0.out | refine Below.drews ?_ | refine Below.drew ?_ | refine Below.alloc ?_ (by have hq_ := B0.out.size; first | omega | (simp <;> omega)) _ | refine Below.setCell ?_ (by have hq_ := B0.out.size; first | omega | (simp <;> omega)) _)) b1 (by have hq_ := B0.out.size; first | omega | (simp <;> omega))); have p0 := Hb.mk (At.keep b1 (p := ⟨w.heap.size, 0, none⟩) (v := .int .i64 k) (by simp [go_sem]) (by simp [go_sem])); obtain ⟨p0c, p0z, p0l⟩ := p0.out; have p1 := Hb.mk (At.keep b1 (p := ⟨w.heap.size, 1, none⟩) (v := .float .f32 n) (by simp [go_sem]) (by simp [go_sem])); obtain ⟨p1c, p1z, p1l⟩ := p1.out; have p2 := Hb.mk (At.keep b1 (p := ⟨w.heap.size, 2, none⟩) (v := .float .f32 e) (by simp [go_sem]) (by simp [go_sem])); obtain ⟨p2c, p2z, p2l⟩ := p2.out; have p3 := Hb.mk (At.keep b1 (p := ⟨w.heap.size, 3, none⟩) (v := .float .f32 f) (by simp [go_sem]) (by simp [go_sem])); obtain ⟨p3c, p3z, p3l⟩ := p3.out; have q0 := Hb.mk (At.keep b1 (p := ⟨w.heap.size + 1, 0, none⟩) (v := .int .i64 0) (by simp [go_sem]) (by simp [go_sem])); obtain ⟨q0c, q0z, q0l⟩ := q0.out; have q1 := Hb.mk (At.keep b1 (p := ⟨w.heap.size + 1, 1, none⟩) (v := .float .f32 0) (by simp [go_sem]) (by simp [go_sem])); obtain ⟨q1c, q1z, q1l⟩ := q1.out; have q2 := Hb.mk (At.keep b1 (p := ⟨w.heap.size + 1, 2, none⟩) (v := .float .f32 0) (by simp [go_sem]) (by simp [go_sem])); obtain ⟨q2c, q2z, q2l⟩ := q2.out; have q3 := Hb.mk (At.keep b1 (p := ⟨w.heap.size + 1, 3, none⟩) (v := .float .f32 0) (by simp [go_sem]) (by simp [go_sem])); obtain ⟨q3c, q3z, q3l⟩ := q3.out; clear b1) | (go_at_call 57; refine (HZ.out _).mono ?_; rintro ex w9 ⟨rfl, m9, rfl⟩))
  exact bodyPost_ret (v := mpT 0 0 0 0 false) (by first | simp [results, Try.results28, go_sem, q0c, q1c, q2c, q3c] | simp [results, Try.results28, go_sem, q0c, q1c, q2c, q3c]) rfl ⟨rfl, (by repeat (first | with_reducible refine Below.setCell ?_ (by first | omega | (simp <;> omega)) _ | with_reducible refine Below.drews ?_ | with_reducible refine Below.drew ?_ | with_reducible refine Below.alloc ?_ (by first | omega | (simp <;> omega)) _ | with_reducible exact B1.out | with_reducible exact Below.refl _ _))⟩
set_option maxHeartbeats 1000000 in
theorem iZoneMap_no3 {k zn z : Int} {cn ce cf n e f : Nat} (h1 : Fl .f32 cn n) (h2 : Fl .f32 ce e) (h3 : Fl .f32 cf f) (hv : validM k cn ce cf = true) (hz : areZ z = true) (hn : 0 ≤ zn) (hn2 : z ≤ zn) (w : World) : Calls Try.prog 28 #[mp k n e f, .int .i64 zn, .int .i64 z] w (RS (mpT 0 0 0 0 false) w) := by
  have B0 := Hb.mk (Below.refl w.heap.size w)
  obtain ⟨z1, z2⟩ := areZ_of hz
  have KV := iValidMap_any (k := k) h1 h2 h3
  rw [hv] at KV
  have HV := Hb.mk KV
  have KZ := areZones_any (z := z)
  rw [hz] at KZ
  have HZ := Hb.mk KZ
  clear KZ
  clear KV hv hz
  go_enter Try.func28, Try.ntmps28
  go_wp2_with (first | (go_at_call 22; refine (HV.out _).mono ?_; rintro ex w1 ⟨rfl, b1⟩; have B1 := Hb.mk (Below.on (B := w.heap.size) (a := w) (by repeat (first | exact B0.out | refine Below.drews ?_ | refine Below.drew ?_ | refine Below.alloc ?_ (by have hq_ := B0.out.size; first | omega | (simp <;> omega)) _ | refine Below.setCell ?_ (by have hq_ := B0.out.size; first | omega | (simp <;> omega)) _)) b1 (by have hq_ := B0.out.size; first | omega | (simp <;> omega))); have p0 := Hb.mk (At.keep b1 (p := ⟨w.heap.size, 0, none⟩) (v := .int .i64 k) (by simp [go_sem]) (by simp [go_sem])); obtain ⟨p0c, p0z, p0l⟩ := p0.out; have p1 := Hb.mk (At.keep b1 (p := ⟨w.heap.size, 1, none⟩) (v := .float .f32 n) (by simp [go_sem]) (by simp [go_sem])); obtain ⟨p1c, p1z, p1l⟩ := p1.out; have p2 := Hb.mk (At.keep b1 (p := ⟨w.heap.size, 2, none⟩) (v := .float .f32 e) (by simp [go_sem]) (by simp [go_sem])); obtain ⟨p2c, p2z, p2l⟩ := p2.out; have p3 := Hb.mk (At.keep b1 (p := ⟨w.heap.size, 3, none⟩) (v := .float .f32 f) (by simp [go_sem]) (by simp [go_sem])); obtain ⟨p3c, p3z, p3l⟩ := p3.out; have q0 := Hb.mk (At.keep b1 (p := ⟨w.heap.size + 1, 0, none⟩) (v := .int .i64 0) (by simp [go_sem]) (by simp [go_sem])); obtain ⟨q0c, q0z, q0l⟩ := q0.out; have q1 := Hb.mk (At.keep b1 (p := ⟨w.heap.size + 1, 1, none⟩) (v := .float .f32 0) (by simp [go_sem]) (by simp [go_sem])); obtain ⟨q1c, q1z, q1l⟩ := q1.out; have q2 := Hb.mk (At.keep b1 (p := ⟨w.heap.size + 1, 2, none⟩) (v := .float .f32 0) (by simp [go_sem]) (by simp [go_sem])); obtain ⟨q2c, q2z, q2l⟩ := q2.out; have q3 := Hb.mk (At.keep b1 (p := ⟨w.heap.size + 1, 3, none⟩) (v := .float .f32 0) (by simp [go_sem]) (by simp [go_sem])); obtain ⟨q3c, q3z, q3l⟩ := q3.out; clear b1) | (go_at_call 57; refine (HZ.out _).mono ?_; rintro ex w9 ⟨rfl, m9, rfl⟩))
  exact bodyPost_ret (v := mpT 0 0 0 0 false) (by first | simp [results, Try.results28, go_sem, q0c, q1c, q2c, q3c] | simp [results, Try.results28, go_sem, q0c, q1c, q2c, q3c]) rfl ⟨rfl, (by repeat (first | with_reducible refine Below.setCell ?_ (by first | omega | (simp <;> omega)) _ | with_reducible refine Below.drews ?_ | with_reducible refine Below.drew ?_ | with_reducible refine Below.alloc ?_ (by first | omega | (simp <;> omega)) _ | with_reducible exact B1.out | with_reducible exact Below.refl _ _))⟩
set_option maxHeartbeats 1000000 in
theorem iZoneMap_yes {k zn z : Int} {cn ce cf n e f : Nat} (h1 : Fl .f32 cn n) (h2 : Fl .f32 ce e) (h3 : Fl .f32 cf f) (hv : validM k cn ce cf = true) (hz : areZ z = true) (hn : 0 ≤ zn) (hn2 : zn < z) (w : World) : Calls Try.prog 28 #[mp k n e f, .int .i64 zn, .int .i64 z] w (RS (mpT k n (midC zn z) f true) w) := by
  have B0 := Hb.mk (Below.refl w.heap.size w)
  obtain ⟨z1, z2⟩ := areZ_of hz
  have nN := Hb.mk (mid_fin hn hn2 z2)
  have KV := iValidMap_any (k := k) h1 h2 h3
  rw [hv] at KV
  have HV := Hb.mk KV
  have KZ := areZones_any (z := z)
  rw [hz] at KZ
  have HZ := Hb.mk KZ
  clear KZ
  clear KV hv hz
  go_enter Try.func28, Try.ntmps28
  go_wp2_with (first | (go_at_call 22; refine (HV.out _).mono ?_; rintro ex w1 ⟨rfl, b1⟩; have B1 := Hb.mk (Below.on (B := w.heap.size) (a := w) (by repeat (first | exact B0.out | refine Below.drews ?_ | refine Below.drew ?_ | refine Below.alloc ?_ (by have hq_ := B0.out.size; first | omega | (simp <;> omega)) _ | refine Below.setCell ?_ (by have hq_ := B0.out.size; first | omega | (simp <;> omega)) _)) b1 (by have hq_ := B0.out.size; first | omega | (simp <;> omega))); have p0 := Hb.mk (At.keep b1 (p := ⟨w.heap.size, 0, none⟩) (v := .int .i64 k) (by simp [go_sem]) (by simp [go_sem])); obtain ⟨p0c, p0z, p0l⟩ := p0.out; have p1 := Hb.mk (At.keep b1 (p := ⟨w.heap.size, 1, none⟩) (v := .float .f32 n) (by simp [go_sem]) (by simp [go_sem])); obtain ⟨p1c, p1z, p1l⟩ := p1.out; have p2 := Hb.mk (At.keep b1 (p := ⟨w.heap.size, 2, none⟩) (v := .float .f32 e) (by simp [go_sem]) (by simp [go_sem])); obtain ⟨p2c, p2z, p2l⟩ := p2.out; have p3 := Hb.mk (At.keep b1 (p := ⟨w.heap.size, 3, none⟩) (v := .float .f32 f) (by simp [go_sem]) (by simp [go_sem])); obtain ⟨p3c, p3z, p3l⟩ := p3.out; have q0 := Hb.mk (At.keep b1 (p := ⟨w.heap.size + 1, 0, none⟩) (v := .int .i64 0) (by simp [go_sem]) (by simp [go_sem])); obtain ⟨q0c, q0z, q0l⟩ := q0.out; have q1 := Hb.mk (At.keep b1 (p := ⟨w.heap.size + 1, 1, none⟩) (v := .float .f32 0) (by simp [go_sem]) (by simp [go_sem])); obtain ⟨q1c, q1z, q1l⟩ := q1.out; have q2 := Hb.mk (At.keep b1 (p := ⟨w.heap.size + 1, 2, none⟩) (v := .float .f32 0) (by simp [go_sem]) (by simp [go_sem])); obtain ⟨q2c, q2z, q2l⟩ := q2.out; have q3 := Hb.mk (At.keep b1 (p := ⟨w.heap.size + 1, 3, none⟩) (v := .float .f32 0) (by simp [go_sem]) (by simp [go_sem])); obtain ⟨q3c, q3z, q3l⟩ := q3.out; clear b1) | (go_at_call 57; refine (HZ.out _).mono ?_; rintro ex w9 ⟨rfl, m9, rfl⟩) | (go_at_call 58; refine (middleOfZone_any _).mono ?_; rintro ex w2 ⟨r, m, rfl, hr, rfl⟩; obtain rfl := (hr.word nN.out).symm))
  exact bodyPost_ret (v := mpT k n (midC zn z) f true) (by first | simp [results, Try.results28, go_sem, q0c, q1c, q2c, q3c] | simp [results, Try.results28, go_sem, q0c, q1c, q2c, q3c]) rfl ⟨rfl, (by repeat (first | with_reducible refine Below.setCell ?_ (by first | omega | (simp <;> omega)) _ | with_reducible refine Below.drews ?_ | with_reducible refine Below.drew ?_ | with_reducible refine Below.alloc ?_ (by first | omega | (simp <;> omega)) _ | with_reducible exact B1.out | with_reducible exact Below.refl _ _))⟩
set_option maxHeartbeats 1000000 in
theorem sZoneMap_no0 {k zn z : Int} {cn ce cf n e f : Nat} (h1 : Fl .f32 cn n) (h2 : Fl .f32 ce e) (h3 : Fl .f32 cf f) (hv : validM k cn ce cf = false) (w : World) : Calls Try.prog 27 #[mp k n e f, .int .i64 zn, .int .i64 z] w (RS (mpT 0 0 0 0 false) w) := by
  have B0 := Hb.mk (Below.refl w.heap.size w)
  have HV := Hb.mk hv
  clear hv 
  go_enter Try.func27, Try.ntmps27
  have tk_a : True := trivial; have tk_b : True := trivial; have tk_c : True := trivial; have tk_d : True := trivial
  go_wp2_with (first | (go_at_call 48; clear tk_a; refine (l03Is_any (k := k) h1 h2 h3 _ (by first | simp | simp [go_sem]) (by first | simp | simp [go_sem]) (by first | simp | simp [go_sem]) (by first | simp | simp [go_sem])).mono ?_; rw [HV.out]; rintro ex w1 ⟨rfl, m1, rfl⟩))
  exact bodyPost_ret (v := mpT 0 0 0 0 false) (by first | simp [results, Try.results27, go_sem] | simp [results, Try.results27, go_sem]) rfl ⟨rfl, (by repeat (first | with_reducible refine Below.setCell ?_ (by first | omega | (simp <;> omega)) _ | with_reducible refine Below.drews ?_ | with_reducible refine Below.drew ?_ | with_reducible refine Below.alloc ?_ (by first | omega | (simp <;> omega)) _ | with_reducible exact B0.out | with_reducible exact Below.refl _ _))⟩
set_option maxHeartbeats 1000000 in
theorem sZoneMap_no1 {k zn z : Int} {cn ce cf n e f : Nat} (h1 : Fl .f32 cn n) (h2 : Fl .f32 ce e) (h3 : Fl .f32 cf f) (hv : validM k cn ce cf = true) (hz : areZ z = false) (w : World) : Calls Try.prog 27 #[mp k n e f, .int .i64 zn, .int .i64 z] w (RS (mpT 0 0 0 0 false) w) := by
  have B0 := Hb.mk (Below.refl w.heap.size w)
  have HV := Hb.mk hv
  have KZ := zonesIn_any (z := z)
  rw [hz] at KZ
  have HZ := Hb.mk KZ
  clear KZ
  clear hv hz
  go_enter Try.func27, Try.ntmps27
  have tk_a : True := trivial; have tk_b : True := trivial; have tk_c : True := trivial; have tk_d : True := trivial
  go_wp2_with (first | (go_at_call 48; clear tk_a; refine (l03Is_any (k := k) h1 h2 h3 _ (by first | simp | simp [go_sem]) (by first | simp | simp [go_sem]) (by first | simp | simp [go_sem]) (by first | simp | simp [go_sem])).mono ?_; rw [HV.out]; rintro ex w1 ⟨rfl, m1, rfl⟩) | (go_at_call 53; clear tk_b; refine (HZ.out _).mono ?_; rintro ex w2 ⟨rfl, m2, rfl⟩))
  exact bodyPost_ret (v := mpT 0 0 0 0 false) (by first | simp [results, Try.results27, go_sem] | simp [results, Try.results27, go_sem]) rfl ⟨rfl, (by repeat (first | with_reducible refine Below.setCell ?_ (by first | omega | (simp <;> omega)) _ | with_reducible refine Below.drews ?_ | with_reducible refine Below.drew ?_ | with_reducible refine Below.alloc ?_ (by first | omega | (simp <;> omega)) _ | with_reducible exact B0.out | with_reducible exact Below.refl _ _))⟩
set_option maxHeartbeats 1000000 in
theorem sZoneMap_no2 {k zn z : Int} {cn ce cf n e f : Nat} (h1 : Fl .f32 cn n) (h2 : Fl .f32 ce e) (h3 : Fl .f32 cf f) (hv : validM k cn ce cf = true) (hz : areZ z = true) (hn : zn < 0) (w : World) : Calls Try.prog 27 #[mp k n e f, .int .i64 zn, .int .i64 z] w (RS (mpT 0 0 0 0 false) w) := by
  have B0 := Hb.mk (Below.refl w.heap.size w)
  obtain ⟨z1, z2⟩ := areZ_of hz
  have HV := Hb.mk hv
  have KZ := zonesIn_any (z := z)
  rw [hz] at KZ
  have HZ := Hb.mk KZ
  clear KZ
  clear hv hz
  go_enter Try.func27, Try.ntmps27
  have tk_a : True := trivial; have tk_b : True := trivial; have tk_c : True := trivial; have tk_d : True := trivial
  go_wp2_with (first | (go_at_call 48; clear tk_a; refine (l03Is_any (k := k) h1 h2 h3 _ (by first | simp | simp [go_sem]) (by first | simp | simp [go_sem]) (by first | simp | simp [go_sem]) (by first | simp | simp [go_sem])).mono ?_; rw [HV.out]; rintro ex w1 ⟨rfl, m1, rfl⟩) | (go_at_call 53; clear tk_b; refine (HZ.out _).mono ?_; rintro ex w2 ⟨rfl, m2, rfl⟩) | (go_at_call 53; clear tk_c; refine (l00In_no (by omega) _).mono ?_; rintro ex w3 ⟨rfl, m3, rfl⟩))
  exact bodyPost_ret (v := mpT 0 0 0 0 false) (by first | simp [results, Try.results27, go_sem] | simp [results, Try.results27, go_sem]) rfl ⟨rfl, (by repeat (first | with_reducible refine Below.setCell ?_ (by first | omega | (simp <;> omega)) _ | with_reducible refine Below.drews ?_ | with_reducible refine Below.drew ?_ | with_reducible refine Below.alloc ?_ (by first | omega | (simp <;> omega)) _ | with_reducible exact B0.out | with_reducible exact Below.refl _ _))⟩
set_option maxHeartbeats 1000000 in
theorem sZoneMap_no3 {k zn z : Int} {cn ce cf n e f : Nat} (h1 : Fl .f32 cn n) (h2 : Fl .f32 ce e) (h3 : Fl .f32 cf f) (hv : validM k cn ce cf = true) (hz : areZ z = true) (_hn : 0 ≤ zn) (hn2 : z ≤ zn) (w : World) : Calls Try.prog 27 #[mp k n e f, .int .i64 zn, .int .i64 z] w (RS (mpT 0 0 0 0 false) w) := by
  have B0 := Hb.mk (Below.refl w.heap.size w)
  obtain ⟨z1, z2⟩ := areZ_of hz
  have HV := Hb.mk hv
  have KZ := zonesIn_any (z := z)
  rw [hz] at KZ
  have HZ := Hb.mk KZ
  clear KZ
  clear hv hz
  go_enter Try.func27, Try.ntmps27
  have tk_a : True := trivial; have tk_b : True := trivial; have tk_c : True := trivial; have tk_d : True := trivial
  go_wp2_with (first | (go_at_call 48; clear tk_a; refine (l03Is_any (k := k) h1 h2 h3 _ (by first | simp | simp [go_sem]) (by first | simp | simp [go_sem]) (by first | simp | simp [go_sem]) (by first | simp | simp [go_sem])).mono ?_; rw [HV.out]; rintro ex w1 ⟨rfl, m1, rfl⟩) | (go_at_call 53; clear tk_b; refine (HZ.out _).mono ?_; rintro ex w2 ⟨rfl, m2, rfl⟩) | (go_at_call 53; clear tk_c; refine (l00In_no (by omega) _).mono ?_; rintro ex w3 ⟨rfl, m3, rfl⟩))
  exact bodyPost_ret (v := mpT 0 0 0 0 false) (by first | simp [results, Try.results27, go_sem] | simp [results, Try.results27, go_sem]) rfl ⟨rfl, (by repeat (first | with_reducible refine Below.setCell ?_ (by first | omega | (simp <;> omega)) _ | with_reducible refine Below.drews ?_ | with_reducible refine Below.drew ?_ | with_reducible refine Below.alloc ?_ (by first | omega | (simp <;> omega)) _ | with_reducible exact B0.out | with_reducible exact Below.refl _ _))⟩
set_option maxHeartbeats 1000000 in
theorem sZoneMap_yes {k zn z : Int} {cn ce cf n e f : Nat} (h1 : Fl .f32 cn n) (h2 : Fl .f32 ce e) (h3 : Fl .f32 cf f) (hv : validM k cn ce cf = true) (hz : areZ z = true) (hn : 0 ≤ zn) (hn2 : zn < z) (w : World) : Calls Try.prog 27 #[mp k n e f, .int .i64 zn, .int .i64 z] w (RS (mpT k n (midC zn z) f true) w) := by
  have B0 := Hb.mk (Below.refl w.heap.size w)
  obtain ⟨z1, z2⟩ := areZ_of hz
  have nN := Hb.mk (mid_fin hn hn2 z2)
  have HV := Hb.mk hv
  have KZ := zonesIn_any (z := z)
  rw [hz] at KZ
  have HZ := Hb.mk KZ
  clear KZ
  have HV2 := Hb.mk (valid_mid hv hn hn2 z2)
  have hE := mid_fl hn hn2 z2
  clear hv hz
  go_enter Try.func27, Try.ntmps27
  have tk_a : True := trivial; have tk_b : True := trivial; have tk_c : True := trivial; have tk_d : True := trivial
  go_wp2_with (first | (go_at_call 48; clear tk_a; refine (l03Is_any (k := k) h1 h2 h3 _ (by first | simp | simp [go_sem]) (by first | simp | simp [go_sem]) (by first | simp | simp [go_sem]) (by first | simp | simp [go_sem])).mono ?_; rw [HV.out]; rintro ex w1 ⟨rfl, m1, rfl⟩) | (go_at_call 53; clear tk_b; refine (HZ.out _).mono ?_; rintro ex w2 ⟨rfl, m2, rfl⟩) | (go_at_call 53; clear tk_c; refine (l00In_yes hn (by omega) _).mono ?_; rintro ex w3 ⟨rfl, m3, rfl⟩) | (go_at_call 55; refine (l03Middle_any _).mono ?_; rintro ex w4 ⟨r, m4, rfl, hr, rfl⟩; obtain rfl := (hr.word nN.out).symm) | (go_at_call 48; clear tk_d; refine (l03Is_any (k := k) h1 hE h3 _ (by first | simp | simp [go_sem]) (by first | simp | simp [go_sem]) (by first | simp | simp [go_sem]) (by first | simp | simp [go_sem])).mono ?_; rw [HV2.out]; rintro ex w5 ⟨rfl, m5, rfl⟩))
  exact bodyPost_ret (v := mpT k n (midC zn z) f true) (by first | simp [results, Try.results27, go_sem] | simp [results, Try.results27, go_sem]) rfl ⟨rfl, (by repeat (first | with_reducible refine Below.setCell ?_ (by first | omega | (simp <;> omega)) _ | with_reducible refine Below.drews ?_ | with_reducible refine Below.drew ?_ | with_reducible refine Below.alloc ?_ (by first | omega | (simp <;> omega)) _ | with_reducible exact B0.out | with_reducible exact Below.refl _ _))⟩
theorem pair_ZoneMap {k zn z : Int} {n e f : Nat} (wn : (Lit.float .f32 n).wf = true) (we : (Lit.float .f32 e).wf = true) (wf : (Lit.float .f32 f).wf = true) :
    ∃ K N E F ok, Hb (∀ w, Calls Try.prog 27 #[mp k n e f, .int .i64 zn, .int .i64 z] w (RS (mpT K N E F ok) w)) ∧ Hb (∀ w, Calls Try.prog 28 #[mp k n e f, .int .i64 zn, .int .i64 z] w (RS (mpT K N E F ok) w)) ∧ (Lit.float .f32 N).wf = true ∧ (Lit.float .f32 E).wf = true ∧ (Lit.float .f32 F).wf = true := by
  have h1 := Fl.own wn
  have h2 := Fl.own we
  have h3 := Fl.own wf
  have w0 : (Lit.float .f32 0).wf = true := by decide +kernel
  cases hv : validM k (nrm .f32 n) (nrm .f32 e) (nrm .f32 f)
  · exact ⟨_, _, _, _, _, ⟨sZoneMap_no0 h1 h2 h3 hv⟩, ⟨iZoneMap_no0 h1 h2 h3 hv⟩, w0, w0, w0⟩
  · cases hz : areZ z
    · exact ⟨_, _, _, _, _, ⟨sZoneMap_no1 h1 h2 h3 hv hz⟩, ⟨iZoneMap_no1 h1 h2 h3 hv hz⟩, w0, w0, w0⟩
    · by_cases g1 : zn < 0
      · exact ⟨_, _, _, _, _, ⟨sZoneMap_no2 h1 h2 h3 hv hz g1⟩, ⟨iZoneMap_no2 h1 h2 h3 hv hz g1⟩, w0, w0, w0⟩
      · by_cases g2 : zn < z
        · exact ⟨_, _, _, _, _, ⟨sZoneMap_yes h1 h2 h3 hv hz (by omega) g2⟩, ⟨iZoneMap_yes h1 h2 h3 hv hz (by omega) g2⟩, wn, wf_fop _ _ _ _, wf⟩
        · exact ⟨_, _, _, _, _, ⟨sZoneMap_no3 h1 h2 h3 hv hz (by omega) (by omega)⟩, ⟨iZoneMap_no3 h1 h2 h3 hv hz (by omega) (by omega)⟩, w0, w0, w0⟩
set_option maxHeartbeats 2000000 in
theorem law_ZoneMap {k0 : Int} {n0 e0 f0 : Nat} {zn z : Int} (_wk0 : (Lit.int .i64 k0).wf = true) (wn0 : (Lit.float .f32 n0).wf = true) (we0 : (Lit.float .f32 e0).wf = true) (wf0 : (Lit.float .f32 f0).wf = true) (_w1 : (Lit.int .i64 zn).wf = true) (_w2 : (Lit.int .i64 z).wf = true) (w : World) : Calls Try.prog 8 #[mp k0 n0 e0 f0, .int .i64 zn, .int .i64 z] w (RS (.bool true) w) := by
  obtain ⟨K, N, E, F, ok, KS, KG, g1, g2, g3⟩ := pair_ZoneMap (k := k0) (zn := zn) (z := z) wn0 we0 wf0
  have KE := Hb.mk (eqMap_any (k := K) (Fl.own g1) (Fl.own g2) (Fl.own g3) (Fl.own g1) (Fl.own g2) (Fl.own g3))
  clear g1 g2 g3
  have B0 := Hb.mk (Below.refl w.heap.size w)
  cases ok
  all_goals
    go_enter Try.func8, Try.ntmps8
    have tk_a : True := trivial; have tk_b : True := trivial
    go_wp2_with (first
      | (go_at_call 21; clear tk_a; refine (toMap_any _ _ _ _ _).mono ?_; rintro ex w1 ⟨rfl, b1⟩; have B1 := Hb.mk (Below.on (B := w.heap.size) (a := w) (by repeat (first | exact B0.out | refine Below.drews ?_ | refine Below.drew ?_ | refine Below.alloc ?_ (by have hq_ := B0.out.size; first | omega | (simp <;> omega)) _ | refine Below.setCell ?_ (by have hq_ := B0.out.size; first | omega | (simp <;> omega)) _)) b1 (by have hq_ := B0.out.size; first | omega | (simp <;> omega))); have p0 := Hb.mk (At.keep b1 (p := ⟨w.heap.size, 0, none⟩) (v := .int .i64 k0) (by simp [go_sem]) (by simp [go_sem])); obtain ⟨p0c, p0z, p0l⟩ := p0.out; have p1 := Hb.mk (At.keep b1 (p := ⟨w.heap.size, 1, none⟩) (v := .float .f32 n0) (by simp [go_sem]) (by simp [go_sem])); obtain ⟨p1c, p1z, p1l⟩ := p1.out; have p2 := Hb.mk (At.keep b1 (p := ⟨w.heap.size, 2, none⟩) (v := .float .f32 e0) (by simp [go_sem]) (by simp [go_sem])); obtain ⟨p2c, p2z, p2l⟩ := p2.out; have p3 := Hb.mk (At.keep b1 (p := ⟨w.heap.size, 3, none⟩) (v := .float .f32 f0) (by simp [go_sem]) (by simp [go_sem])); obtain ⟨p3c, p3z, p3l⟩ := p3.out; clear b1)
      | (go_at_call 27; refine (KS.out _).mono ?_; rintro ex w2 ⟨rfl, b2⟩; have B2 := Hb.mk (Below.on (B := w.heap.size) (a := w) (by repeat (first | exact B1.out | refine Below.drews ?_ | refine Below.drew ?_ | refine Below.alloc ?_ (by have hq_ := B1.out.size; first | omega | (simp <;> omega)) _ | refine Below.setCell ?_ (by have hq_ := B1.out.size; first | omega | (simp <;> omega)) _)) b2 (by have hq_ := B1.out.size; first | omega | (simp <;> omega))); have p0 := Hb.mk (At.re p0.out b2 (by first | exact p0c | simp [go_sem, p0c, p0l]) (by first | exact p0z | simp [go_sem, p0z, p0l])); obtain ⟨p0c, p0z, p0l⟩ := p0.out; have p1 := Hb.mk (At.re p1.out b2 (by first | exact p1c | simp [go_sem, p1c, p1l]) (by first | exact p1z | simp [go_sem, p1z, p1l])); obtain ⟨p1c, p1z, p1l⟩ := p1.out; have p2 := Hb.mk (At.re p2.out b2 (by first | exact p2c | simp [go_sem, p2c, p2l]) (by first | exact p2z | simp [go_sem, p2z, p2l])); obtain ⟨p2c, p2z, p2l⟩ := p2.out; have p3 := Hb.mk (At.re p3.out b2 (by first | exact p3c | simp [go_sem, p3c, p3l]) (by first | exact p3z | simp [go_sem, p3z, p3l])); obtain ⟨p3c, p3z, p3l⟩ := p3.out; clear b2)
      | (go_at_call 21; clear tk_b; refine (toMap_any _ _ _ _ _).mono ?_; rintro ex w3 ⟨rfl, b3⟩; have B3 := Hb.mk (Below.on (B := w.heap.size) (a := w) (by repeat (first | exact B2.out | refine Below.drews ?_ | refine Below.drew ?_ | refine Below.alloc ?_ (by have hq_ := B2.out.size; first | omega | (simp <;> omega)) _ | refine Below.setCell ?_ (by have hq_ := B2.out.size; first | omega | (simp <;> omega)) _)) b3 (by have hq_ := B2.out.size; first | omega | (simp <;> omega))); have q0 := Hb.mk (At.keep b3 (p := ⟨w2.heap.size, 0, none⟩) (v := .int .i64 K) (by simp [go_sem]) (by simp [go_sem])); obtain ⟨q0c, q0z, q0l⟩ := q0.out; have q1 := Hb.mk (At.keep b3 (p := ⟨w2.heap.size, 1, none⟩) (v := .float .f32 N) (by simp [go_sem]) (by simp [go_sem])); obtain ⟨q1c, q1z, q1l⟩ := q1.out; have q2 := Hb.mk (At.keep b3 (p := ⟨w2.heap.size, 2, none⟩) (v := .float .f32 E) (by simp [go_sem]) (by simp [go_sem])); obtain ⟨q2c, q2z, q2l⟩ := q2.out; have q3 := Hb.mk (At.keep b3 (p := ⟨w2.heap.size, 3, none⟩) (v := .float .f32 F) (by simp [go_sem]) (by simp [go_sem])); obtain ⟨q3c, q3z, q3l⟩ := q3.out; clear b3)
      | (go_at_call 28; refine (KG.out _).mono ?_; rintro ex w4 ⟨rfl, b4⟩; have B4 := Hb.mk (Below.on (B := w.heap.size) (a := w) (by repeat (first | exact B3.out | refine Below.drews ?_ | refine Below.drew ?_ | refine Below.alloc ?_ (by have hq_ := B3.out.size; first | omega | (simp <;> omega)) _ | refine Below.setCell ?_ (by have hq_ := B3.out.size; first | omega | (simp <;> omega)) _)) b4 (by have hq_ := B3.out.size; first | omega | (simp <;> omega))); have q0 := Hb.mk (At.re q0.out b4 (by first | exact q0c | simp [go_sem, q0c, q0l]) (by first | exact q0z | simp [go_sem, q0z, q0l])); obtain ⟨q0c, q0z, q0l⟩ := q0.out; have q1 := Hb.mk (At.re q1.out b4 (by first | exact q1c | simp [go_sem, q1c, q1l]) (by first | exact q1z | simp [go_sem, q1z, q1l])); obtain ⟨q1c, q1z, q1l⟩ := q1.out; have q2 := Hb.mk (At.re q2.out b4 (by first | exact q2c | simp [go_sem, q2c, q2l]) (by first | exact q2z | simp [go_sem, q2z, q2l])); obtain ⟨q2c, q2z, q2l⟩ := q2.out; have q3 := Hb.mk (At.re q3.out b4 (by first | exact q3c | simp [go_sem, q3c, q3l]) (by first | exact q3z | simp [go_sem, q3z, q3l])); obtain ⟨q3c, q3z, q3l⟩ := q3.out; clear b4)
      | (go_at_call 29; refine (KE.out _).mono ?_; rintro ex w5 ⟨rfl, b5⟩; have B5 := Hb.mk (Below.on (B := w.heap.size) (a := w) (by repeat (first | exact B4.out | refine Below.drews ?_ | refine Below.drew ?_ | refine Below.alloc ?_ (by have hq_ := B4.out.size; first | omega | (simp <;> omega)) _ | refine Below.setCell ?_ (by have hq_ := B4.out.size; first | omega | (simp <;> omega)) _)) b5 (by have hq_ := B4.out.size; first | omega | (simp <;> omega))); clear b5))
    go_ret
    exact ⟨rfl, (by repeat (first | with_reducible refine Below.setCell ?_ (by first | omega | (simp <;> omega)) _ | with_reducible refine Below.drews ?_ | with_reducible refine Below.drew ?_ | with_reducible refine Below.alloc ?_ (by first | omega | (simp <;> omega)) _ | with_reducible exact B5.out | with_reducible exact Below.refl _ _))⟩
end Go.Proofs.Ytjjhklfpdllijab
