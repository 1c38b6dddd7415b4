/-
  Maps: what copies them, whether they are valid; the exact law ValidMap. No premise beyond those named.
-/
import Derived.Test.YtenekhckmglobaaGreatPls
namespace Go.Proofs.YtenekhckmglobaaGreat
open Go Go.RowKit
set_option maxRecDepth 100000

abbrev mp (k : Int) (n e f : Nat) : Value := .agg #[.int .i64 k, .float .f32 n, .float .f32 e, .float .f32 f]
def kindIn (k : Int) : Bool := decide (0 ≤ k ∧ k ≤ 6)
def firstIn (f : Nat) : Bool := fcmp .geq .f32 f 3195388559 && fcmp .leq .f32 f 1047904911
def validM (k : Int) (n e f : Nat) : Bool := kindIn k && (validC n e && firstIn f)
theorem toMap_any (k : Int) (n e f : Nat) (w : World) : Calls Tryz.prog 9 #[mp k n e f] w (RS (mp k n e f) w) := by
  have B0 := Hb.mk (Below.refl w.heap.size w)
  go_enter Tryz.func9, Tryz.ntmps9
  go_wp2_with (first | (go_at_call 10; refine (toPlace_any _ _ _).mono ?_; rintro ex w1 ⟨rfl, b1⟩; have B1 := Hb.mk (Below.on (B := w.heap.size) (a := w) (by repeat (first | exact B0.out | refine Below.drews ?_ | refine Below.drew ?_ | refine Below.alloc ?_ (by have hq_ := B0.out.size; first | omega | (simp <;> omega)) _ | refine Below.setCell ?_ (by have hq_ := B0.out.size; first | omega | (simp <;> omega)) _)) b1 (by have hq_ := B0.out.size; first | omega | (simp <;> omega))); have p0 := Hb.mk (At.keep b1 (p := ⟨w.heap.size, 0, none⟩) (v := .int .i64 k) (by simp [go_sem]) (by simp [go_sem])); obtain ⟨p0c, p0z, p0l⟩ := p0.out; have p1 := Hb.mk (At.keep b1 (p := ⟨w.heap.size, 1, none⟩) (v := .float .f32 n) (by simp [go_sem]) (by simp [go_sem])); obtain ⟨p1c, p1z, p1l⟩ := p1.out; have p2 := Hb.mk (At.keep b1 (p := ⟨w.heap.size, 2, none⟩) (v := .float .f32 e) (by simp [go_sem]) (by simp [go_sem])); obtain ⟨p2c, p2z, p2l⟩ := p2.out; have p3 := Hb.mk (At.keep b1 (p := ⟨w.heap.size, 3, none⟩) (v := .float .f32 f) (by simp [go_sem]) (by simp [go_sem])); obtain ⟨p3c, p3z, p3l⟩ := p3.out; have q0 := Hb.mk (At.keep b1 (p := ⟨w.heap.size + 1, 0, none⟩) (v := .int .i64 0) (by simp [go_sem]) (by simp [go_sem])); obtain ⟨q0c, q0z, q0l⟩ := q0.out; have q1 := Hb.mk (At.keep b1 (p := ⟨w.heap.size + 1, 1, none⟩) (v := .float .f32 0) (by simp [go_sem]) (by simp [go_sem])); obtain ⟨q1c, q1z, q1l⟩ := q1.out; have q2 := Hb.mk (At.keep b1 (p := ⟨w.heap.size + 1, 2, none⟩) (v := .float .f32 0) (by simp [go_sem]) (by simp [go_sem])); obtain ⟨q2c, q2z, q2l⟩ := q2.out; have q3 := Hb.mk (At.keep b1 (p := ⟨w.heap.size + 1, 3, none⟩) (v := .float .f32 0) (by simp [go_sem]) (by simp [go_sem])); obtain ⟨q3c, q3z, q3l⟩ := q3.out; have r0 := Hb.mk (At.keep b1 (p := ⟨w.heap.size + 2, 0, none⟩) (v := .int .i64 k) (by simp [go_sem]) (by simp [go_sem])); obtain ⟨r0c, r0z, r0l⟩ := r0.out; have r1 := Hb.mk (At.keep b1 (p := ⟨w.heap.size + 2, 1, none⟩) (v := .float .f32 0) (by simp [go_sem]) (by simp [go_sem])); obtain ⟨r1c, r1z, r1l⟩ := r1.out; have r2 := Hb.mk (At.keep b1 (p := ⟨w.heap.size + 2, 2, none⟩) (v := .float .f32 0) (by simp [go_sem]) (by simp [go_sem])); obtain ⟨r2c, r2z, r2l⟩ := r2.out; have r3 := Hb.mk (At.keep b1 (p := ⟨w.heap.size + 2, 3, none⟩) (v := .float .f32 0) (by simp [go_sem]) (by simp [go_sem])); obtain ⟨r3c, r3z, r3l⟩ := r3.out; clear b1))
  exact bodyPost_ret (v := mp k n e f) (by simp [results, Tryz.results9, go_sem, q0c, q1c, q2c, q3c]) rfl ⟨rfl, (by repeat (first | with_reducible refine Below.setCell ?_ (by first | omega | (simp <;> omega)) _ | with_reducible refine Below.drews ?_ | with_reducible refine Below.drew ?_ | with_reducible refine Below.alloc ?_ (by first | omega | (simp <;> omega)) _ | with_reducible exact B1.out | with_reducible exact Below.refl _ _))⟩
theorem valid_no1 {k : Int} {n e f : Nat} (h : kindIn k = false) : validM k n e f = false := by unfold validM; rw [h]; rfl
theorem valid_no2 {k : Int} {n e f : Nat} (h : kindIn k = true) (h2 : validC n e = false) : validM k n e f = false := by unfold validM; rw [h, h2]; rfl
theorem valid_no3 {k : Int} {n e f : Nat} (h : kindIn k = true) (h2 : validC n e = true) (h3 : fcmp .geq .f32 f 3195388559 = false) : validM k n e f = false := by unfold validM firstIn; rw [h, h2, h3]; rfl
theorem valid_yes {k : Int} {n e f : Nat} (h : kindIn k = true) (h2 : validC n e = true) (h3 : fcmp .geq .f32 f 3195388559 = true) : validM k n e f = fcmp .leq .f32 f 1047904911 := by unfold validM firstIn; rw [h, h2, h3]; rfl
theorem kindsIn_any {k : Int} (w : World) : Calls Tryz.prog 51 #[.int .i64 k, .int .i64 0, .int .i64 6] w (RB (kindIn k) w) := by
  by_cases h : 0 ≤ k ∧ k ≤ 6
  · rw [show kindIn k = true by unfold kindIn; rw [decide_eq_true h]]
    exact l00In_yes h.1 h.2 w
  · rw [show kindIn k = false by unfold kindIn; rw [decide_eq_false h]]
    exact l00In_no (by omega) w
set_option maxHeartbeats 1000000 in
theorem l03Is_any {k : Int} {cn ce cf n e f : Nat} {p : Nat} (h1 : Fl .f32 cn n) (h2 : Fl .f32 ce e) (h3 : Fl .f32 cf f) (w : World) (c0 : w.cell? ⟨p, 0, none⟩ = some (.int .i64 k)) (c1 : w.cell? ⟨p, 1, none⟩ = some (.float .f32 n)) (c2 : w.cell? ⟨p, 2, none⟩ = some (.float .f32 e)) (c3 : w.cell? ⟨p, 3, none⟩ = some (.float .f32 f)) : Calls Tryz.prog 22 #[.pointer (some ⟨p, 0, none⟩)] w (RB (validM k cn ce cf) w) := by
  have KK := kindsIn_any (k := k)
  have KP := l02IsAt_any h1 h2 (p := p) (o := 1)
  cases hk : kindIn k
  · rw [hk] at KK
    have HK := Keep.mk KK
    have HV := Keep.mk (valid_no1 (n := cn) (e := ce) (f := cf) hk)
    clear KK KP hk
    go_enter Tryz.func22, Tryz.ntmps22
    go_wp2_with (first | (go_at_call 51; refine (HK.out _).mono ?_; rintro e w' ⟨rfl, n, rfl⟩))
    go_ret
    rw [HV.out]
    exact RB.any rfl (by repeat (first | exact Drew.refl _ | refine Drew.more ?_))
  · rw [hk] at KK
    have HK := Keep.mk KK
    cases hp : validC cn ce
    · rw [hp] at KP
      have HP := Keep.mk KP
      have HV := Keep.mk (valid_no2 (f := cf) hk hp)
      clear KK KP hk hp
      go_enter Tryz.func22, Tryz.ntmps22
      go_wp2_with (first | (go_at_call 51; refine (HK.out _).mono ?_; rintro e w' ⟨rfl, n, rfl⟩) | (go_at_call 23; refine (HP.out _ (by simpa using c1) (by simpa using c2)).mono ?_; rintro e w' ⟨rfl, n, rfl⟩))
      go_ret
      rw [HV.out]
      exact RB.any rfl (by repeat (first | exact Drew.refl _ | refine Drew.more ?_))
    · rw [hp] at KP
      have HP := Keep.mk KP
      cases g1 : fcmp .geq .f32 cf 3195388559
      · have HV := Keep.mk (valid_no3 hk hp g1)
        clear KK KP hk hp
        go_enter Tryz.func22, Tryz.ntmps22
        go_wp2_with (first | (go_at_call 51; refine (HK.out _).mono ?_; rintro e w' ⟨rfl, n, rfl⟩) | (go_at_call 23; refine (HP.out _ (by simpa using c1) (by simpa using c2)).mono ?_; rintro e w' ⟨rfl, n, rfl⟩) | (refine wpList_fcmp_g rfl rfl rfl rfl rfl (by first | (with_reducible assumption) | (with_reducible exact Fl.ofInt _ _) | exact Fl.not (by decide +kernel) (by decide +kernel)) (by first | (with_reducible assumption) | (with_reducible exact Fl.ofInt _ _) | exact Fl.not (by decide +kernel) (by decide +kernel)) ?_; simp only [Act.put, List.setIfInBounds_toArray, List.set_cons_succ, List.set_cons_zero, g1]))
        go_ret
        rw [HV.out]
        exact RB.any rfl (by repeat (first | exact Drew.refl _ | refine Drew.more ?_))
      · have HV := Keep.mk (valid_yes hk hp g1)
        clear KK KP hk hp
        go_enter Tryz.func22, Tryz.ntmps22
        go_wp2_with (first | (go_at_call 51; refine (HK.out _).mono ?_; rintro e w' ⟨rfl, n, rfl⟩) | (go_at_call 23; refine (HP.out _ (by simpa using c1) (by simpa using c2)).mono ?_; rintro e w' ⟨rfl, n, rfl⟩) | (refine wpList_fcmp_g rfl rfl rfl rfl rfl (by first | (with_reducible assumption) | (with_reducible exact Fl.ofInt _ _) | exact Fl.not (by decide +kernel) (by decide +kernel)) (by first | (with_reducible assumption) | (with_reducible exact Fl.ofInt _ _) | exact Fl.not (by decide +kernel) (by decide +kernel)) ?_; simp only [Act.put, List.setIfInBounds_toArray, List.set_cons_succ, List.set_cons_zero, g1]))
        go_ret
        rw [HV.out]
        exact RB.any rfl (by repeat (first | exact Drew.refl _ | refine Drew.more ?_))
set_option maxHeartbeats 1000000 in
theorem iValidMap_any {k : Int} {cn ce cf n e f : Nat} (h1 : Fl .f32 cn n) (h2 : Fl .f32 ce e) (h3 : Fl .f32 cf f) (w : World) : Calls Tryz.prog 25 #[mp k n e f] w (RS (.bool (validM k cn ce cf)) w) := by
  have B0 := Hb.mk (Below.refl w.heap.size w)
  have KP := iValidPlace_any h1 h2
  by_cases k1 : 0 ≤ k
  · by_cases k2 : k ≤ 6
    · have hk : kindIn k = true := by unfold kindIn; rw [decide_eq_true ⟨k1, k2⟩]
      cases hp : validC cn ce
      · rw [hp] at KP
        have HP := Keep.mk KP
        have HV := Keep.mk (valid_no2 (f := cf) hk hp)
        clear KP hk hp
        go_enter Tryz.func25, Tryz.ntmps25
        go_wp2_with (first | (go_at_call 26; refine (HP.out _).mono ?_; rintro ex w1 ⟨rfl, b1⟩; have B1 := Hb.mk (Below.on (B := w.heap.size) (a := w) (by repeat (first | exact B0.out | refine Below.drews ?_ | refine Below.drew ?_ | refine Below.alloc ?_ (by have hq_ := B0.out.size; first | omega | (simp <;> omega)) _ | refine Below.setCell ?_ (by have hq_ := B0.out.size; first | omega | (simp <;> omega)) _)) b1 (by have hq_ := B0.out.size; first | omega | (simp <;> omega))); clear b1))
        go_ret
        rw [HV.out]
        exact ⟨rfl, (by repeat (first | with_reducible refine Below.setCell ?_ (by first | omega | (simp <;> omega)) _ | with_reducible refine Below.drews ?_ | with_reducible refine Below.drew ?_ | with_reducible refine Below.alloc ?_ (by first | omega | (simp <;> omega)) _ | with_reducible exact B1.out | with_reducible exact Below.refl _ _))⟩
      · rw [hp] at KP
        have HP := Keep.mk KP
        cases g1 : fcmp .geq .f32 cf 3195388559
        · have HV := Keep.mk (valid_no3 hk hp g1)
          clear KP hk hp
          go_enter Tryz.func25, Tryz.ntmps25
          go_wp2_with (first | (go_at_call 26; refine (HP.out _).mono ?_; rintro ex w1 ⟨rfl, b1⟩; have B1 := Hb.mk (Below.on (B := w.heap.size) (a := w) (by repeat (first | exact B0.out | refine Below.drews ?_ | refine Below.drew ?_ | refine Below.alloc ?_ (by have hq_ := B0.out.size; first | omega | (simp <;> omega)) _ | refine Below.setCell ?_ (by have hq_ := B0.out.size; first | omega | (simp <;> omega)) _)) b1 (by have hq_ := B0.out.size; first | omega | (simp <;> omega))); have p0 := Hb.mk (At.keep b1 (p := ⟨w.heap.size, 0, none⟩) (v := .int .i64 k) (by simp [go_sem]) (by simp [go_sem])); obtain ⟨p0c, p0z, p0l⟩ := p0.out; have p1 := Hb.mk (At.keep b1 (p := ⟨w.heap.size, 1, none⟩) (v := .float .f32 n) (by simp [go_sem]) (by simp [go_sem])); obtain ⟨p1c, p1z, p1l⟩ := p1.out; have p2 := Hb.mk (At.keep b1 (p := ⟨w.heap.size, 2, none⟩) (v := .float .f32 e) (by simp [go_sem]) (by simp [go_sem])); obtain ⟨p2c, p2z, p2l⟩ := p2.out; have p3 := Hb.mk (At.keep b1 (p := ⟨w.heap.size, 3, none⟩) (v := .float .f32 f) (by simp [go_sem]) (by simp [go_sem])); obtain ⟨p3c, p3z, p3l⟩ := p3.out; clear b1) | (refine wpList_fcmp_g rfl rfl rfl rfl rfl (by first | (with_reducible assumption) | (with_reducible exact Fl.ofInt _ _) | exact Fl.not (by decide +kernel) (by decide +kernel)) (by first | (with_reducible assumption) | (with_reducible exact Fl.ofInt _ _) | exact Fl.not (by decide +kernel) (by decide +kernel)) ?_; simp only [Act.put, List.setIfInBounds_toArray, List.set_cons_succ, List.set_cons_zero, g1]))
          go_ret
          rw [HV.out]
          exact ⟨rfl, (by repeat (first | with_reducible refine Below.setCell ?_ (by first | omega | (simp <;> omega)) _ | with_reducible refine Below.drews ?_ | with_reducible refine Below.drew ?_ | with_reducible refine Below.alloc ?_ (by first | omega | (simp <;> omega)) _ | with_reducible exact B1.out | with_reducible exact Below.refl _ _))⟩
        · have HV := Keep.mk (valid_yes hk hp g1)
          clear KP hk hp
          go_enter Tryz.func25, Tryz.ntmps25
          go_wp2_with (first | (go_at_call 26; refine (HP.out _).mono ?_; rintro ex w1 ⟨rfl, b1⟩; have B1 := Hb.mk (Below.on (B := w.heap.size) (a := w) (by repeat (first | exact B0.out | refine Below.drews ?_ | refine Below.drew ?_ | refine Below.alloc ?_ (by have hq_ := B0.out.size; first | omega | (simp <;> omega)) _ | refine Below.setCell ?_ (by have hq_ := B0.out.size; first | omega | (simp <;> omega)) _)) b1 (by have hq_ := B0.out.size; first | omega | (simp <;> omega))); have p0 := Hb.mk (At.keep b1 (p := ⟨w.heap.size, 0, none⟩) (v := .int .i64 k) (by simp [go_sem]) (by simp [go_sem])); obtain ⟨p0c, p0z, p0l⟩ := p0.out; have p1 := Hb.mk (At.keep b1 (p := ⟨w.heap.size, 1, none⟩) (v := .float .f32 n) (by simp [go_sem]) (by simp [go_sem])); obtain ⟨p1c, p1z, p1l⟩ := p1.out; have p2 := Hb.mk (At.keep b1 (p := ⟨w.heap.size, 2, none⟩) (v := .float .f32 e) (by simp [go_sem]) (by simp [go_sem])); obtain ⟨p2c, p2z, p2l⟩ := p2.out; have p3 := Hb.mk (At.keep b1 (p := ⟨w.heap.size, 3, none⟩) (v := .float .f32 f) (by simp [go_sem]) (by simp [go_sem])); obtain ⟨p3c, p3z, p3l⟩ := p3.out; clear b1) | (refine wpList_fcmp_g rfl rfl rfl rfl rfl (by first | (with_reducible assumption) | (with_reducible exact Fl.ofInt _ _) | exact Fl.not (by decide +kernel) (by decide +kernel)) (by first | (with_reducible assumption) | (with_reducible exact Fl.ofInt _ _) | exact Fl.not (by decide +kernel) (by decide +kernel)) ?_; simp only [Act.put, List.setIfInBounds_toArray, List.set_cons_succ, List.set_cons_zero, g1]))
          go_ret
          rw [HV.out]
          exact ⟨rfl, (by repeat (first | with_reducible refine Below.setCell ?_ (by first | omega | (simp <;> omega)) _ | with_reducible refine Below.drews ?_ | with_reducible refine Below.drew ?_ | with_reducible refine Below.alloc ?_ (by first | omega | (simp <;> omega)) _ | with_reducible exact B1.out | with_reducible exact Below.refl _ _))⟩
    · have HV := Keep.mk (valid_no1 (k := k) (n := cn) (e := ce) (f := cf) (by unfold kindIn; rw [decide_eq_false (by omega)]))
      have k3 : decide (k ≤ 6) = false := by rw [decide_eq_false k2]
      clear KP
      go_enter Tryz.func25, Tryz.ntmps25
      go_wp2
      go_ret
      rw [HV.out]
      exact ⟨rfl, (by repeat (first | with_reducible refine Below.setCell ?_ (by first | omega | (simp <;> omega)) _ | with_reducible refine Below.drews ?_ | with_reducible refine Below.drew ?_ | with_reducible refine Below.alloc ?_ (by first | omega | (simp <;> omega)) _ | with_reducible exact B0.out | with_reducible exact Below.refl _ _))⟩
  · have HV := Keep.mk (valid_no1 (k := k) (n := cn) (e := ce) (f := cf) (by unfold kindIn; rw [decide_eq_false (by omega)]))
    clear KP
    go_enter Tryz.func25, Tryz.ntmps25
    go_wp2
    go_ret
    rw [HV.out]
    exact ⟨rfl, (by repeat (first | with_reducible refine Below.setCell ?_ (by first | omega | (simp <;> omega)) _ | with_reducible refine Below.drews ?_ | with_reducible refine Below.drew ?_ | with_reducible refine Below.alloc ?_ (by first | omega | (simp <;> omega)) _ | with_reducible exact B0.out | with_reducible exact Below.refl _ _))⟩
end Go.Proofs.YtenekhckmglobaaGreat
