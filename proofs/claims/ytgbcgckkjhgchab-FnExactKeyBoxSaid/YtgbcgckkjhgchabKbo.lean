/-
  The corners of a key's tile, of the program and of its model; the exact law KeyBox. No condition.
-/
import Derived.Test.YtgbcgckkjhgchabKtl
import Derived.Test.YtgbcgckkjhgchabSteps
import Derived.Deep.RegionHeld3
namespace Go.Proofs.Ytgbcgckkjhgchab
open Go Go.RowKit
set_option maxRecDepth 100000

abbrev boxT (a b c d : Nat) (ok : Bool) : Value := .tuple #[pl a b, pl c d, .bool ok]
/-- 'returns two places told by four words, and ok; nothing that was there has been written' -/
def RBx (c1 c2 c3 c4 : Nat) (ok : Bool) (w : World) (e : Ending) (w' : World) : Prop := ∃ a b c d, e = .returned (boxT a b c d ok) ∧ Fl .f32 c1 a ∧ Fl .f32 c2 b ∧ Fl .f32 c3 c ∧ Fl .f32 c4 d ∧ Below w.heap.size w w'
/-- What is known of the numbers of a tile. -/
theorem box_nums {s : ByteArray} (h : keyB s = true) : ∃ U V P : Int, (kx s s.size : Int) * P = U ∧ (ky s s.size : Int) * P = V ∧ ((kx s s.size : Int) + 1) * P = U + P ∧ ((ky s s.size : Int) + 1) * P = V + P ∧ 0 ≤ U ∧ 0 ≤ V ∧ U + P ≤ 16777216 ∧ V + P ≤ 16777216 ∧ 16 ≤ P ∧ wrap64 ((2 : Int) ^ (24 - s.size)) = P := by
  obtain ⟨h20, hd⟩ := digs_of h
  have hx := kx_lt s s.size
  have hy := ky_lt hd
  have hp : 2 ^ s.size * 2 ^ (24 - s.size) = 16777216 := by rw [← Nat.pow_add, show s.size + (24 - s.size) = 24 by omega]
  have h16 : 16 ≤ 2 ^ (24 - s.size) := Nat.le_trans (by decide : 16 ≤ 2 ^ 4) (Nat.pow_le_pow_right (by decide) (by omega))
  have h1 := Nat.mul_le_mul_right (2 ^ (24 - s.size)) (show kx s s.size + 1 ≤ 2 ^ s.size from hx)
  have h2 := Nat.mul_le_mul_right (2 ^ (24 - s.size)) (show ky s s.size + 1 ≤ 2 ^ s.size from hy)
  rw [hp] at h1 h2
  rw [Nat.succ_mul] at h1 h2
  have hP : (2 : Int) ^ (24 - s.size) = ((2 ^ (24 - s.size) : Nat) : Int) := by simp
  have hPs : 2 ^ (24 - s.size) ≤ 16777216 := by omega
  refine ⟨((kx s s.size * 2 ^ (24 - s.size) : Nat) : Int), ((ky s s.size * 2 ^ (24 - s.size) : Nat) : Int), ((2 ^ (24 - s.size) : Nat) : Int), by rw [Int.natCast_mul], by rw [Int.natCast_mul], by rw [Int.add_mul, Int.one_mul, Int.natCast_mul], by rw [Int.add_mul, Int.one_mul, Int.natCast_mul], by omega, by omega, by omega, by omega, by omega, ?_⟩
  rw [hP]
  generalize 2 ^ (24 - s.size) = Q at *
  unfold wrap64
  omega
theorem placeOfDigits_any {u v : Int} (h1 : 0 ≤ u) (h2 : u ≤ 16777215) (h3 : 0 ≤ v) (h4 : v ≤ 16777215) (w : World) : Calls Try.prog 74 #[.int .i64 u, .int .i64 v] w (RPl (quoC (v / 2 - 4194304)) (quoC (u - 8388608)) true w) := by
  have KP := Hf.mk (fun w => iPlaceOfSteps_yes (n := v / 2 - 4194304) (e := u - 8388608) (by omega) (by omega) (by omega) (by omega) w)
  generalize quoC (v / 2 - 4194304) = a at *
  generalize quoC (u - 8388608) = b at *
  have B0 := Hb.mk (Below.refl w.heap.size w)
  go_enter Try.func74, Try.ntmps74
  go_wp2_with (first | (go_at_call 115; refine (KP.out _).mono ?_; rintro e w1 ⟨x, y, rfl, f1, f2, b1⟩; have B1 := Hb.mk (Below.on (B := w.heap.size) (a := w) (by repeat (first | exact B0.out | refine Below.drews ?_ | refine Below.drew ?_ | refine Below.alloc ?_ (by have hq_ := B0.out.size; first | omega | (simp <;> omega)) _ | refine Below.setCell ?_ (by have hq_ := B0.out.size; first | omega | (simp <;> omega)) _)) b1 (by have hq_ := B0.out.size; first | omega | (simp <;> omega))); have p0 := Hb.mk (At.keep b1 (p := ⟨(w.heap.size), 0, none⟩) (v := .float .f32 0) (by simp [go_sem]) (by simp [go_sem])); obtain ⟨p0c, p0z, p0l⟩ := p0.out; have p1 := Hb.mk (At.keep b1 (p := ⟨(w.heap.size), 1, none⟩) (v := .float .f32 0) (by simp [go_sem]) (by simp [go_sem])); obtain ⟨p1c, p1z, p1l⟩ := p1.out; clear b1))
  exact bodyPost_ret (v := .tuple #[pl x y, .bool true]) (by simp [results, Try.results74, go_sem, p0c, p1c]) rfl ⟨_, _, rfl, f1, f2, (by repeat (first | exact B1.out | refine Below.drews ?_ | refine Below.drew ?_ | refine Below.alloc ?_ (by have hq_ := B1.out.size; first | omega | (simp <;> omega)) _ | refine Below.setCell ?_ (by have hq_ := B1.out.size; first | omega | (simp <;> omega)) _))⟩
theorem iKeyBox_no {s : ByteArray} (hs : s.size ≤ 1048576) (hk : keyB s = false) (w : World) : Calls Try.prog 20 #[.string s] w (RBx 0 0 0 0 false w) := by
  have HI := Hf.mk (iIsKey_any s hs)
  rw [hk] at HI
  have B0 := Hb.mk (Below.refl w.heap.size w)
  go_enter Try.func20, Try.ntmps20
  go_wp2_with (first | (go_at_call 72; refine (HI.out _).mono ?_; rintro e w1 ⟨rfl, b1⟩; have B1 := Hb.mk (Below.on (B := w.heap.size) (a := w) (by repeat (first | exact B0.out | refine Below.drews ?_ | refine Below.drew ?_ | refine Below.alloc ?_ (by have hq_ := B0.out.size; first | omega | (simp <;> omega)) _ | refine Below.setCell ?_ (by have hq_ := B0.out.size; first | omega | (simp <;> omega)) _)) b1 (by have hq_ := B0.out.size; first | omega | (simp <;> omega))); have p0 := Hb.mk (At.keep b1 (p := ⟨(w.heap.size), 0, none⟩) (v := .float .f32 0) (by simp [go_sem]) (by simp [go_sem])); obtain ⟨p0c, p0z, p0l⟩ := p0.out; have p1 := Hb.mk (At.keep b1 (p := ⟨(w.heap.size), 1, none⟩) (v := .float .f32 0) (by simp [go_sem]) (by simp [go_sem])); obtain ⟨p1c, p1z, p1l⟩ := p1.out; have q0 := Hb.mk (At.keep b1 (p := ⟨(w.heap.size + 1), 0, none⟩) (v := .float .f32 0) (by simp [go_sem]) (by simp [go_sem])); obtain ⟨q0c, q0z, q0l⟩ := q0.out; have q1 := Hb.mk (At.keep b1 (p := ⟨(w.heap.size + 1), 1, none⟩) (v := .float .f32 0) (by simp [go_sem]) (by simp [go_sem])); obtain ⟨q1c, q1z, q1l⟩ := q1.out; clear b1))
  exact bodyPost_ret (v := boxT 0 0 0 0 false) (by simp [results, Try.results20, go_sem, p0c, p1c, q0c, q1c]) rfl ⟨_, _, _, _, rfl, fl0, fl0, fl0, fl0, (by repeat (first | exact B1.out | refine Below.drews ?_ | refine Below.drew ?_ | refine Below.alloc ?_ (by have hq_ := B1.out.size; first | omega | (simp <;> omega)) _ | refine Below.setCell ?_ (by have hq_ := B1.out.size; first | omega | (simp <;> omega)) _))⟩
set_option maxHeartbeats 4000000 in
theorem iKeyBox_yes {s : ByteArray} {U V P : Int} (hs : s.size ≤ 1048576) (hk : keyB s = true) (hU : (kx s s.size : Int) * P = U) (hV : (ky s s.size : Int) * P = V) (hU1 : ((kx s s.size : Int) + 1) * P = U + P) (hV1 : ((ky s s.size : Int) + 1) * P = V + P) (u0 : 0 ≤ U) (v0 : 0 ≤ V) (u1 : U + P ≤ 16777216) (v1 : V + P ≤ 16777216) (p0 : 16 ≤ P) (hP : wrap64 ((2 : Int) ^ (24 - s.size)) = P) (w : World) :
    Calls Try.prog 20 #[.string s] w (RBx (quoC (V / 2 - 4194304)) (quoC (U - 8388608)) (quoC ((V + P - 1) / 2 - 4194304)) (quoC (U + P - 1 - 8388608)) true w) := by
  obtain ⟨h20, hd⟩ := digs_of hk
  have hx := kx_lt s s.size
  have hy := ky_lt hd
  have hp := two20 h20
  have HI := Hf.mk (iIsKey_any s hs)
  rw [hk] at HI
  have HR := Hf.mk (fun w => tileOfKey_any hk w)
  have K1 := Hf.mk (fun w => placeOfDigits_any (u := U) (v := V) u0 (by omega) v0 (by omega) w)
  have K2 := Hf.mk (fun w => placeOfDigits_any (u := U + P - 1) (v := V + P - 1) (by omega) (by omega) (by omega) (by omega) w)
  generalize quoC (V / 2 - 4194304) = c1 at *
  generalize quoC (U - 8388608) = c2 at *
  generalize quoC ((V + P - 1) / 2 - 4194304) = c3 at *
  generalize quoC (U + P - 1 - 8388608) = c4 at *
  have hx' : kx s s.size < 1048576 := by omega
  have hy' : ky s s.size < 1048576 := by omega
  clear hx hy hd hk hp
  generalize kx s s.size = X at *
  generalize ky s s.size = Y at *
  have B0 := Hb.mk (Below.refl w.heap.size w)
  go_enter Try.func20, Try.ntmps20
  have tk_a : True := trivial; have tk_b : True := trivial
  go_wp2_with (first
    | (go_at_call 72; refine (HI.out _).mono ?_; rintro e w1 ⟨rfl, b1⟩; have B1 := Hb.mk (Below.on (B := w.heap.size) (a := w) (by repeat (first | exact B0.out | refine Below.drews ?_ | refine Below.drew ?_ | refine Below.alloc ?_ (by have hq_ := B0.out.size; first | omega | (simp <;> omega)) _ | refine Below.setCell ?_ (by have hq_ := B0.out.size; first | omega | (simp <;> omega)) _)) b1 (by have hq_ := B0.out.size; first | omega | (simp <;> omega))); have p0 := Hb.mk (At.keep b1 (p := ⟨(w.heap.size), 0, none⟩) (v := .float .f32 0) (by simp [go_sem]) (by simp [go_sem])); obtain ⟨p0c, p0z, p0l⟩ := p0.out; have p1 := Hb.mk (At.keep b1 (p := ⟨(w.heap.size), 1, none⟩) (v := .float .f32 0) (by simp [go_sem]) (by simp [go_sem])); obtain ⟨p1c, p1z, p1l⟩ := p1.out; have q0 := Hb.mk (At.keep b1 (p := ⟨(w.heap.size + 1), 0, none⟩) (v := .float .f32 0) (by simp [go_sem]) (by simp [go_sem])); obtain ⟨q0c, q0z, q0l⟩ := q0.out; have q1 := Hb.mk (At.keep b1 (p := ⟨(w.heap.size + 1), 1, none⟩) (v := .float .f32 0) (by simp [go_sem]) (by simp [go_sem])); obtain ⟨q1c, q1z, q1l⟩ := q1.out; clear b1)
    | (go_at_call 73; refine (HR.out _).mono ?_; rintro e w2 ⟨rfl, b2⟩; have B2 := Hb.mk (Below.on (B := w.heap.size) (a := w) (by repeat (first | exact B1.out | refine Below.drews ?_ | refine Below.drew ?_ | refine Below.alloc ?_ (by have hq_ := B1.out.size; first | omega | (simp <;> omega)) _ | refine Below.setCell ?_ (by have hq_ := B1.out.size; first | omega | (simp <;> omega)) _)) b2 (by have hq_ := B1.out.size; first | omega | (simp <;> omega))); have p0 := Hb.mk (At.re p0.out b2 (by first | exact p0c | simp [go_sem, p0c, p0l]) (by first | exact p0z | simp [go_sem, p0z, p0l])); obtain ⟨p0c, p0z, p0l⟩ := p0.out; have p1 := Hb.mk (At.re p1.out b2 (by first | exact p1c | simp [go_sem, p1c, p1l]) (by first | exact p1z | simp [go_sem, p1z, p1l])); obtain ⟨p1c, p1z, p1l⟩ := p1.out; have q0 := Hb.mk (At.re q0.out b2 (by first | exact q0c | simp [go_sem, q0c, q0l]) (by first | exact q0z | simp [go_sem, q0z, q0l])); obtain ⟨q0c, q0z, q0l⟩ := q0.out; have q1 := Hb.mk (At.re q1.out b2 (by first | exact q1c | simp [go_sem, q1c, q1l]) (by first | exact q1z | simp [go_sem, q1z, q1l])); obtain ⟨q1c, q1z, q1l⟩ := q1.out; clear b2)
    | (go_at_call 74; clear tk_a; refine (K1.out _).mono ?_; rintro e w3 ⟨x3, y3, rfl, f3, g3, b3⟩; have s2 : w.heap.size + 1 < w2.heap.size := q0l; have s3 := b3.size; simp only [World.size_alloc] at s3; have B3 := Hb.mk (Below.on (B := w.heap.size) (a := w) (by repeat (first | exact B2.out | refine Below.drews ?_ | refine Below.drew ?_ | refine Below.alloc ?_ (by have hq_ := B2.out.size; first | omega | (simp <;> omega)) _ | refine Below.setCell ?_ (by have hq_ := B2.out.size; first | omega | (simp <;> omega)) _)) b3 (by have hq_ := B2.out.size; first | omega | (simp <;> omega))); have p0 := Hb.mk (At.re p0.out b3 (by first | exact p0c | simp [go_sem, p0c, p0l]) (by first | exact p0z | simp [go_sem, p0z, p0l])); obtain ⟨p0c, p0z, p0l⟩ := p0.out; have p1 := Hb.mk (At.re p1.out b3 (by first | exact p1c | simp [go_sem, p1c, p1l]) (by first | exact p1z | simp [go_sem, p1z, p1l])); obtain ⟨p1c, p1z, p1l⟩ := p1.out; have q0 := Hb.mk (At.re q0.out b3 (by first | exact q0c | simp [go_sem, q0c, q0l]) (by first | exact q0z | simp [go_sem, q0z, q0l])); obtain ⟨q0c, q0z, q0l⟩ := q0.out; have q1 := Hb.mk (At.re q1.out b3 (by first | exact q1c | simp [go_sem, q1c, q1l]) (by first | exact q1z | simp [go_sem, q1z, q1l])); obtain ⟨q1c, q1z, q1l⟩ := q1.out; have t0 := Hb.mk (At.keep b3 (p := ⟨(w2.heap.size), 0, none⟩) (v := .int .i64 (s.size : Int)) (by simp [go_sem]) (by simp [go_sem])); obtain ⟨t0c, t0z, t0l⟩ := t0.out; have t1 := Hb.mk (At.keep b3 (p := ⟨(w2.heap.size), 1, none⟩) (v := .int .i64 (X : Int)) (by simp [go_sem]) (by simp [go_sem])); obtain ⟨t1c, t1z, t1l⟩ := t1.out; have t2 := Hb.mk (At.keep b3 (p := ⟨(w2.heap.size), 2, none⟩) (v := .int .i64 (Y : Int)) (by simp [go_sem]) (by simp [go_sem])); obtain ⟨t2c, t2z, t2l⟩ := t2.out; clear b3)
    | (go_at_call 74; clear tk_b; refine (K2.out _).mono ?_; rintro e w4 ⟨x4, y4, rfl, f4, g4, b4⟩; have B4 := Hb.mk (Below.on (B := w.heap.size) (a := w) (by repeat (first | exact B3.out | refine Below.drews ?_ | refine Below.drew ?_ | refine Below.alloc ?_ (by have hq_ := B3.out.size; first | omega | (simp <;> omega)) _ | refine Below.setCell ?_ (by have hq_ := B3.out.size; first | omega | (simp <;> omega)) _)) b4 (by have hq_ := B3.out.size; first | omega | (simp <;> omega))); have p0 := Hb.mk (At.re p0.out b4 (by first | exact p0c | simp [go_sem, p0c, p0l]) (by first | exact p0z | simp [go_sem, p0z, p0l])); obtain ⟨p0c, p0z, p0l⟩ := p0.out; have p1 := Hb.mk (At.re p1.out b4 (by first | exact p1c | simp [go_sem, p1c, p1l]) (by first | exact p1z | simp [go_sem, p1z, p1l])); obtain ⟨p1c, p1z, p1l⟩ := p1.out; have q0 := Hb.mk (At.re q0.out b4 (by first | exact q0c | simp [go_sem, q0c, q0l]) (by first | exact q0z | simp [go_sem, q0z, q0l])); obtain ⟨q0c, q0z, q0l⟩ := q0.out; have q1 := Hb.mk (At.re q1.out b4 (by first | exact q1c | simp [go_sem, q1c, q1l]) (by first | exact q1z | simp [go_sem, q1z, q1l])); obtain ⟨q1c, q1z, q1l⟩ := q1.out; have r0 := Hb.mk (At.keep b4 (p := ⟨(w3.heap.size), 0, none⟩) (v := .float .f32 x3) (by simp [go_sem]) (by simp [go_sem])); obtain ⟨r0c, r0z, r0l⟩ := r0.out; have r1 := Hb.mk (At.keep b4 (p := ⟨(w3.heap.size), 1, none⟩) (v := .float .f32 y3) (by simp [go_sem]) (by simp [go_sem])); obtain ⟨r1c, r1z, r1l⟩ := r1.out; clear b4))
  have d0 : ¬ w3.heap.size = w.heap.size := by omega
  have d1 : ¬ w.heap.size = w3.heap.size := by omega
  have d2 : ¬ w3.heap.size = w.heap.size + 1 := by omega
  have d3 : ¬ w.heap.size + 1 = w3.heap.size := by omega
  have d4 : ¬ w4.heap.size = w.heap.size := by omega
  have d5 : ¬ w.heap.size = w4.heap.size := by omega
  have d6 : ¬ w4.heap.size = w.heap.size + 1 := by omega
  have d7 : ¬ w.heap.size + 1 = w4.heap.size := by omega
  go_region
  go_wp2
  exact bodyPost_ret (v := boxT x3 y3 x4 y4 true) (by simp [results, Try.results20, go_sem, p0c, p1c, q0c, q1c, p0l, q0l]) rfl ⟨_, _, _, _, rfl, f3, g3, f4, g4, (by repeat (first | exact B4.out | refine Below.drews ?_ | refine Below.drew ?_ | refine Below.alloc ?_ (by have hq_ := B4.out.size; first | omega | (simp <;> omega)) _ | refine Below.setCell ?_ (by have hq_ := B4.out.size; first | omega | (simp <;> omega)) _))⟩
theorem sKeyBox_no {s : ByteArray} (hs : s.size ≤ 1048576) (hk : keyB s = false) (w : World) : Calls Try.prog 19 #[.string s] w (RBx 0 0 0 0 false w) := by
  have HI := Hf.mk (l07Is_any s hs)
  rw [hk] at HI
  have B0 := Hb.mk (Below.refl w.heap.size w)
  go_enter Try.func19, Try.ntmps19
  go_wp2_with (first | (go_at_call 69; refine (HI.out _).mono ?_; rintro e w' ⟨rfl, n1, rfl⟩))
  exact bodyPost_ret (v := boxT 0 0 0 0 false) (by simp [results, Try.results19, go_sem]) rfl ⟨_, _, _, _, rfl, fl0, fl0, fl0, fl0, (by repeat (first | with_reducible refine Below.setCell ?_ (by first | omega | (simp <;> omega)) _ | with_reducible refine Below.drews ?_ | with_reducible refine Below.drew ?_ | with_reducible refine Below.alloc ?_ (by first | omega | (simp <;> omega)) _ | with_reducible exact B0.out | with_reducible exact Below.refl _ _))⟩
set_option maxHeartbeats 4000000 in
theorem sKeyBox_yes {s : ByteArray} {U V P : Int} (hs : s.size ≤ 1048576) (hk : keyB s = true) (hU : (kx s s.size : Int) * P = U) (hV : (ky s s.size : Int) * P = V) (u0 : 0 ≤ U) (v0 : 0 ≤ V) (u1 : U + P ≤ 16777216) (v1 : V + P ≤ 16777216) (p0 : 16 ≤ P) (hP : wrap64 ((2 : Int) ^ (24 - s.size)) = P) (w : World) :
    Calls Try.prog 19 #[.string s] w (RBx (quoC (V / 2 - 4194304)) (quoC (U - 8388608)) (quoC ((V + P - 1) / 2 - 4194304)) (quoC (U + P - 1 - 8388608)) true w) := by
  obtain ⟨h20, hd⟩ := digs_of hk
  have hx := kx_lt s s.size
  have hy := ky_lt hd
  have hp := two20 h20
  have HI := Hf.mk (l07Is_any s hs)
  rw [hk] at HI
  have HR := Hf.mk (fun w => l07Read_any hk w)
  have K1 := Hf.mk (fun w => sPlaceOfSteps_yes (n := V / 2 - 4194304) (e := U - 8388608) (by omega) (by omega) (by omega) (by omega) w)
  have K2 := Hf.mk (fun w => sPlaceOfSteps_yes (n := (V + P - 1) / 2 - 4194304) (e := U + P - 1 - 8388608) (by omega) (by omega) (by omega) (by omega) w)
  generalize quoC (V / 2 - 4194304) = c1 at *
  generalize quoC (U - 8388608) = c2 at *
  generalize quoC ((V + P - 1) / 2 - 4194304) = c3 at *
  generalize quoC (U + P - 1 - 8388608) = c4 at *
  have hx' : kx s s.size < 1048576 := by omega
  have hy' : ky s s.size < 1048576 := by omega
  clear hx hy hd hk hp
  generalize kx s s.size = X at *
  generalize ky s s.size = Y at *
  have B0 := Hb.mk (Below.refl w.heap.size w)
  go_enter Try.func19, Try.ntmps19
  have tk_a : True := trivial; have tk_b : True := trivial
  go_wp2_with (first
    | (go_at_call 69; refine (HI.out _).mono ?_; rintro e w' ⟨rfl, n1, rfl⟩)
    | (go_at_call 70; refine (HR.out _).mono ?_; rintro e w' ⟨rfl, n2, rfl⟩)
    | (go_at_call 71; clear tk_a; ((with_reducible refine (K1.out _).mono ?_); rintro e w3 ⟨x3, y3, rfl, f3, g3, b3⟩; have s3 := b3.size; simp only [World.size_alloc, World.heap_drewN] at s3; have B3 := Hb.mk (Below.on (B := w.heap.size) (a := w) (by repeat (first | exact B0.out | refine Below.drews ?_ | refine Below.drew ?_ | refine Below.alloc ?_ (by have hq_ := B0.out.size; first | omega | (simp <;> omega)) _ | refine Below.setCell ?_ (by have hq_ := B0.out.size; first | omega | (simp <;> omega)) _)) b3 (by have hq_ := B0.out.size; first | omega | (simp <;> omega))); have p0 := Hb.mk (At.keep b3 (p := ⟨(w.heap.size), 0, none⟩) (v := .float .f32 0) (by simp [go_sem]) (by simp [go_sem])); obtain ⟨p0c, p0z, p0l⟩ := p0.out; have p1 := Hb.mk (At.keep b3 (p := ⟨(w.heap.size), 1, none⟩) (v := .float .f32 0) (by simp [go_sem]) (by simp [go_sem])); obtain ⟨p1c, p1z, p1l⟩ := p1.out; have q0 := Hb.mk (At.keep b3 (p := ⟨(w.heap.size + 1), 0, none⟩) (v := .float .f32 0) (by simp [go_sem]) (by simp [go_sem])); obtain ⟨q0c, q0z, q0l⟩ := q0.out; have q1 := Hb.mk (At.keep b3 (p := ⟨(w.heap.size + 1), 1, none⟩) (v := .float .f32 0) (by simp [go_sem]) (by simp [go_sem])); obtain ⟨q1c, q1z, q1l⟩ := q1.out; clear b3))
    | (go_at_call 71; clear tk_b; ((with_reducible refine (K2.out _).mono ?_); rintro e w4 ⟨x4, y4, rfl, f4, g4, b4⟩; have B4 := Hb.mk (Below.on (B := w.heap.size) (a := w) (by repeat (first | exact B3.out | refine Below.drews ?_ | refine Below.drew ?_ | refine Below.alloc ?_ (by have hq_ := B3.out.size; first | omega | (simp <;> omega)) _ | refine Below.setCell ?_ (by have hq_ := B3.out.size; first | omega | (simp <;> omega)) _)) b4 (by have hq_ := B3.out.size; first | omega | (simp <;> omega))); have p0 := Hb.mk (At.re p0.out b4 (by first | exact p0c | simp [go_sem, p0c, p0l]) (by first | exact p0z | simp [go_sem, p0z, p0l])); obtain ⟨p0c, p0z, p0l⟩ := p0.out; have p1 := Hb.mk (At.re p1.out b4 (by first | exact p1c | simp [go_sem, p1c, p1l]) (by first | exact p1z | simp [go_sem, p1z, p1l])); obtain ⟨p1c, p1z, p1l⟩ := p1.out; have q0 := Hb.mk (At.re q0.out b4 (by first | exact q0c | simp [go_sem, q0c, q0l]) (by first | exact q0z | simp [go_sem, q0z, q0l])); obtain ⟨q0c, q0z, q0l⟩ := q0.out; have q1 := Hb.mk (At.re q1.out b4 (by first | exact q1c | simp [go_sem, q1c, q1l]) (by first | exact q1z | simp [go_sem, q1z, q1l])); obtain ⟨q1c, q1z, q1l⟩ := q1.out; have r0 := Hb.mk (At.keep b4 (p := ⟨(w3.heap.size), 0, none⟩) (v := .float .f32 x3) (by simp [go_sem]) (by simp [go_sem])); obtain ⟨r0c, r0z, r0l⟩ := r0.out; have r1 := Hb.mk (At.keep b4 (p := ⟨(w3.heap.size), 1, none⟩) (v := .float .f32 y3) (by simp [go_sem]) (by simp [go_sem])); obtain ⟨r1c, r1z, r1l⟩ := r1.out; clear b4)))
  have d0 : ¬ w3.heap.size = w.heap.size := by omega
  have d1 : ¬ w.heap.size = w3.heap.size := by omega
  have d2 : ¬ w3.heap.size = w.heap.size + 1 := by omega
  have d3 : ¬ w.heap.size + 1 = w3.heap.size := by omega
  have d4 : ¬ w4.heap.size = w.heap.size := by omega
  have d5 : ¬ w.heap.size = w4.heap.size := by omega
  have d6 : ¬ w4.heap.size = w.heap.size + 1 := by omega
  have d7 : ¬ w.heap.size + 1 = w4.heap.size := by omega
  go_region
  go_wp2
  exact bodyPost_ret (v := boxT x3 y3 x4 y4 true) (by simp [results, Try.results19, go_sem, p0c, p1c, q0c, q1c, p0l, q0l]) rfl ⟨_, _, _, _, rfl, f3, g3, f4, g4, (by repeat (first | exact B4.out | refine Below.drews ?_ | refine Below.drew ?_ | refine Below.alloc ?_ (by have hq_ := B4.out.size; first | omega | (simp <;> omega)) _ | refine Below.setCell ?_ (by have hq_ := B4.out.size; first | omega | (simp <;> omega)) _))⟩
set_option maxHeartbeats 1000000 in
theorem law_KeyBox {s : ByteArray} (_ : s.size ≤ maxLen) (w : World) : Calls Try.prog 5 #[.string s] w (fun e w' => e = .returned (.bool true) ∧ Below w.heap.size w w') := by
  by_cases hs : s.size ≤ 1048576
  · have B0 := Hb.mk (Below.refl w.heap.size w)
    obtain ⟨c1, c2, c3, c4, b, KS, KI⟩ : ∃ c1 c2 c3 c4 b, Hf (∀ w, Calls Try.prog 19 #[.string s] w (RBx c1 c2 c3 c4 b w)) ∧ Hf (∀ w, Calls Try.prog 20 #[.string s] w (RBx c1 c2 c3 c4 b w)) := by
      cases hk : keyB s
      · exact ⟨_, _, _, _, _, ⟨sKeyBox_no hs hk⟩, ⟨iKeyBox_no hs hk⟩⟩
      · obtain ⟨U, V, P, h1, h2, h3, h4, h5, h6, h7, h8, h9, h10⟩ := box_nums hk
        exact ⟨_, _, _, _, _, ⟨sKeyBox_yes hs hk h1 h2 h5 h6 h7 h8 h9 h10⟩, ⟨iKeyBox_yes hs hk h1 h2 h3 h4 h5 h6 h7 h8 h9 h10⟩⟩
    cases b
    all_goals
      go_enter Try.func5, Try.ntmps5
      have tk_a : True := trivial; have tk_b : True := trivial
      go_wp2_with (first
        | (go_at_call 19; refine (KS.out _).mono ?_; rintro e w1 ⟨x1, x2, x3, x4, rfl, f1, f2, f3, f4, b1⟩; have B1 := Hb.mk (Below.on (B := w.heap.size) (a := w) (by repeat (first | exact B0.out | refine Below.drews ?_ | refine Below.drew ?_ | refine Below.alloc ?_ (by have hq_ := B0.out.size; first | omega | (simp <;> omega)) _ | refine Below.setCell ?_ (by have hq_ := B0.out.size; first | omega | (simp <;> omega)) _)) b1 (by have hq_ := B0.out.size; first | omega | (simp <;> omega))); clear b1)
        | (go_at_call 20; refine (KI.out _).mono ?_; rintro e w2 ⟨y1, y2, y3, y4, rfl, g1, g2, g3, g4, b2⟩; have B2 := Hb.mk (Below.on (B := w.heap.size) (a := w) (by repeat (first | exact B1.out | refine Below.drews ?_ | refine Below.drew ?_ | refine Below.alloc ?_ (by have hq_ := B1.out.size; first | omega | (simp <;> omega)) _ | refine Below.setCell ?_ (by have hq_ := B1.out.size; first | omega | (simp <;> omega)) _)) b2 (by have hq_ := B1.out.size; first | omega | (simp <;> omega))); have p0 := Hb.mk (At.keep b2 (p := ⟨(w1.heap.size), 0, none⟩) (v := .float .f32 x1) (by simp [go_sem]) (by simp [go_sem])); obtain ⟨p0c, p0z, p0l⟩ := p0.out; have p1 := Hb.mk (At.keep b2 (p := ⟨(w1.heap.size), 1, none⟩) (v := .float .f32 x2) (by simp [go_sem]) (by simp [go_sem])); obtain ⟨p1c, p1z, p1l⟩ := p1.out; have q0 := Hb.mk (At.keep b2 (p := ⟨(w1.heap.size + 1), 0, none⟩) (v := .float .f32 x3) (by simp [go_sem]) (by simp [go_sem])); obtain ⟨q0c, q0z, q0l⟩ := q0.out; have q1 := Hb.mk (At.keep b2 (p := ⟨(w1.heap.size + 1), 1, none⟩) (v := .float .f32 x4) (by simp [go_sem]) (by simp [go_sem])); obtain ⟨q1c, q1z, q1l⟩ := q1.out; clear b2)
        | (go_at_call 21; clear tk_a; ((with_reducible refine (eqPlace_any g1 g2 f1 f2 _).mono ?_); rintro e w3 ⟨rfl, b3⟩); have B3 := Hb.mk (Below.on (B := w.heap.size) (a := w) (by repeat (first | exact B2.out | refine Below.drews ?_ | refine Below.drew ?_ | refine Below.alloc ?_ (by have hq_ := B2.out.size; first | omega | (simp <;> omega)) _ | refine Below.setCell ?_ (by have hq_ := B2.out.size; first | omega | (simp <;> omega)) _)) b3 (by have hq_ := B2.out.size; first | omega | (simp <;> omega))); have q0 := Hb.mk (At.keep b3 (At.keep (by repeat (first | exact Below.refl _ _ | with_reducible assumption | refine Below.drews ?_ | refine Below.drew ?_ | refine Below.alloc ?_ (by simp <;> omega) _ | refine Below.setCell ?_ (by simp <;> omega) _)) q0c q0z).cell (At.keep (by repeat (first | exact Below.refl _ _ | with_reducible assumption | refine Below.drews ?_ | refine Below.drew ?_ | refine Below.alloc ?_ (by simp <;> omega) _ | refine Below.setCell ?_ (by simp <;> omega) _)) q0c q0z).free); obtain ⟨q0c, q0z, q0l⟩ := q0.out; have q1 := Hb.mk (At.keep b3 (At.keep (by repeat (first | exact Below.refl _ _ | with_reducible assumption | refine Below.drews ?_ | refine Below.drew ?_ | refine Below.alloc ?_ (by simp <;> omega) _ | refine Below.setCell ?_ (by simp <;> omega) _)) q1c q1z).cell (At.keep (by repeat (first | exact Below.refl _ _ | with_reducible assumption | refine Below.drews ?_ | refine Below.drew ?_ | refine Below.alloc ?_ (by simp <;> omega) _ | refine Below.setCell ?_ (by simp <;> omega) _)) q1c q1z).free); obtain ⟨q1c, q1z, q1l⟩ := q1.out; have u0 := Hb.mk (At.keep b3 (p := ⟨(w2.heap.size + 1), 0, none⟩) (v := .float .f32 y3) (by simp [go_sem]) (by simp [go_sem])); obtain ⟨u0c, u0z, u0l⟩ := u0.out; have u1 := Hb.mk (At.keep b3 (p := ⟨(w2.heap.size + 1), 1, none⟩) (v := .float .f32 y4) (by simp [go_sem]) (by simp [go_sem])); obtain ⟨u1c, u1z, u1l⟩ := u1.out; clear b3)
        | (go_at_call 21; clear tk_b; ((with_reducible refine (eqPlace_any g3 g4 f3 f4 _).mono ?_); rintro e w4 ⟨rfl, b4⟩); have B4 := Hb.mk (Below.on (B := w.heap.size) (a := w) (by repeat (first | exact B3.out | refine Below.drews ?_ | refine Below.drew ?_ | refine Below.alloc ?_ (by have hq_ := B3.out.size; first | omega | (simp <;> omega)) _ | refine Below.setCell ?_ (by have hq_ := B3.out.size; first | omega | (simp <;> omega)) _)) b4 (by have hq_ := B3.out.size; first | omega | (simp <;> omega))); clear b4))
      go_ret
      exact ⟨rfl, (by repeat (first | exact B4.out | refine Below.drews ?_ | refine Below.drew ?_ | refine Below.alloc ?_ (by have hq_ := B4.out.size; first | omega | (simp <;> omega)) _ | refine Below.setCell ?_ (by have hq_ := B4.out.size; first | omega | (simp <;> omega)) _))⟩
  · go_enter Try.func5, Try.ntmps5
    go_wp2
    go_ret
    exact ⟨rfl, Below.refl _ _⟩
end Go.Proofs.Ytgbcgckkjhgchab
