/-
  Keys beside a key, of the program and of its model; the exact law KeyBeside. No condition.
-/
import Derived.Test.YtgbcgckkjhgchabTks
namespace Go.Proofs.Ytgbcgckkjhgchab
open Go Go.RowKit
set_option maxRecDepth 100000

def shiftB (e : Int) : Bool := decide (-1000000 ≤ e ∧ e ≤ 1000000)
theorem tm_lt {a n : Int} (hn : 0 < n) : -n < Int.tmod a n ∧ Int.tmod a n < n := by
  by_cases h : 0 ≤ a
  · rw [Int.tmod_eq_emod_of_nonneg h]
    have h1 := Int.emod_nonneg a (b := n) (by omega)
    have h2 := Int.emod_lt_of_pos a hn
    omega
  · have e : a = -(-a) := by omega
    rw [e, Int.neg_tmod, Int.tmod_eq_emod_of_nonneg (by omega)]
    have h1 := Int.emod_nonneg (-a) (b := n) (by omega)
    have h2 := Int.emod_lt_of_pos (-a) hn
    omega
theorem tm_mod {a n : Int} (hn : 0 < n) : Int.tmod (Int.tmod a n + n) n = a % n := by
  have h := tm_lt (a := a) hn
  rw [Int.tmod_eq_emod_of_nonneg (by omega), Int.add_emod_right, Int.tmod_def, Int.sub_mul_emod_self_left]
theorem isShift_any {i : Int} (w : World) : Calls Try.prog 76 #[.int .i64 i] w (RT (.bool (shiftB i)) w) := by
  by_cases h : (-1000000 : Int) ≤ i
  · go_enter Try.func76, Try.ntmps76
    go_wp2
    go_ret
    exact ⟨ret_b (by unfold shiftB; simp [h]), (by repeat (first | exact Drew.refl _ | refine Drew.more ?_))⟩
  · have K := Hf.mk (show shiftB i = false from decide_eq_false (by omega))
    go_enter Try.func76, Try.ntmps76
    go_wp2
    go_ret
    rw [K.out]
    exact ⟨rfl, (by repeat (first | exact Drew.refl _ | refine Drew.more ?_))⟩
theorem wrap_any {z : Nat} {x y v : Int} (hz : z ≤ 20) (w : World) : Calls Try.prog 77 #[tl (z : Int) x y, .int .i64 v] w (RS (.int .i64 (v % ((2 ^ z : Nat) : Int))) w) := by
  have KA := Hf.mk (fun w => across_any (x := x) (y := y) hz w)
  have hp := two20' hz
  have hp1 := Nat.two_pow_pos z
  have hm := i64_mask (j := z) (by omega) v
  have B0 := Hb.mk (Below.refl w.heap.size w)
  rw [show (((2 ^ z - 1 : Nat)) : Int) = ((2 ^ z : Nat) : Int) - 1 by omega] at hm
  have hP : 1 ≤ ((2 ^ z : Nat) : Int) := by omega
  have hP2 : ((2 ^ z : Nat) : Int) ≤ 1048576 := by omega
  clear hp hp1
  generalize ((2 ^ z : Nat) : Int) = P at *
  go_enter Try.func77, Try.ntmps77
  go_wp2_with (first | (go_at_call 116; refine (KA.out _).mono ?_; rintro e w1 ⟨rfl, b1⟩; have B1 := Hb.mk (Below.on (B := w.heap.size) (a := w) (by repeat (first | exact B0.out | refine Below.drews ?_ | refine Below.drew ?_ | refine Below.alloc ?_ (by have hq_ := B0.out.size; first | omega | (simp <;> omega)) _ | refine Below.setCell ?_ (by have hq_ := B0.out.size; first | omega | (simp <;> omega)) _)) b1 (by have hq_ := B0.out.size; first | omega | (simp <;> omega))); clear b1))
  go_ret
  exact ⟨ret_i (by first | rfl | exact hm), (by repeat (first | exact B1.out | refine Below.drews ?_ | refine Below.drew ?_ | refine Below.alloc ?_ (by have hq_ := B1.out.size; first | omega | (simp <;> omega)) _ | refine Below.setCell ?_ (by have hq_ := B1.out.size; first | omega | (simp <;> omega)) _))⟩
/-- The tile beside a key's. -/
def besX (s : ByteArray) (e : Int) : Int := ((kx s s.size : Int) + e) % ((2 ^ s.size : Nat) : Int)
def besY (s : ByteArray) (n : Int) : Int := (ky s s.size : Int) + n
def besO (s : ByteArray) (e n : Int) : Bool := keyB s && (shiftB e && (shiftB n && tileB (s.size : Int) (besX s e) (besY s n)))
def besS (s : ByteArray) (e n : Int) : ByteArray := if besO s e n = true then tkeyS (s.size : Int) (besX s e) (besY s n) else ⟨#[]⟩
theorem bes_no {s : ByteArray} {e n : Int} (h : keyB s = false ∨ shiftB e = false ∨ shiftB n = false) : besO s e n = false ∧ besS s e n = ⟨#[]⟩ := by
  have : besO s e n = false := by
    unfold besO
    rcases h with h | h | h <;> rw [h] <;> simp
  exact ⟨this, by unfold besS; rw [this]; rfl⟩
theorem bes_in {s : ByteArray} {e n : Int} (h1 : keyB s = true) (h2 : shiftB e = true) (h3 : shiftB n = true) : besO s e n = tileB (s.size : Int) (besX s e) (besY s n) ∧ besS s e n = tkeyS (s.size : Int) (besX s e) (besY s n) := by
  have : besO s e n = tileB (s.size : Int) (besX s e) (besY s n) := by
    unfold besO; rw [h1, h2, h3]; rfl
  refine ⟨this, ?_⟩
  unfold besS
  rw [this]
  cases hb : tileB (s.size : Int) (besX s e) (besY s n)
  · unfold tkeyS; rw [hb]; rfl
  · rfl
theorem iKeyBeside_no {s : ByteArray} {e n : Int} (hs : s.size ≤ 1048576) (h : keyB s = false ∨ shiftB e = false ∨ shiftB n = false) (w : World) : Calls Try.prog 25 #[.string s, .int .i64 e, .int .i64 n] w (RS (stT' ⟨#[]⟩ false) w) := by
  have HI := Hf.mk (iIsKey_any s hs)
  have HE := Hf.mk (fun w => isShift_any (i := e) w)
  have HN := Hf.mk (fun w => isShift_any (i := n) w)
  have B0 := Hb.mk (Below.refl w.heap.size w)
  cases h1 : keyB s
  · rw [h1] at HI
    clear h
    go_enter Try.func25, Try.ntmps25
    go_wp2_with (first | (go_at_call 72; refine (HI.out _).mono ?_; rintro e w1 ⟨rfl, b1⟩; have B1 := Hb.mk (Below.on (B := w.heap.size) (a := w) (by repeat (first | exact B0.out | refine Below.drews ?_ | refine Below.drew ?_ | refine Below.alloc ?_ (by have hq_ := B0.out.size; first | omega | (simp <;> omega)) _ | refine Below.setCell ?_ (by have hq_ := B0.out.size; first | omega | (simp <;> omega)) _)) b1 (by have hq_ := B0.out.size; first | omega | (simp <;> omega))); clear b1))
    go_ret2
    exact ⟨rfl, (by repeat (first | exact B1.out | refine Below.drews ?_ | refine Below.drew ?_ | refine Below.alloc ?_ (by have hq_ := B1.out.size; first | omega | (simp <;> omega)) _ | refine Below.setCell ?_ (by have hq_ := B1.out.size; first | omega | (simp <;> omega)) _))⟩
  · rw [h1] at HI
    cases h2 : shiftB e
    · rw [h2] at HE
      clear h
      go_enter Try.func25, Try.ntmps25
      go_wp2_with (first | (go_at_call 72; refine (HI.out _).mono ?_; rintro e w1 ⟨rfl, b1⟩; have B1 := Hb.mk (Below.on (B := w.heap.size) (a := w) (by repeat (first | exact B0.out | refine Below.drews ?_ | refine Below.drew ?_ | refine Below.alloc ?_ (by have hq_ := B0.out.size; first | omega | (simp <;> omega)) _ | refine Below.setCell ?_ (by have hq_ := B0.out.size; first | omega | (simp <;> omega)) _)) b1 (by have hq_ := B0.out.size; first | omega | (simp <;> omega))); clear b1) | (go_at_call 76; refine (HE.out _).mono ?_; rintro e w' ⟨rfl, n1, rfl⟩))
      go_ret2
      exact ⟨rfl, (by repeat (first | exact B1.out | refine Below.drews ?_ | refine Below.drew ?_ | refine Below.alloc ?_ (by have hq_ := B1.out.size; first | omega | (simp <;> omega)) _ | refine Below.setCell ?_ (by have hq_ := B1.out.size; first | omega | (simp <;> omega)) _))⟩
    · rw [h2] at HE
      have h3 : shiftB n = false := by rcases h with h | h | h; · rw [h1] at h; cases h
                                       · rw [h2] at h; cases h
                                       · exact h
      rw [h3] at HN
      clear h
      go_enter Try.func25, Try.ntmps25
      have tk_a : True := trivial; have tk_b : True := trivial
      go_wp2_with (first | (go_at_call 72; refine (HI.out _).mono ?_; rintro e w1 ⟨rfl, b1⟩; have B1 := Hb.mk (Below.on (B := w.heap.size) (a := w) (by repeat (first | exact B0.out | refine Below.drews ?_ | refine Below.drew ?_ | refine Below.alloc ?_ (by have hq_ := B0.out.size; first | omega | (simp <;> omega)) _ | refine Below.setCell ?_ (by have hq_ := B0.out.size; first | omega | (simp <;> omega)) _)) b1 (by have hq_ := B0.out.size; first | omega | (simp <;> omega))); clear b1) | (go_at_call 76; clear tk_a; refine (HE.out _).mono ?_; rintro e w' ⟨rfl, n1, rfl⟩) | (go_at_call 76; clear tk_b; refine (HN.out _).mono ?_; rintro e w' ⟨rfl, n2, rfl⟩))
      go_ret2
      exact ⟨rfl, (by repeat (first | exact B1.out | refine Below.drews ?_ | refine Below.drew ?_ | refine Below.alloc ?_ (by have hq_ := B1.out.size; first | omega | (simp <;> omega)) _ | refine Below.setCell ?_ (by have hq_ := B1.out.size; first | omega | (simp <;> omega)) _))⟩
set_option maxHeartbeats 1000000 in
theorem iKeyBeside_yes {s : ByteArray} {e n : Int} (hs : s.size ≤ 1048576) (h1 : keyB s = true) (h2 : shiftB e = true) (h3 : shiftB n = true) (w : World) : Calls Try.prog 25 #[.string s, .int .i64 e, .int .i64 n] w (RS (stT' (tkeyS (s.size : Int) (besX s e) (besY s n)) (tileB (s.size : Int) (besX s e) (besY s n))) w) := by
  obtain ⟨h20, hd⟩ := digs_of h1
  have hx := kx_lt s s.size
  have hy := ky_lt hd
  have hp := two20 h20
  have HI := Hf.mk (iIsKey_any s hs)
  rw [h1] at HI
  have HE := Hf.mk (fun w => isShift_any (i := e) w)
  rw [h2] at HE
  have HN := Hf.mk (fun w => isShift_any (i := n) w)
  rw [h3] at HN
  have HT := Hf.mk (fun w => tileOfKey_any h1 w)
  have HW := Hf.mk (fun w => wrap_any (z := s.size) (x := (kx s s.size : Int)) (y := (ky s s.size : Int)) (v := (kx s s.size : Int) + e) h20 w)
  have HK := Hf.mk (fun w => keyOfTile_any (z := (s.size : Int)) (x := besX s e) (y := besY s n) w)
  unfold shiftB at h2 h3
  rw [decide_eq_true_eq] at h2 h3
  have B0 := Hb.mk (Below.refl w.heap.size w)
  generalize tkeyS (s.size : Int) (besX s e) (besY s n) = K at *
  generalize tileB (s.size : Int) (besX s e) (besY s n) = b at *
  unfold besX besY at HK
  have hx' : kx s s.size < 1048576 := by omega
  have hy' : ky s s.size < 1048576 := by omega
  clear hx hy hd h1 hp
  generalize kx s s.size = X at *
  generalize ky s s.size = Y at *
  generalize (((X : Int) + e) % ((2 ^ s.size : Nat) : Int)) = M at *
  obtain ⟨e1, e2⟩ := h2
  obtain ⟨n1, n2⟩ := h3
  go_enter Try.func25, Try.ntmps25
  have tk_a : True := trivial; have tk_b : True := trivial
  go_wp2_with (first | (go_at_call 72; refine (HI.out _).mono ?_; rintro e w1 ⟨rfl, b1⟩; have B1 := Hb.mk (Below.on (B := w.heap.size) (a := w) (by repeat (first | exact B0.out | refine Below.drews ?_ | refine Below.drew ?_ | refine Below.alloc ?_ (by have hq_ := B0.out.size; first | omega | (simp <;> omega)) _ | refine Below.setCell ?_ (by have hq_ := B0.out.size; first | omega | (simp <;> omega)) _)) b1 (by have hq_ := B0.out.size; first | omega | (simp <;> omega))); clear b1) | (go_at_call 76; clear tk_a; refine (HE.out _).mono ?_; rintro e w' ⟨rfl, q1, rfl⟩) | (go_at_call 76; clear tk_b; refine (HN.out _).mono ?_; rintro e w' ⟨rfl, q2, rfl⟩) | (go_at_call 73; refine (HT.out _).mono ?_; rintro e w2 ⟨rfl, b2⟩; have B2 := Hb.mk (Below.on (B := w.heap.size) (a := w) (by repeat (first | exact B1.out | refine Below.drews ?_ | refine Below.drew ?_ | refine Below.alloc ?_ (by have hq_ := B1.out.size; first | omega | (simp <;> omega)) _ | refine Below.setCell ?_ (by have hq_ := B1.out.size; first | omega | (simp <;> omega)) _)) b2 (by have hq_ := B1.out.size; first | omega | (simp <;> omega))); clear b2))
  have q1 : IntKind.i64.wrap ((X : Int) + e) = (X : Int) + e := IntWalk.i64_in _ ⟨by omega, by omega⟩
  have q2 : IntKind.i64.wrap ((Y : Int) + n) = (Y : Int) + n := IntWalk.i64_in _ ⟨by omega, by omega⟩
  refine region_all (by kernel_rfl) (by kernel_rfl) (fun I F hne HB hcl => ?_)
  have f0 := keepF HB (p := ⟨w2.heap.size, 0, none⟩) (v := .int .i64 (s.size : Int)) (by simp [go_sem])
  have f1 := keepF HB (p := ⟨w2.heap.size, 1, none⟩) (v := .int .i64 (X : Int)) (by simp [go_sem])
  have f2 := keepF HB (p := ⟨w2.heap.size, 2, none⟩) (v := .int .i64 (Y : Int)) (by simp [go_sem])
  repeat (quiet_step (first | (go_at_call 77; exact callS hcl (HW.out _)) | (go_at_call 67; exact callS hcl (HK.out _))))
  refine wpQuiet_nil ?_
  intro _ hw'
  obtain ⟨iq, rfl⟩ := hw'
  clear hcl
  have E1 := Hb.mk (HB.out iq)
  have sB := B2.out.size
  go_wp2
  go_ret2
  exact ⟨rfl, (by repeat (first | exact Below.refl _ _ | refine Below.on ?_ E1.out (by first | omega | (simp <;> omega)) | exact B2.out | refine Below.drews ?_ | refine Below.drew ?_ | refine Below.alloc ?_ (by first | omega | (simp <;> omega)) _ | refine Below.setCell ?_ (by first | omega | (simp <;> omega)) _))⟩
theorem sKeyBeside_no {s : ByteArray} {e n : Int} (hs : s.size ≤ 1048576) (h : keyB s = false ∨ shiftB e = false ∨ shiftB n = false) (w : World) : Calls Try.prog 24 #[.string s, .int .i64 e, .int .i64 n] w (RT (stT' ⟨#[]⟩ false) w) := by
  have HI := Hf.mk (l07Is_any s hs)
  cases h1 : keyB s
  · rw [h1] at HI
    clear h
    go_enter Try.func24, Try.ntmps24
    go_wp2_with (first | (go_at_call 69; refine (HI.out _).mono ?_; rintro e w' ⟨rfl, n1, rfl⟩))
    go_ret2
    exact RT.any (by repeat (first | exact Drew.refl _ | refine Drew.more ?_))
  · rw [h1] at HI
    cases h2 : shiftB e
    · have a2 : e < -1000000 ∨ 1000000 < e := by unfold shiftB at h2; rw [decide_eq_false_iff_not] at h2; omega
      clear h
      go_enter Try.func24, Try.ntmps24
      go_wp2_with (first | (go_at_call 69; refine (HI.out _).mono ?_; rintro e w' ⟨rfl, n1, rfl⟩) | (go_at_call 68; ((with_reducible refine (l00In_no a2 _).mono ?_); rintro e w' ⟨rfl, n2, rfl⟩)))
      go_ret2
      exact RT.any (by repeat (first | exact Drew.refl _ | refine Drew.more ?_))
    · have h3 : shiftB n = false := by rcases h with h | h | h; · rw [h1] at h; cases h
                                       · rw [h2] at h; cases h
                                       · exact h
      have a2 : -1000000 ≤ e ∧ e ≤ 1000000 := by unfold shiftB at h2; rw [decide_eq_true_eq] at h2; exact h2
      have a3 : n < -1000000 ∨ 1000000 < n := by unfold shiftB at h3; rw [decide_eq_false_iff_not] at h3; omega
      clear h
      go_enter Try.func24, Try.ntmps24
      have tk_a : True := trivial; have tk_b : True := trivial
      go_wp2_with (first | (go_at_call 69; refine (HI.out _).mono ?_; rintro e w' ⟨rfl, n1, rfl⟩) | (go_at_call 68; clear tk_a; ((with_reducible refine (l00In_yes a2.1 a2.2 _).mono ?_); rintro e w' ⟨rfl, n2, rfl⟩)) | (go_at_call 68; clear tk_b; ((with_reducible refine (l00In_no a3 _).mono ?_); rintro e w' ⟨rfl, n2, rfl⟩)))
      go_ret2
      exact RT.any (by repeat (first | exact Drew.refl _ | refine Drew.more ?_))
set_option maxHeartbeats 2000000 in
theorem sKeyBeside_yes {s : ByteArray} {e n : Int} (hs : s.size ≤ 1048576) (h1 : keyB s = true) (h2 : shiftB e = true) (h3 : shiftB n = true) (w : World) : Calls Try.prog 24 #[.string s, .int .i64 e, .int .i64 n] w (RS (stT' (tkeyS (s.size : Int) (besX s e) (besY s n)) (tileB (s.size : Int) (besX s e) (besY s n))) w) := by
  obtain ⟨h20, hd⟩ := digs_of h1
  have hx := kx_lt s s.size
  have hy := ky_lt hd
  have hp := two20' h20
  have hp1 := Nat.two_pow_pos s.size
  have HI := Hf.mk (l07Is_any s hs)
  rw [h1] at HI
  have HR := Hf.mk (fun w => l07Read_any h1 w)
  have a2 : -1000000 ≤ e ∧ e ≤ 1000000 := by unfold shiftB at h2; rw [decide_eq_true_eq] at h2; exact h2
  have a3 : -1000000 ≤ n ∧ n ≤ 1000000 := by unfold shiftB at h3; rw [decide_eq_true_eq] at h3; exact h3
  have hw := w64_pow h20
  have e2 : ((2 ^ s.size : Nat) : Int) = (2 : Int) ^ s.size := by simp
  have hP1 : (1 : Int) ≤ ((2 ^ s.size : Nat) : Int) := by omega
  have hP2 : ((2 ^ s.size : Nat) : Int) ≤ 1048576 := by omega
  have B0 := Hb.mk (Below.refl w.heap.size w)
  have hm := tm_mod (a := (kx s s.size : Int) + e) (n := ((2 ^ s.size : Nat) : Int)) (by omega)
  have hl := tm_lt (a := (kx s s.size : Int) + e) (n := ((2 ^ s.size : Nat) : Int)) (by omega)
  have hM : besX s e = ((kx s s.size : Int) + e) % ((2 ^ s.size : Nat) : Int) := rfl
  have hM1 := Int.emod_nonneg ((kx s s.size : Int) + e) (b := ((2 ^ s.size : Nat) : Int)) (by omega)
  have hM2 := Int.emod_lt_of_pos ((kx s s.size : Int) + e) (b := ((2 ^ s.size : Nat) : Int)) (by omega)
  have hT : tileB (s.size : Int) (besX s e) (besY s n) = decide (0 ≤ (ky s s.size : Int) + n ∧ (ky s s.size : Int) + n < ((2 ^ s.size : Nat) : Int)) := by
    unfold tileB
    rw [show zoomB (s.size : Int) = true from decide_eq_true (by omega), Bool.true_and, Int.toNat_natCast, hM, decide_eq_true (show 0 ≤ ((kx s s.size : Int) + e) % ((2 ^ s.size : Nat) : Int) ∧ ((kx s s.size : Int) + e) % ((2 ^ s.size : Nat) : Int) < ((2 ^ s.size : Nat) : Int) from ⟨hM1, hM2⟩), Bool.true_and]
    rfl
  have hK := Hf.mk (show ∀ Y : Nat, besY s n = (Y : Int) → tileB (s.size : Int) (besX s e) (besY s n) = true → tkeyS (s.size : Int) (besX s e) (besY s n) = keyS s.size (besX s e).toNat Y from fun Y hY hb => by
    unfold tkeyS; rw [hb, hY]; simp)
  have KL := Hf.mk (fun (X Y : Nat) (hX : X ≤ 1048575) (hY : Y ≤ 1048575) w => l07Key_any (z := s.size) (X := X) (Y := Y) h20 hX hY w)
  have hbY : besY s n = (ky s s.size : Int) + n := rfl
  have HT := Hf.mk hT
  rw [← hM] at hm hM1 hM2
  clear hT hM
  generalize besX s e = M at *
  generalize besY s n = V at *
  have hx' : kx s s.size < 1048576 := by omega
  have hy' : ky s s.size < 1048576 := by omega
  clear hx hy hd h1 hp hp1 h2 h3
  have hw' : wrap64 ((2 : Int) ^ s.size) = ((2 ^ s.size : Nat) : Int) := by rw [e2]; exact hw
  clear hw e2
  generalize kx s s.size = X at *
  generalize ky s s.size = Y at *
  generalize ((2 ^ s.size : Nat) : Int) = P at *
  subst hbY
  have hPz : ¬ P = 0 := by omega
  by_cases hb : 0 ≤ (Y : Int) + n ∧ (Y : Int) + n < P
  · have a4 : (0 : Int) ≤ (Y : Int) + n := hb.1
    have a5 : (Y : Int) + n ≤ P - 1 := by omega
    obtain ⟨V, hV⟩ : ∃ V : Nat, (Y : Int) + n = (V : Int) := ⟨((Y : Int) + n).toNat, by omega⟩
    obtain ⟨N, rfl⟩ : ∃ N : Nat, M = (N : Int) := ⟨M.toNat, by omega⟩
    have hB := HT.out
    rw [decide_eq_true hb] at hB
    have KS := Hf.mk (hK.out V hV hB)
    have KB := Hf.mk hB
    have KLf : Hf (∀ w, Calls Try.prog 65 #[.int .i64 (s.size : Int), .int .i64 (N : Int), .int .i64 ((Y : Int) + n)] w (RS (.string (keyS s.size N V)) w)) := ⟨fun w => by rw [hV]; exact KL.out N V (by omega) (by omega) w⟩
    rw [Int.toNat_natCast] at KS
    generalize keyS s.size N V = K at *
    clear hB hK HT KL hV hb
    go_enter Try.func24, Try.ntmps24
    have tk_a : True := trivial; have tk_b : True := trivial; have tk_c : True := trivial
    go_wp2_with (first | (go_at_call 69; refine (HI.out _).mono ?_; rintro e w' ⟨rfl, n1, rfl⟩) | (go_at_call 70; refine (HR.out _).mono ?_; rintro e w' ⟨rfl, n9, rfl⟩) | (go_at_call 68; clear tk_a; ((with_reducible refine (l00In_yes a2.1 a2.2 _).mono ?_); rintro e w' ⟨rfl, n2, rfl⟩)) | (go_at_call 68; clear tk_b; ((with_reducible refine (l00In_yes a3.1 a3.2 _).mono ?_); rintro e w' ⟨rfl, n3, rfl⟩)) | (go_at_call 68; clear tk_c; ((with_reducible refine (l00In_yes a4 a5 _).mono ?_); rintro e w' ⟨rfl, n4, rfl⟩)) | (go_at_call 65; refine (KLf.out _).mono ?_; rintro e w1 ⟨rfl, b1⟩; have B1 := Hb.mk (Below.on (B := w.heap.size) (a := w) (by repeat (first | exact B0.out | refine Below.drews ?_ | refine Below.drew ?_ | refine Below.alloc ?_ (by have hq_ := B0.out.size; first | omega | (simp <;> omega)) _ | refine Below.setCell ?_ (by have hq_ := B0.out.size; first | omega | (simp <;> omega)) _)) b1 (by have hq_ := B0.out.size; first | omega | (simp <;> omega))); clear b1))
    go_ret2
    rw [KS.out, KB.out]
    exact ⟨rfl, (by repeat (first | exact B1.out | refine Below.drews ?_ | refine Below.drew ?_ | refine Below.alloc ?_ (by have hq_ := B1.out.size; first | omega | (simp <;> omega)) _ | refine Below.setCell ?_ (by have hq_ := B1.out.size; first | omega | (simp <;> omega)) _))⟩
  · have a4 : (Y : Int) + n < 0 ∨ P - 1 < (Y : Int) + n := by omega
    have hB := HT.out
    rw [decide_eq_false hb] at hB
    have KS := Hf.mk (show tkeyS (s.size : Int) M ((Y : Int) + n) = ⟨#[]⟩ by unfold tkeyS; rw [hB]; rfl)
    have KB := Hf.mk hB
    clear hB hK HT KL hb
    go_enter Try.func24, Try.ntmps24
    have tk_a : True := trivial; have tk_b : True := trivial; have tk_c : True := trivial
    go_wp2_with (first | (go_at_call 69; refine (HI.out _).mono ?_; rintro e w' ⟨rfl, n1, rfl⟩) | (go_at_call 70; refine (HR.out _).mono ?_; rintro e w' ⟨rfl, n9, rfl⟩) | (go_at_call 68; clear tk_a; ((with_reducible refine (l00In_yes a2.1 a2.2 _).mono ?_); rintro e w' ⟨rfl, n2, rfl⟩)) | (go_at_call 68; clear tk_b; ((with_reducible refine (l00In_yes a3.1 a3.2 _).mono ?_); rintro e w' ⟨rfl, n3, rfl⟩)) | (go_at_call 68; clear tk_c; ((with_reducible refine (l00In_no a4 _).mono ?_); rintro e w' ⟨rfl, n4, rfl⟩)))
    go_ret2
    rw [KS.out, KB.out]
    exact ⟨rfl, (by repeat (first | exact B0.out | refine Below.drews ?_ | refine Below.drew ?_ | refine Below.alloc ?_ (by have hq_ := B0.out.size; first | omega | (simp <;> omega)) _ | refine Below.setCell ?_ (by have hq_ := B0.out.size; first | omega | (simp <;> omega)) _))⟩
theorem law_KeyBeside {s : ByteArray} {e n : Int} (_ : s.size ≤ maxLen) (_w1 : (Lit.int .i64 e).wf = true) (_w2 : (Lit.int .i64 n).wf = true) (w : World) : Calls Try.prog 7 #[.string s, .int .i64 e, .int .i64 n] w (fun e w' => e = .returned (.bool true) ∧ Below w.heap.size w w') := by
  by_cases hs : s.size ≤ 1048576
  · have B0 := Hb.mk (Below.refl w.heap.size w)
    obtain ⟨x, b, KS, KI⟩ : ∃ x b, Hf (∀ w, Calls Try.prog 24 #[.string s, .int .i64 e, .int .i64 n] w (RS (stT' x b) w)) ∧ Hf (∀ w, Calls Try.prog 25 #[.string s, .int .i64 e, .int .i64 n] w (RS (stT' x b) w)) := by
      by_cases h : keyB s = false ∨ shiftB e = false ∨ shiftB n = false
      · exact ⟨_, _, ⟨fun w => (sKeyBeside_no hs h w).mono fun _ _ ⟨a, q, hq⟩ => ⟨a, by rw [hq]; exact Below.drews (Below.refl _ _)⟩⟩, ⟨iKeyBeside_no hs h⟩⟩
      · have h1 : keyB s = true := by cases hk : keyB s; · exact absurd (.inl hk) h
                                      · rfl
        have h2 : shiftB e = true := by cases hk : shiftB e; · exact absurd (.inr (.inl hk)) h
                                        · rfl
        have h3 : shiftB n = true := by cases hk : shiftB n; · exact absurd (.inr (.inr hk)) h
                                        · rfl
        exact ⟨_, _, ⟨sKeyBeside_yes hs h1 h2 h3⟩, ⟨iKeyBeside_yes hs h1 h2 h3⟩⟩
    go_enter Try.func7, Try.ntmps7
    go_wp2_with (first | (go_at_call 24; refine (KS.out _).mono ?_; rintro e w1 ⟨rfl, b1⟩; have B1 := Hb.mk (Below.on (B := w.heap.size) (a := w) (by repeat (first | exact B0.out | refine Below.drews ?_ | refine Below.drew ?_ | refine Below.alloc ?_ (by have hq_ := B0.out.size; first | omega | (simp <;> omega)) _ | refine Below.setCell ?_ (by have hq_ := B0.out.size; first | omega | (simp <;> omega)) _)) b1 (by have hq_ := B0.out.size; first | omega | (simp <;> omega))); clear b1) | (go_at_call 25; refine (KI.out _).mono ?_; rintro e w2 ⟨rfl, b2⟩; have B2 := Hb.mk (Below.on (B := w.heap.size) (a := w) (by repeat (first | exact B1.out | refine Below.drews ?_ | refine Below.drew ?_ | refine Below.alloc ?_ (by have hq_ := B1.out.size; first | omega | (simp <;> omega)) _ | refine Below.setCell ?_ (by have hq_ := B1.out.size; first | omega | (simp <;> omega)) _)) b2 (by have hq_ := B1.out.size; first | omega | (simp <;> omega))); clear b2))
    go_ret
    exact ⟨rfl, (by repeat (first | exact B2.out | refine Below.drews ?_ | refine Below.drew ?_ | refine Below.alloc ?_ (by have hq_ := B2.out.size; first | omega | (simp <;> omega)) _ | refine Below.setCell ?_ (by have hq_ := B2.out.size; first | omega | (simp <;> omega)) _))⟩
  · go_enter Try.func7, Try.ntmps7
    go_wp2
    go_ret
    exact ⟨rfl, Below.refl _ _⟩
end Go.Proofs.Ytgbcgckkjhgchab
