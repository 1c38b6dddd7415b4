/-
  Contracts of chapter 1's smallest functions, of the program and of its model, and of 'sameFloat': what each returns, told by what its arguments are told by. No premise beyond those named.
-/
import Derived.Test.YtfnmopjfpnlkfaaExt
import Derived.Test.YtfnmopjfpnlkfaaRows
import Derived.Handy
namespace Go.Proofs.Ytfnmopjfpnlkfaa
open Go Go.RowKit

/-- 'returns the integer v; nothing has been written' -/
def RI (k : IntKind) (v : Int) (w : World) (e : Ending) (w' : World) : Prop := e = .returned (.int k v) ∧ ∃ n, w' = w.drewN n
def RB (b : Bool) (w : World) (e : Ending) (w' : World) : Prop := e = .returned (.bool b) ∧ ∃ n, w' = w.drewN n
/-- 'returns a float that is told by c; nothing has been written' -/
def RF (k : FloatKind) (c : Nat) (w : World) (e : Ending) (w' : World) : Prop := ∃ r n, e = .returned (.float k r) ∧ Fl k c r ∧ w' = w.drewN n
theorem ret_i {k : IntKind} {a b : Int} (h : a = b) : Ending.returned (.int k a) = .returned (.int k b) := by rw [h]
theorem ret_b {a b : Bool} (h : a = b) : Ending.returned (.bool a) = .returned (.bool b) := by rw [h]

theorem Fl.lt32 {c x : Nat} (h : Fl .f32 c x) : x < 4294967296 := by have := h.wf; simpa [Lit.wf] using this
theorem Fl.lt64 {c x : Nat} (h : Fl .f64 c x) : x < 18446744073709551616 := by have := h.wf; simpa [Lit.wf] using this
/-- 'x != x' tells a not-a-number. -/
theorem Fl.bne {k : FloatKind} {c x : Nat} (h : Fl k c x) : (k.format.order x x != some .eq) = isN k c := by
  rw [h.nn]
  cases hn : isN k x
  · rw [order_self hn]; rfl
  · rw [order_self_nan hn]; rfl
theorem RI.of {k : IntKind} {v v' : Int} {w : World} {n : Nat} (h : v = v') : RI k v' w (.returned (.int k v)) (w.drewN n) := ⟨by rw [h], n, rfl⟩
theorem RI.of0 {k : IntKind} {v v' : Int} {w : World} (h : v = v') : RI k v' w (.returned (.int k v)) w := ⟨by rw [h], 0, rfl⟩
theorem RB.of {v v' : Bool} {w : World} {n : Nat} (h : v = v') : RB v' w (.returned (.bool v)) (w.drewN n) := ⟨by rw [h], n, rfl⟩
theorem RB.of0 {v v' : Bool} {w : World} (h : v = v') : RB v' w (.returned (.bool v)) w := ⟨by rw [h], 0, rfl⟩
theorem RF.of {k : FloatKind} {c r : Nat} {w : World} {n : Nat} (h : Fl k c r) : RF k c w (.returned (.float k r)) (w.drewN n) := ⟨r, n, rfl, h, rfl⟩
theorem RI.of2 {k : IntKind} {v v' : Int} {w : World} {m n : Nat} (h : v = v') : RI k v' w (.returned (.int k v)) ((w.drewN m).drewN n) := ⟨by rw [h], m + n, World.drewN_drewN ..⟩
theorem RB.of2 {v v' : Bool} {w : World} {m n : Nat} (h : v = v') : RB v' w (.returned (.bool v)) ((w.drewN m).drewN n) := ⟨by rw [h], m + n, World.drewN_drewN ..⟩
theorem RF.of2 {k : FloatKind} {c r : Nat} {w : World} {m n : Nat} (h : Fl k c r) : RF k c w (.returned (.float k r)) ((w.drewN m).drewN n) := ⟨r, m + n, rfl, h, World.drewN_drewN ..⟩
theorem RF.of0 {k : FloatKind} {c r : Nat} {w : World} (h : Fl k c r) : RF k c w (.returned (.float k r)) w := ⟨r, 0, rfl, h, rfl⟩

theorem abs_bits {x : Nat} (h : x < 18446744073709551616) : (bits .andNot .u64 (x : Int) 9223372036854775808).toNat = fabs x := by
  have := u64_andNot_nat x 9223372036854775808 h (by decide)
  rw [show ((9223372036854775808 : Nat) : Int) = 9223372036854775808 from rfl] at this
  rw [this, Int.toNat_natCast]
  exact Nat.and_two_pow_sub_one_eq_mod x 63

set_option maxHeartbeats 400000 in
theorem abs_any {c x : Nat} (hx : Fl .f64 c x) (w : World) : Calls Try.prog 35 #[.float .f64 x] w (RF .f64 (fabs c) w) := by
  go_enter Try.func35, Try.ntmps35
  go_wp2
  go_ret
  refine RF.of0 ?_
  show Fl .f64 _ (bits .andNot .u64 (x : Int) 9223372036854775808).toNat
  rw [abs_bits hx.lt64]
  exact hx.fabs
set_option maxHeartbeats 400000 in
theorem isNaN_any {c x : Nat} (hx : Fl .f64 c x) (w : World) : Calls Try.prog 29 #[.float .f64 x] w (RB (isN .f64 c) w) := by
  go_enter Try.func29, Try.ntmps29
  go_wp2
  go_ret
  exact RB.of0 hx.bne
set_option maxHeartbeats 400000 in
theorem l01Bits_any {c x : Nat} (hx : Fl .f32 c x) (w : World) : Calls Try.prog 28 #[.float .f32 x] w (RI .i64 c w) := by
  have hl : (x : Int) ≤ 4294967295 := by have := hx.lt32; omega
  go_enter Try.func28, Try.ntmps28
  go_wp2
  · rename_i h; rw [hx.bne] at h
    go_ret
    refine RI.of0 ?_
    rw [← hx.eq, nrm_is (hx.nn ▸ h)]; rfl
  · rename_i h; rw [hx.bne] at h
    go_ret
    exact RI.of0 (by rw [hx.word h])
set_option maxHeartbeats 400000 in
theorem bitsOf_any {c x : Nat} (hx : Fl .f32 c x) (w : World) : Calls Try.prog 15 #[.float .f32 x] w (RI .i64 c w) := by
  have hl : (x : Int) ≤ 4294967295 := by have := hx.lt32; omega
  have hn := isN_wide c
  cases h : isN .f32 c
  all_goals
    rw [h] at hn
    go_enter Try.func15, Try.ntmps15
    go_wp2_with (first | (go_at_call 29; refine (isNaN_any (by assumption) _).mono ?_; rw [hn]; rintro e w' ⟨rfl, n, rfl⟩) | (refine wpList_fcv rfl rfl rfl (by kernel_rfl) Try.underlying29 (by decide) hx (fits_wide _) ?_; intro r n hr; simp only [Act.put, List.setIfInBounds_toArray, List.set_cons_succ, List.set_cons_zero]))
    go_ret
  · exact RI.of (by rw [hx.word h])
  · exact RI.of (by rw [← hx.eq, nrm_is (hx.nn ▸ h)]; rfl)
/-- What is told alike is the same. -/
theorem sameFloat_any {c a b : Nat} (ha : Fl .f64 c a) (hb : Fl .f64 c b) (w : World) : Calls Try.prog 18 #[.float .f64 a, .float .f64 b] w (RB true w) := by
  have h1 := ha.bne
  have h2 := hb.bne
  cases hn : isN .f64 c
  · obtain rfl := ha.word hn
    obtain rfl := hb.word hn
    rw [hn] at h1
    clear h2
    have h3 : FloatKind.f64.format.order b b = some .eq := by simpa using h1
    by_cases hz : FloatKind.f64.format.order b 0 = some .eq
    · have tk_r1 : True := trivial; have tk_r2 : True := trivial
      go_enter Try.func18, Try.ntmps18
      go_wp2_with (first | (clear tk_r1; refine wpList_fop rfl rfl rfl rfl rfl (by first | (with_reducible assumption) | exact Fl.not (by decide +kernel) (by decide +kernel)) (by first | (with_reducible assumption) | exact Fl.not (by decide +kernel) (by decide +kernel)) ?_; intro r1 n_r1 h_r1; simp only [Act.put, List.setIfInBounds_toArray, List.set_cons_succ, List.set_cons_zero]) | (clear tk_r2; refine wpList_fop rfl rfl rfl rfl rfl (by first | (with_reducible assumption) | exact Fl.not (by decide +kernel) (by decide +kernel)) (by first | (with_reducible assumption) | exact Fl.not (by decide +kernel) (by decide +kernel)) ?_; intro r2 n_r2 h_r2; simp only [Act.put, List.setIfInBounds_toArray, List.set_cons_succ, List.set_cons_zero]))
      go_ret
      refine RB.of ?_
      rw [h_r1.order (cy := 0) (Fl.not (by decide +kernel) (by decide +kernel)), h_r2.order (cy := 0) (Fl.not (by decide +kernel) (by decide +kernel))]
      simp
    · go_enter Try.func18, Try.ntmps18
      go_wp2_with (refine wpList_fop rfl rfl rfl rfl rfl (by first | (with_reducible assumption) | exact Fl.not (by decide +kernel) (by decide +kernel)) (by first | (with_reducible assumption) | exact Fl.not (by decide +kernel) (by decide +kernel)) ?_; intro r n hr; simp only [Act.put, List.setIfInBounds_toArray, List.set_cons_succ, List.set_cons_zero])
      go_ret
      exact RB.of0 (by simp)
  · rw [hn] at h1 h2
    go_enter Try.func18, Try.ntmps18
    go_wp2
    go_ret
    exact RB.of0 (by simp)
theorem l01Same_any {c d a b : Nat} (ha : Fl .f32 c a) (hb : Fl .f32 d b) (w : World) : Calls Try.prog 25 #[.float .f32 a, .float .f32 b] w (RB ((c : Int) == (d : Int)) w) := by
  go_enter Try.func25, Try.ntmps25
  go_wp2_with (go_at_call 28; refine (l01Bits_any (by assumption) _).mono ?_; rintro e w' ⟨rfl, n, rfl⟩)
  go_ret
  exact RB.of rfl
theorem sSameNumber_any {c d a b : Nat} (ha : Fl .f32 c a) (hb : Fl .f32 d b) (w : World) : Calls Try.prog 10 #[.float .f32 a, .float .f32 b] w (RB ((c : Int) == (d : Int)) w) := by
  go_enter Try.func10, Try.ntmps10
  go_wp2_with (go_at_call 25; refine (l01Same_any ha hb _).mono ?_; rintro e w' ⟨rfl, n, rfl⟩)
  go_ret
  exact RB.of rfl
theorem iSameNumber_any {c d a b : Nat} (ha : Fl .f32 c a) (hb : Fl .f32 d b) (w : World) : Calls Try.prog 11 #[.float .f32 a, .float .f32 b] w (RB ((c : Int) == (d : Int)) w) := by
  go_enter Try.func11, Try.ntmps11
  go_wp2_with (go_at_call 15; refine (bitsOf_any (by assumption) _).mono ?_; rintro e w' ⟨rfl, n, rfl⟩)
  go_ret
  exact RB.of rfl
theorem law_SameNumber {a b : Nat} (wa : (Lit.float .f32 a).wf = true) (wb : (Lit.float .f32 b).wf = true) (w : World) : Calls Try.prog 3 #[.float .f32 a, .float .f32 b] w (RB true w) := by
  go_enter Try.func3, Try.ntmps3
  go_wp2_with (first | (go_at_call 10; refine (sSameNumber_any (Fl.own wa) (Fl.own wb) _).mono ?_; rintro e w' ⟨rfl, n, rfl⟩) | (go_at_call 11; refine (iSameNumber_any (Fl.own wa) (Fl.own wb) _).mono ?_; rintro e w' ⟨rfl, n, rfl⟩))
  go_ret
  exact RB.of rfl
theorem l01Finite_any {c x : Nat} (hx : Fl .f32 c x) (w : World) : Calls Try.prog 26 #[.float .f32 x] w (RB (fin .f32 c) w) := by
  go_enter Try.func26, Try.ntmps26
  go_wp2_with (refine wpList_fop rfl rfl rfl rfl rfl (by first | (with_reducible assumption) | exact Fl.not (by decide +kernel) (by decide +kernel)) (by first | (with_reducible assumption) | exact Fl.not (by decide +kernel) (by decide +kernel)) ?_; intro r n hr; simp only [Act.put, List.setIfInBounds_toArray, List.set_cons_succ, List.set_cons_zero])
  go_ret
  exact RB.of ((by rw [hr.order (Fl.not (by decide +kernel) (by decide +kernel)), sub_self_zero] : _ = _))
theorem sIsFinite_any {c x : Nat} (hx : Fl .f32 c x) (w : World) : Calls Try.prog 12 #[.float .f32 x] w (RB (fin .f32 c) w) := by
  go_enter Try.func12, Try.ntmps12
  go_wp2_with (go_at_call 26; refine (l01Finite_any hx _).mono ?_; rintro e w' ⟨rfl, n, rfl⟩)
  go_ret
  exact RB.of rfl
theorem isFiniteWide_any {c x : Nat} (hx : Fl .f64 c x) (w : World) : Calls Try.prog 27 #[.float .f64 x] w (RB (fin .f64 c) w) := by
  go_enter Try.func27, Try.ntmps27
  go_wp2_with (go_at_call 35; refine (abs_any hx _).mono ?_; rintro e w' ⟨r, n, rfl, hr, rfl⟩)
  go_ret
  exact RB.of ((by rw [hr.order (Fl.not (by decide +kernel) (by decide +kernel)), le_most] : _ = _))
theorem iIsFinite_any {c x : Nat} (hx : Fl .f32 c x) (w : World) : Calls Try.prog 13 #[.float .f32 x] w (RB (fin .f32 c) w) := by
  go_enter Try.func13, Try.ntmps13
  go_wp2_with (first | (refine wpList_fcv rfl rfl rfl (by kernel_rfl) Try.underlying29 (by decide) (by first | (with_reducible assumption) | exact Fl.not (by decide +kernel) (by decide +kernel)) (fits_wide _) ?_; intro r n hr; simp only [Act.put, List.setIfInBounds_toArray, List.set_cons_succ, List.set_cons_zero]) | (go_at_call 27; refine (isFiniteWide_any (by assumption) _).mono ?_; rintro e w' ⟨rfl, n, rfl⟩))
  go_ret
  exact RB.of (fin_wide c)
theorem law_IsFinite {a : Nat} (wa : (Lit.float .f32 a).wf = true) (w : World) : Calls Try.prog 4 #[.float .f32 a] w (RB true w) := by
  go_enter Try.func4, Try.ntmps4
  go_wp2_with (first | (go_at_call 12; refine (sIsFinite_any (Fl.own wa) _).mono ?_; rintro e w' ⟨rfl, n, rfl⟩) | (go_at_call 13; refine (iIsFinite_any (Fl.own wa) _).mono ?_; rintro e w' ⟨rfl, n, rfl⟩))
  go_ret
  exact RB.of rfl
theorem sBitsOf_any {c x : Nat} (hx : Fl .f32 c x) (w : World) : Calls Try.prog 14 #[.float .f32 x] w (RI .i64 c w) := by
  go_enter Try.func14, Try.ntmps14
  go_wp2_with (go_at_call 28; refine (l01Bits_any hx _).mono ?_; rintro e w' ⟨rfl, n, rfl⟩)
  go_ret
  exact RI.of rfl
theorem law_BitsOf {a : Nat} (wa : (Lit.float .f32 a).wf = true) (w : World) : Calls Try.prog 5 #[.float .f32 a] w (RB true w) := by
  go_enter Try.func5, Try.ntmps5
  go_wp2_with (first | (go_at_call 14; refine (sBitsOf_any (Fl.own wa) _).mono ?_; rintro e w' ⟨rfl, n, rfl⟩) | (go_at_call 15; refine (bitsOf_any (Fl.own wa) _).mono ?_; rintro e w' ⟨rfl, n, rfl⟩))
  go_ret
  exact RB.of rfl
/-- 'returns these values; nothing has been written' -/
def RT (v : Value) (w : World) (e : Ending) (w' : World) : Prop := e = .returned v ∧ ∃ n, w' = w.drewN n
theorem RT.of {v : Value} {w : World} {n : Nat} : RT v w (.returned v) (w.drewN n) := ⟨rfl, n, rfl⟩
theorem RT.of0 {v : Value} {w : World} : RT v w (.returned v) w := ⟨rfl, 0, rfl⟩
theorem l01From_any {n : Int} (h0 : 0 ≤ n) (h1 : n ≤ 4294967295) (w : World) : Calls Try.prog 32 #[.int .i64 n] w (RT (.float .f32 n.toNat) w) := by
  go_enter Try.func32, Try.ntmps32
  go_wp2
  go_ret
  exact RT.of0
theorem l00In_yes {n lo hi : Int} (h0 : lo ≤ n) (h1 : n ≤ hi) (w : World) : Calls Try.prog 31 #[.int .i64 n, .int .i64 lo, .int .i64 hi] w (RB true w) := by
  go_enter Try.func31, Try.ntmps31
  go_wp2
  go_ret
  exact RB.of0 rfl
theorem l00In_no {n lo hi : Int} (h : n < lo ∨ hi < n) (w : World) : Calls Try.prog 31 #[.int .i64 n, .int .i64 lo, .int .i64 hi] w (RB false w) := by
  by_cases h0 : n < lo
  · go_enter Try.func31, Try.ntmps31
    go_wp2
    go_ret
    exact RB.of0 rfl
  · have h2 : decide (n ≤ hi) = false := by rw [decide_eq_false_iff_not]; omega
    go_enter Try.func31, Try.ntmps31
    go_wp2
    go_ret
    exact RB.of0 rfl
theorem sFromBits_yes {n : Int} (h0 : 0 ≤ n) (h1 : n ≤ 4294967295) (w : World) : Calls Try.prog 16 #[.int .i64 n] w (RT (.tuple #[.float .f32 n.toNat, .bool true]) w) := by
  go_enter Try.func16, Try.ntmps16
  go_wp2_with (first | (go_at_call 32; refine (l01From_any h0 h1 _).mono ?_; rintro e w' ⟨rfl, n, rfl⟩) | go_in)
  go_ret2
  exact RT.of
theorem sFromBits_no {n : Int} (h : n < 0 ∨ 4294967295 < n) (w : World) : Calls Try.prog 16 #[.int .i64 n] w (RT (.tuple #[.float .f32 0, .bool false]) w) := by
  go_enter Try.func16, Try.ntmps16
  go_wp2_with (go_at_call 31; refine (l00In_no h _).mono ?_; rintro e w' ⟨rfl, n, rfl⟩)
  go_ret2
  exact RT.of
theorem iFromBits_yes {n : Int} (h0 : 0 ≤ n) (h1 : n ≤ 4294967295) (w : World) : Calls Try.prog 17 #[.int .i64 n] w (RT (.tuple #[.float .f32 n.toNat, .bool true]) w) := by
  go_enter Try.func17, Try.ntmps17
  go_wp2
  go_ret2
  exact RT.of0
theorem iFromBits_no {n : Int} (h : n < 0 ∨ 4294967295 < n) (w : World) : Calls Try.prog 17 #[.int .i64 n] w (RT (.tuple #[.float .f32 0, .bool false]) w) := by
  rcases h with h | h
  all_goals
    go_enter Try.func17, Try.ntmps17
    go_wp2
    go_ret2
    exact RT.of0
theorem law_FromBits {n : Int} (_wn : (Lit.int .i64 n).wf = true) (w : World) : Calls Try.prog 6 #[.int .i64 n] w (RB true w) := by
  by_cases h : 0 ≤ n ∧ n ≤ 4294967295
  · obtain ⟨h0, h1⟩ := h
    have hx : Fl .f32 (nrm .f32 n.toNat) n.toNat := Fl.own (wf_of_lt .f32 _ (by show _ < 2 ^ 32; omega))
    go_enter Try.func6, Try.ntmps6
    go_wp2_with (first | (go_at_call 16; refine (sFromBits_yes h0 h1 _).mono ?_; rintro e w' ⟨rfl, n, rfl⟩) | (go_at_call 17; refine (iFromBits_yes h0 h1 _).mono ?_; rintro e w' ⟨rfl, n, rfl⟩) | (refine wpList_fcv rfl rfl rfl (by kernel_rfl) Try.underlying29 (by decide) (by first | (with_reducible assumption) | exact Fl.not (by decide +kernel) (by decide +kernel)) (fits_wide _) ?_; intro r n hr; simp only [Act.put, List.setIfInBounds_toArray, List.set_cons_succ, List.set_cons_zero]) | (go_at_call 18; refine (sameFloat_any (by assumption) (by assumption) _).mono ?_; rintro e w' ⟨rfl, n, rfl⟩))
    go_ret
    exact RB.of rfl
  · have h' : n < 0 ∨ 4294967295 < n := by omega
    go_enter Try.func6, Try.ntmps6
    go_wp2_with (first | (go_at_call 16; refine (sFromBits_no h' _).mono ?_; rintro e w' ⟨rfl, n, rfl⟩) | (go_at_call 17; refine (iFromBits_no h' _).mono ?_; rintro e w' ⟨rfl, n, rfl⟩) | (refine wpList_fcv rfl rfl rfl (by kernel_rfl) Try.underlying29 (by decide) (by first | (with_reducible assumption) | exact Fl.not (by decide +kernel) (by decide +kernel)) (fits_wide _) ?_; intro r n hr; simp only [Act.put, List.setIfInBounds_toArray, List.set_cons_succ, List.set_cons_zero]) | (go_at_call 18; refine (sameFloat_any (by assumption) (by assumption) _).mono ?_; rintro e w' ⟨rfl, n, rfl⟩))
    go_ret
    exact RB.of rfl
theorem sIsSubnormal_any {c x : Nat} (hx : Fl .f32 c x) (w : World) : Calls Try.prog 21 #[.float .f32 x] w (RB (subn c) w) := by
  have hl := hx.self.lt32
  have he := exp_zero hl
  have h0 := hx.order (cy := 0) (y := 0) (Fl.not (by decide +kernel) (by decide +kernel))
  cases hz : (FloatKind.f32.format.order c 0 != some .eq)
  all_goals
    have HS := Keep.mk (subn_of hz)
    rw [← h0] at hz
    clear h0
    go_enter Try.func21, Try.ntmps21
    go_wp2_with (go_at_call 28; refine (l01Bits_any hx _).mono ?_; rintro e w' ⟨rfl, n, rfl⟩)
    go_ret
  · exact RB.of0 HS.out.symm
  · exact RB.of HS.out.symm
theorem iIsSubnormal_any {c x : Nat} (hx : Fl .f32 c x) (w : World) : Calls Try.prog 22 #[.float .f32 x] w (RB (subn c) w) := by
  have h0 := hx.order (cy := 0) (y := 0) (Fl.not (by decide +kernel) (by decide +kernel))
  cases hz : (FloatKind.f32.format.order c 0 != some .eq)
  all_goals
    have HS := Keep.mk (subn_of hz)
    rw [← h0] at hz
    clear h0
    go_enter Try.func22, Try.ntmps22
    go_wp2_with (first | (refine wpList_fcv_g rfl rfl rfl (by kernel_rfl) Try.underlying29 (by decide) (by first | (with_reducible assumption) | exact Fl.not (by decide +kernel) (by decide +kernel)) (fits_wide _) ?_; intro r n hr; simp only [Act.put, List.setIfInBounds_toArray, List.set_cons_succ, List.set_cons_zero]) | (go_at_call 35; refine (abs_any (by assumption) _).mono ?_; rintro e w' ⟨r, n, rfl, hr, rfl⟩))
    go_ret
  · exact RB.of0 HS.out.symm
  · refine RB.of ?_
    rw [hr.order (cy := 4039728865751334912) (Fl.not (by decide +kernel) (by decide +kernel)), small_wide]
    exact HS.out.symm
theorem law_IsSubnormal {a : Nat} (wa : (Lit.float .f32 a).wf = true) (w : World) : Calls Try.prog 8 #[.float .f32 a] w (RB true w) := by
  go_enter Try.func8, Try.ntmps8
  go_wp2_with (first | (go_at_call 21; refine (sIsSubnormal_any (Fl.own wa) _).mono ?_; rintro e w' ⟨rfl, n, rfl⟩) | (go_at_call 22; refine (iIsSubnormal_any (Fl.own wa) _).mono ?_; rintro e w' ⟨rfl, n, rfl⟩))
  go_ret
  exact RB.of rfl
theorem l01Flush_any {c x : Nat} (hx : Fl .f32 c x) (w : World) : Calls Try.prog 36 #[.float .f32 x] w (RF .f32 (flush c) w) := by
  have hl := hx.self.lt32
  have hlc : (c : Int) ≤ 4294967295 := by omega
  have he := exp_zero hl
  have hb := sign_bit hl
  by_cases hr : rung .f32 c < 8388608
  · rw [decide_eq_true hr] at he
    go_enter Try.func36, Try.ntmps36
    go_wp2_with (first | (go_at_call 28; refine (l01Bits_any hx _).mono ?_; rintro e w' ⟨rfl, n, rfl⟩) | (go_at_call 32; refine (l01From_any (by omega) (by omega) _).mono ?_; rintro e w' ⟨rfl, n, rfl⟩))
    go_ret
    refine RF.of ?_
    unfold flush; rw [if_pos hr]
    have e : ((c : Int) / 2147483648 * 2147483648).toNat = c / 2147483648 * 2147483648 := by omega
    show Fl .f32 _ ((c : Int) / 2147483648 * 2147483648).toNat
    rw [e]; exact flush_word hl
  · rw [decide_eq_false hr] at he
    go_enter Try.func36, Try.ntmps36
    go_wp2_with (first | (go_at_call 28; refine (l01Bits_any hx _).mono ?_; rintro e w' ⟨rfl, n, rfl⟩) | (go_at_call 32; refine (l01From_any (by omega) (by omega) _).mono ?_; rintro e w' ⟨rfl, n, rfl⟩))
    go_ret
    refine RF.of ?_
    unfold flush; rw [if_neg hr]; exact hx
theorem sFlushNumber_any {c x : Nat} (hx : Fl .f32 c x) (w : World) : Calls Try.prog 23 #[.float .f32 x] w (RF .f32 (flush c) w) := by
  go_enter Try.func23, Try.ntmps23
  go_wp2_with (go_at_call 36; refine (l01Flush_any hx _).mono ?_; rintro e w' ⟨r, n, rfl, hr, rfl⟩)
  go_ret
  exact RF.of hr
theorem copysign0_any {c y : Nat} (hy : Fl .f64 c y) (hn : isN .f64 c = false) (w : World) : Calls Try.prog 37 #[.float .f64 0, .float .f64 y] w (RF .f64 ((sgn .f64 c).toNat * 9223372036854775808) w) := by
  obtain rfl := hy.word hn
  have hl := hy.lt64
  have h1 : bits .andNot .u64 0 9223372036854775808 = 0 := by decide +kernel
  have h2 := u64_and_nat y 9223372036854775808 hl (by decide)
  rw [show ((9223372036854775808 : Nat) : Int) = 9223372036854775808 from rfl, show (9223372036854775808 : Nat) = 2 ^ 63 from rfl, nat_bit 63 y, show (2 : Nat) ^ 63 = 9223372036854775808 from rfl, sgn_div64 hl] at h2
  have h3 := Keep.mk (show bits .or .u64 0 ((sgn .f64 y).toNat % 2 * 9223372036854775808) = (((sgn .f64 y).toNat * 9223372036854775808 : Nat) : Int) by cases sgn .f64 y <;> decide +kernel)
  go_enter Try.func37, Try.ntmps37
  go_wp2
  go_ret
  refine RF.of0 ?_
  show Fl .f64 _ (bits .or .u64 0 ((sgn .f64 y).toNat % 2 * 9223372036854775808)).toNat
  rw [h3.out, Int.toNat_natCast]
  exact sign_word
theorem iFlushNumber_any {c x : Nat} (hx : Fl .f32 c x) (w : World) : Calls Try.prog 24 #[.float .f32 x] w (RF .f32 (flush c) w) := by
  have hl := hx.self.lt32
  cases hs : subn c
  · have HK := Keep.mk (flush_not hl hs)
    go_enter Try.func24, Try.ntmps24
    go_wp2_with (go_at_call 22; refine (iIsSubnormal_any hx _).mono ?_; rintro e w' ⟨rfl, n, rfl⟩)
    go_ret
    refine RF.of ?_
    rw [HK.out]; exact hx
  · have hr := subn_rung hs
    have hf : fin .f32 c = true := by unfold fin; rw [in32, decide_eq_true (by omega)]
    have hsg := (wide_fin hf).2.1
    have hn := fin_notN (wide_fin hf).1
    have HK := Keep.mk (show flush c = c / 2147483648 * 2147483648 by unfold flush; rw [if_pos hr])
    have HD := Keep.mk (sgn_div32 hl)
    obtain ⟨f1, f2⟩ := fcv_sign (sgn .f32 c)
    go_enter Try.func24, Try.ntmps24
    go_wp2_with (first | (go_at_call 22; refine (iIsSubnormal_any hx _).mono ?_; rintro e w' ⟨rfl, n, rfl⟩) | (refine wpList_fcv rfl rfl rfl (by kernel_rfl) Try.underlying29 (by decide) (by first | (with_reducible assumption) | exact Fl.not (by decide +kernel) (by decide +kernel)) (fits_wide _) ?_; intro r n hr; simp only [Act.put, List.setIfInBounds_toArray, List.set_cons_succ, List.set_cons_zero]) | (go_at_call 37; refine (copysign0_any (by assumption) hn _).mono ?_; rw [hsg]; rintro e w' ⟨r, n, rfl, hr, rfl⟩) | (refine wpList_fcv rfl rfl rfl (by kernel_rfl) Try.underlying22 (by decide) (by first | (with_reducible assumption) | exact Fl.not (by decide +kernel) (by decide +kernel)) f1 ?_; intro r n hr; simp only [Act.put, List.setIfInBounds_toArray, List.set_cons_succ, List.set_cons_zero]))
    go_ret
    refine RF.of2 ?_
    rw [HK.out, HD.out, ← f2]; exact hr
theorem law_FlushNumber {a : Nat} (wa : (Lit.float .f32 a).wf = true) (w : World) : Calls Try.prog 9 #[.float .f32 a] w (RB true w) := by
  go_enter Try.func9, Try.ntmps9
  go_wp2_with (first | (go_at_call 23; refine (sFlushNumber_any (Fl.own wa) _).mono ?_; rintro e w' ⟨r, n, rfl, hr, rfl⟩) | (go_at_call 24; refine (iFlushNumber_any (Fl.own wa) _).mono ?_; rintro e w' ⟨r, n, rfl, hr, rfl⟩) | (refine wpList_fcv rfl rfl rfl (by kernel_rfl) Try.underlying29 (by decide) (by first | (with_reducible assumption) | exact Fl.not (by decide +kernel) (by decide +kernel)) (fits_wide _) ?_; intro r n hr; simp only [Act.put, List.setIfInBounds_toArray, List.set_cons_succ, List.set_cons_zero]) | (go_at_call 18; refine (sameFloat_any (by assumption) (by assumption) _).mono ?_; rintro e w' ⟨rfl, n, rfl⟩))
  go_ret
  exact RB.of rfl
end Go.Proofs.Ytfnmopjfpnlkfaa
