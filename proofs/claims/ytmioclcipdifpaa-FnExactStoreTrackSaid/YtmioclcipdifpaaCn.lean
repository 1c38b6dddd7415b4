/-
  Contracts of chapter 1's smallest functions, of the program and of its model, and of 'sameFloat': what each returns, told by what its arguments are told by. No premise beyond those named.
-/
import Derived.Test.YtmioclcipdifpaaExt
import Derived.Test.YtmioclcipdifpaaRows
import Derived.Handy
namespace Go.Proofs.Ytmioclcipdifpaa
open Go Go.RowKit

/-- 'returns the integer v; nothing has been written' -/
def RI (k : IntKind) (v : Int) (w : World) (e : Ending) (w' : World) : Prop := e = .returned (.int k v) ∧ ∃ n, w' = w.drewN n
def RB (b : Bool) (w : World) (e : Ending) (w' : World) : Prop := e = .returned (.bool b) ∧ ∃ n, w' = w.drewN n
/-- 'returns a float that is told by c; nothing has been written' -/
def RF (k : FloatKind) (c : Nat) (w : World) (e : Ending) (w' : World) : Prop := ∃ r n, e = .returned (.float k r) ∧ Fl k c r ∧ w' = w.drewN n
theorem ret_i {k : IntKind} {a b : Int} (h : a = b) : Ending.returned (.int k a) = .returned (.int k b) := by rw [h]
theorem ret_b {a b : Bool} (h : a = b) : Ending.returned (.bool a) = .returned (.bool b) := by rw [h]

theorem Fl.lt32 {c x : Nat} (h : Fl .f32 c x) : x < 4294967296 := by have := h.wf; simpa [Lit.wf] using this
theorem Fl.lt64 {c x : Nat} (h : Fl .f64 c x) : x < 18446744073709551616 := by have := h.wf; simpa [Lit.wf] using this
/-- 'x != x' tells a not-a-number. -/
theorem Fl.bne {k : FloatKind} {c x : Nat} (h : Fl k c x) : (k.format.order x x != some .eq) = isN k c := by
  rw [h.nn]
  cases hn : isN k x
  · rw [order_self hn]; rfl
  · rw [order_self_nan hn]; rfl
theorem RI.of {k : IntKind} {v v' : Int} {w : World} {n : Nat} (h : v = v') : RI k v' w (.returned (.int k v)) (w.drewN n) := ⟨by rw [h], n, rfl⟩
theorem RI.of0 {k : IntKind} {v v' : Int} {w : World} (h : v = v') : RI k v' w (.returned (.int k v)) w := ⟨by rw [h], 0, rfl⟩
theorem RB.of {v v' : Bool} {w : World} {n : Nat} (h : v = v') : RB v' w (.returned (.bool v)) (w.drewN n) := ⟨by rw [h], n, rfl⟩
theorem RB.of0 {v v' : Bool} {w : World} (h : v = v') : RB v' w (.returned (.bool v)) w := ⟨by rw [h], 0, rfl⟩
theorem RF.of {k : FloatKind} {c r : Nat} {w : World} {n : Nat} (h : Fl k c r) : RF k c w (.returned (.float k r)) (w.drewN n) := ⟨r, n, rfl, h, rfl⟩
theorem RI.any {k : IntKind} {v v' : Int} {w w' : World} (h : v = v') (d : Drew w w') : RI k v' w (.returned (.int k v)) w' := ⟨by rw [h], d⟩
theorem RB.any {v v' : Bool} {w w' : World} (h : v = v') (d : Drew w w') : RB v' w (.returned (.bool v)) w' := ⟨by rw [h], d⟩
theorem RF.any {k : FloatKind} {c r : Nat} {w w' : World} (h : Fl k c r) (d : Drew w w') : RF k c w (.returned (.float k r)) w' := by
  obtain ⟨n, rfl⟩ := d; exact ⟨r, n, rfl, h, rfl⟩
theorem RI.of2 {k : IntKind} {v v' : Int} {w : World} {m n : Nat} (h : v = v') : RI k v' w (.returned (.int k v)) ((w.drewN m).drewN n) := ⟨by rw [h], m + n, World.drewN_drewN ..⟩
theorem RB.of2 {v v' : Bool} {w : World} {m n : Nat} (h : v = v') : RB v' w (.returned (.bool v)) ((w.drewN m).drewN n) := ⟨by rw [h], m + n, World.drewN_drewN ..⟩
theorem RF.of2 {k : FloatKind} {c r : Nat} {w : World} {m n : Nat} (h : Fl k c r) : RF k c w (.returned (.float k r)) ((w.drewN m).drewN n) := ⟨r, m + n, rfl, h, World.drewN_drewN ..⟩
theorem RF.of0 {k : FloatKind} {c r : Nat} {w : World} (h : Fl k c r) : RF k c w (.returned (.float k r)) w := ⟨r, 0, rfl, h, rfl⟩

theorem abs_bits {x : Nat} (h : x < 18446744073709551616) : (bits .andNot .u64 (x : Int) 9223372036854775808).toNat = fabs x := by
  have := u64_andNot_nat x 9223372036854775808 h (by decide)
  rw [show ((9223372036854775808 : Nat) : Int) = 9223372036854775808 from rfl] at this
  rw [this, Int.toNat_natCast]
  exact Nat.and_two_pow_sub_one_eq_mod x 63

set_option maxHeartbeats 400000 in
theorem abs_any {c x : Nat} (hx : Fl .f64 c x) (w : World) : Calls Try.prog 56 #[.float .f64 x] w (RF .f64 (fabs c) w) := by
  go_enter Try.func56, Try.ntmps56
  go_wp2
  go_ret
  refine RF.of0 ?_
  show Fl .f64 _ (bits .andNot .u64 (x : Int) 9223372036854775808).toNat
  rw [abs_bits hx.lt64]
  exact hx.fabs
set_option maxHeartbeats 400000 in
theorem isNaN_any {c x : Nat} (hx : Fl .f64 c x) (w : World) : Calls Try.prog 53 #[.float .f64 x] w (RB (isN .f64 c) w) := by
  go_enter Try.func53, Try.ntmps53
  go_wp2
  go_ret
  exact RB.of0 hx.bne
set_option maxHeartbeats 400000 in
theorem l01Bits_any {c x : Nat} (hx : Fl .f32 c x) (w : World) : Calls Try.prog 47 #[.float .f32 x] w (RI .i64 c w) := by
  have hl : (x : Int) ≤ 4294967295 := by have := hx.lt32; omega
  go_enter Try.func47, Try.ntmps47
  go_wp2
  · rename_i h; rw [hx.bne] at h
    go_ret
    refine RI.of0 ?_
    rw [← hx.eq, nrm_is (hx.nn ▸ h)]; rfl
  · rename_i h; rw [hx.bne] at h
    go_ret
    exact RI.of0 (by rw [hx.word h])
set_option maxRecDepth 100000 in
set_option maxHeartbeats 400000 in
theorem bitsOf_any {c x : Nat} (hx : Fl .f32 c x) (w : World) : Calls Try.prog 52 #[.float .f32 x] w (RI .i64 c w) := by
  have hl : (x : Int) ≤ 4294967295 := by have := hx.lt32; omega
  have hn := isN_wide c
  cases h : isN .f32 c
  all_goals
    rw [h] at hn
    go_enter Try.func52, Try.ntmps52
    go_wp2_with (first | (go_at_call 53; refine (isNaN_any (by assumption) _).mono ?_; rw [hn]; rintro e w' ⟨rfl, n, rfl⟩) | (refine wpList_fcv rfl rfl rfl (by kernel_rfl) Try.underlying67 (by decide) hx (fits_wide _) ?_; intro r n hr; simp only [Act.put, List.setIfInBounds_toArray, List.set_cons_succ, List.set_cons_zero]))
    go_ret
  · exact RI.of (by rw [hx.word h])
  · exact RI.of (by rw [← hx.eq, nrm_is (hx.nn ▸ h)]; rfl)
/-- What is told alike is the same. -/
theorem sameFloat_any {c a b : Nat} (ha : Fl .f64 c a) (hb : Fl .f64 c b) (w : World) : Calls Try.prog 38 #[.float .f64 a, .float .f64 b] w (RB true w) := by
  have h1 := ha.bne
  have h2 := hb.bne
  cases hn : isN .f64 c
  · obtain rfl := ha.word hn
    obtain rfl := hb.word hn
    rw [hn] at h1
    clear h2
    have h3 : FloatKind.f64.format.order b b = some .eq := by simpa using h1
    by_cases hz : FloatKind.f64.format.order b 0 = some .eq
    · have tk_r1 : True := trivial; have tk_r2 : True := trivial
      go_enter Try.func38, Try.ntmps38
      go_wp2_with (first | (clear tk_r1; refine wpList_fop rfl rfl rfl rfl rfl (by first | (with_reducible assumption) | (with_reducible exact Fl.ofInt _ _) | exact Fl.not (by decide +kernel) (by decide +kernel)) (by first | (with_reducible assumption) | (with_reducible exact Fl.ofInt _ _) | exact Fl.not (by decide +kernel) (by decide +kernel)) ?_; intro r1 n_r1 h_r1; simp only [Act.put, List.setIfInBounds_toArray, List.set_cons_succ, List.set_cons_zero]) | (clear tk_r2; refine wpList_fop rfl rfl rfl rfl rfl (by first | (with_reducible assumption) | (with_reducible exact Fl.ofInt _ _) | exact Fl.not (by decide +kernel) (by decide +kernel)) (by first | (with_reducible assumption) | (with_reducible exact Fl.ofInt _ _) | exact Fl.not (by decide +kernel) (by decide +kernel)) ?_; intro r2 n_r2 h_r2; simp only [Act.put, List.setIfInBounds_toArray, List.set_cons_succ, List.set_cons_zero]))
      go_ret
      refine RB.of ?_
      rw [h_r1.order (cy := 0) (Fl.not (by decide +kernel) (by decide +kernel)), h_r2.order (cy := 0) (Fl.not (by decide +kernel) (by decide +kernel))]
      simp
    · go_enter Try.func38, Try.ntmps38
      go_wp2_with (refine wpList_fop rfl rfl rfl rfl rfl (by first | (with_reducible assumption) | (with_reducible exact Fl.ofInt _ _) | exact Fl.not (by decide +kernel) (by decide +kernel)) (by first | (with_reducible assumption) | (with_reducible exact Fl.ofInt _ _) | exact Fl.not (by decide +kernel) (by decide +kernel)) ?_; intro r n hr; simp only [Act.put, List.setIfInBounds_toArray, List.set_cons_succ, List.set_cons_zero])
      go_ret
      exact RB.of0 (by simp)
  · rw [hn] at h1 h2
    go_enter Try.func38, Try.ntmps38
    go_wp2
    go_ret
    exact RB.of0 (by simp)
theorem l01Same_any {c d a b : Nat} (ha : Fl .f32 c a) (hb : Fl .f32 d b) (w : World) : Calls Try.prog 42 #[.float .f32 a, .float .f32 b] w (RB ((c : Int) == (d : Int)) w) := by
  go_enter Try.func42, Try.ntmps42
  go_wp2_with (go_at_call 47; refine (l01Bits_any (by assumption) _).mono ?_; rintro e w' ⟨rfl, n, rfl⟩)
  go_ret
  exact RB.of rfl
/-- 'returns these values; nothing has been written' -/
def RT (v : Value) (w : World) (e : Ending) (w' : World) : Prop := e = .returned v ∧ ∃ n, w' = w.drewN n
theorem RT.of {v : Value} {w : World} {n : Nat} : RT v w (.returned v) (w.drewN n) := ⟨rfl, n, rfl⟩
theorem RT.any {v : Value} {w w' : World} (d : Drew w w') : RT v w (.returned v) w' := ⟨rfl, d⟩
theorem RT.of0 {v : Value} {w : World} : RT v w (.returned v) w := ⟨rfl, 0, rfl⟩
theorem l00In_yes {n lo hi : Int} (h0 : lo ≤ n) (h1 : n ≤ hi) (w : World) : Calls Try.prog 41 #[.int .i64 n, .int .i64 lo, .int .i64 hi] w (RB true w) := by
  go_enter Try.func41, Try.ntmps41
  go_wp2
  go_ret
  exact RB.of0 rfl
theorem l00In_no {n lo hi : Int} (h : n < lo ∨ hi < n) (w : World) : Calls Try.prog 41 #[.int .i64 n, .int .i64 lo, .int .i64 hi] w (RB false w) := by
  by_cases h0 : n < lo
  · go_enter Try.func41, Try.ntmps41
    go_wp2
    go_ret
    exact RB.of0 rfl
  · have h2 : decide (n ≤ hi) = false := by rw [decide_eq_false_iff_not]; omega
    go_enter Try.func41, Try.ntmps41
    go_wp2
    go_ret
    exact RB.of0 rfl
theorem copysign0_any {c y : Nat} (hy : Fl .f64 c y) (hn : isN .f64 c = false) (w : World) : Calls Try.prog 58 #[.float .f64 0, .float .f64 y] w (RF .f64 ((sgn .f64 c).toNat * 9223372036854775808) w) := by
  obtain rfl := hy.word hn
  have hl := hy.lt64
  have h1 : bits .andNot .u64 0 9223372036854775808 = 0 := by decide +kernel
  have h2 := u64_and_nat y 9223372036854775808 hl (by decide)
  rw [show ((9223372036854775808 : Nat) : Int) = 9223372036854775808 from rfl, show (9223372036854775808 : Nat) = 2 ^ 63 from rfl, nat_bit 63 y, show (2 : Nat) ^ 63 = 9223372036854775808 from rfl, sgn_div64 hl] at h2
  have h3 := Keep.mk (show bits .or .u64 0 ((sgn .f64 y).toNat % 2 * 9223372036854775808) = (((sgn .f64 y).toNat * 9223372036854775808 : Nat) : Int) by cases sgn .f64 y <;> decide +kernel)
  go_enter Try.func58, Try.ntmps58
  go_wp2
  go_ret
  refine RF.of0 ?_
  show Fl .f64 _ (bits .or .u64 0 ((sgn .f64 y).toNat % 2 * 9223372036854775808)).toNat
  rw [h3.out, Int.toNat_natCast]
  exact sign_word
end Go.Proofs.Ytmioclcipdifpaa
