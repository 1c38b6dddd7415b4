/-
  Contracts of chapter 1's smallest functions, of the program and of its model, and of 'sameFloat': what each returns, told by what its arguments are told by. No premise beyond those named.
-/
import Derived.Test.YthambmgibelpkaaDoorExt
import Derived.Test.YthambmgibelpkaaDoorRows
import Derived.Handy
namespace Go.Proofs.YthambmgibelpkaaDoor
open Go Go.RowKit

/-- 'returns the integer v; nothing has been written' -/
def RI (k : IntKind) (v : Int) (w : World) (e : Ending) (w' : World) : Prop := e = .returned (.int k v) ∧ ∃ n, w' = w.drewN n
def RB (b : Bool) (w : World) (e : Ending) (w' : World) : Prop := e = .returned (.bool b) ∧ ∃ n, w' = w.drewN n
/-- 'returns a float that is told by c; nothing has been written' -/
def RF (k : FloatKind) (c : Nat) (w : World) (e : Ending) (w' : World) : Prop := ∃ r n, e = .returned (.float k r) ∧ Fl k c r ∧ w' = w.drewN n
theorem ret_i {k : IntKind} {a b : Int} (h : a = b) : Ending.returned (.int k a) = .returned (.int k b) := by rw [h]
theorem ret_b {a b : Bool} (h : a = b) : Ending.returned (.bool a) = .returned (.bool b) := by rw [h]

theorem Fl.lt32 {c x : Nat} (h : Fl .f32 c x) : x < 4294967296 := by have := h.wf; simpa [Lit.wf] using this
theorem Fl.lt64 {c x : Nat} (h : Fl .f64 c x) : x < 18446744073709551616 := by have := h.wf; simpa [Lit.wf] using this
/-- 'x != x' tells a not-a-number. -/
theorem Fl.bne {k : FloatKind} {c x : Nat} (h : Fl k c x) : (k.format.order x x != some .eq) = isN k c := by
  rw [h.nn]
  cases hn : isN k x
  · rw [order_self hn]; rfl
  · rw [order_self_nan hn]; rfl
theorem RI.of {k : IntKind} {v v' : Int} {w : World} {n : Nat} (h : v = v') : RI k v' w (.returned (.int k v)) (w.drewN n) := ⟨by rw [h], n, rfl⟩
theorem RI.of0 {k : IntKind} {v v' : Int} {w : World} (h : v = v') : RI k v' w (.returned (.int k v)) w := ⟨by rw [h], 0, rfl⟩
theorem RB.of {v v' : Bool} {w : World} {n : Nat} (h : v = v') : RB v' w (.returned (.bool v)) (w.drewN n) := ⟨by rw [h], n, rfl⟩
theorem RB.of0 {v v' : Bool} {w : World} (h : v = v') : RB v' w (.returned (.bool v)) w := ⟨by rw [h], 0, rfl⟩
theorem RF.of {k : FloatKind} {c r : Nat} {w : World} {n : Nat} (h : Fl k c r) : RF k c w (.returned (.float k r)) (w.drewN n) := ⟨r, n, rfl, h, rfl⟩
theorem RI.any {k : IntKind} {v v' : Int} {w w' : World} (h : v = v') (d : Drew w w') : RI k v' w (.returned (.int k v)) w' := ⟨by rw [h], d⟩
theorem RB.any {v v' : Bool} {w w' : World} (h : v = v') (d : Drew w w') : RB v' w (.returned (.bool v)) w' := ⟨by rw [h], d⟩
theorem RF.any {k : FloatKind} {c r : Nat} {w w' : World} (h : Fl k c r) (d : Drew w w') : RF k c w (.returned (.float k r)) w' := by
  obtain ⟨n, rfl⟩ := d; exact ⟨r, n, rfl, h, rfl⟩
theorem RI.of2 {k : IntKind} {v v' : Int} {w : World} {m n : Nat} (h : v = v') : RI k v' w (.returned (.int k v)) ((w.drewN m).drewN n) := ⟨by rw [h], m + n, World.drewN_drewN ..⟩
theorem RB.of2 {v v' : Bool} {w : World} {m n : Nat} (h : v = v') : RB v' w (.returned (.bool v)) ((w.drewN m).drewN n) := ⟨by rw [h], m + n, World.drewN_drewN ..⟩
theorem RF.of2 {k : FloatKind} {c r : Nat} {w : World} {m n : Nat} (h : Fl k c r) : RF k c w (.returned (.float k r)) ((w.drewN m).drewN n) := ⟨r, m + n, rfl, h, World.drewN_drewN ..⟩
theorem RF.of0 {k : FloatKind} {c r : Nat} {w : World} (h : Fl k c r) : RF k c w (.returned (.float k r)) w := ⟨r, 0, rfl, h, rfl⟩

theorem abs_bits {x : Nat} (h : x < 18446744073709551616) : (bits .andNot .u64 (x : Int) 9223372036854775808).toNat = fabs x := by
  have := u64_andNot_nat x 9223372036854775808 h (by decide)
  rw [show ((9223372036854775808 : Nat) : Int) = 9223372036854775808 from rfl] at this
  rw [this, Int.toNat_natCast]
  exact Nat.and_two_pow_sub_one_eq_mod x 63

set_option maxHeartbeats 400000 in
theorem isNaN_any {c x : Nat} (hx : Fl .f64 c x) (w : World) : Calls Tryd.prog 30 #[.float .f64 x] w (RB (isN .f64 c) w) := by
  go_enter Tryd.func30, Tryd.ntmps30
  go_wp2
  go_ret
  exact RB.of0 hx.bne
set_option maxHeartbeats 400000 in
theorem l01Bits_any {c x : Nat} (hx : Fl .f32 c x) (w : World) : Calls Tryd.prog 19 #[.float .f32 x] w (RI .i64 c w) := by
  have hl : (x : Int) ≤ 4294967295 := by have := hx.lt32; omega
  go_enter Tryd.func19, Tryd.ntmps19
  go_wp2
  · rename_i h; rw [hx.bne] at h
    go_ret
    refine RI.of0 ?_
    rw [← hx.eq, nrm_is (hx.nn ▸ h)]; rfl
  · rename_i h; rw [hx.bne] at h
    go_ret
    exact RI.of0 (by rw [hx.word h])
set_option maxRecDepth 100000 in
set_option maxHeartbeats 400000 in
theorem bitsOf_any {c x : Nat} (hx : Fl .f32 c x) (w : World) : Calls Tryd.prog 23 #[.float .f32 x] w (RI .i64 c w) := by
  have hl : (x : Int) ≤ 4294967295 := by have := hx.lt32; omega
  have hn := isN_wide c
  cases h : isN .f32 c
  all_goals
    rw [h] at hn
    go_enter Tryd.func23, Tryd.ntmps23
    go_wp2_with (first | (go_at_call 30; refine (isNaN_any (by assumption) _).mono ?_; rw [hn]; rintro e w' ⟨rfl, n, rfl⟩) | (refine wpList_fcv rfl rfl rfl (by kernel_rfl) Tryd.underlying33 (by decide) hx (fits_wide _) ?_; intro r n hr; simp only [Act.put, List.setIfInBounds_toArray, List.set_cons_succ, List.set_cons_zero]))
    go_ret
  · exact RI.of (by rw [hx.word h])
  · exact RI.of (by rw [← hx.eq, nrm_is (hx.nn ▸ h)]; rfl)
/-- What is told alike is the same. -/
theorem sameFloat_any {c a b : Nat} (ha : Fl .f64 c a) (hb : Fl .f64 c b) (w : World) : Calls Tryd.prog 17 #[.float .f64 a, .float .f64 b] w (RB true w) := by
  have h1 := ha.bne
  have h2 := hb.bne
  cases hn : isN .f64 c
  · obtain rfl := ha.word hn
    obtain rfl := hb.word hn
    rw [hn] at h1
    clear h2
    have h3 : FloatKind.f64.format.order b b = some .eq := by simpa using h1
    by_cases hz : FloatKind.f64.format.order b 0 = some .eq
    · have tk_r1 : True := trivial; have tk_r2 : True := trivial
      go_enter Tryd.func17, Tryd.ntmps17
      go_wp2_with (first | (clear tk_r1; refine wpList_fop rfl rfl rfl rfl rfl (by first | (with_reducible assumption) | (with_reducible exact Fl.ofInt _ _) | exact Fl.not (by decide +kernel) (by decide +kernel)) (by first | (with_reducible assumption) | (with_reducible exact Fl.ofInt _ _) | exact Fl.not (by decide +kernel) (by decide +kernel)) ?_; intro r1 n_r1 h_r1; simp only [Act.put, List.setIfInBounds_toArray, List.set_cons_succ, List.set_cons_zero]) | (clear tk_r2; refine wpList_fop rfl rfl rfl rfl rfl (by first | (with_reducible assumption) | (with_reducible exact Fl.ofInt _ _) | exact Fl.not (by decide +kernel) (by decide +kernel)) (by first | (with_reducible assumption) | (with_reducible exact Fl.ofInt _ _) | exact Fl.not (by decide +kernel) (by decide +kernel)) ?_; intro r2 n_r2 h_r2; simp only [Act.put, List.setIfInBounds_toArray, List.set_cons_succ, List.set_cons_zero]))
      go_ret
      refine RB.of ?_
      rw [h_r1.order (cy := 0) (Fl.not (by decide +kernel) (by decide +kernel)), h_r2.order (cy := 0) (Fl.not (by decide +kernel) (by decide +kernel))]
      simp
    · go_enter Tryd.func17, Tryd.ntmps17
      go_wp2_with (refine wpList_fop rfl rfl rfl rfl rfl (by first | (with_reducible assumption) | (with_reducible exact Fl.ofInt _ _) | exact Fl.not (by decide +kernel) (by decide +kernel)) (by first | (with_reducible assumption) | (with_reducible exact Fl.ofInt _ _) | exact Fl.not (by decide +kernel) (by decide +kernel)) ?_; intro r n hr; simp only [Act.put, List.setIfInBounds_toArray, List.set_cons_succ, List.set_cons_zero])
      go_ret
      exact RB.of0 (by simp)
  · rw [hn] at h1 h2
    go_enter Tryd.func17, Tryd.ntmps17
    go_wp2
    go_ret
    exact RB.of0 (by simp)
/-- 'returns these values; nothing has been written' -/
def RT (v : Value) (w : World) (e : Ending) (w' : World) : Prop := e = .returned v ∧ ∃ n, w' = w.drewN n
theorem RT.of {v : Value} {w : World} {n : Nat} : RT v w (.returned v) (w.drewN n) := ⟨rfl, n, rfl⟩
theorem RT.any {v : Value} {w w' : World} (d : Drew w w') : RT v w (.returned v) w' := ⟨rfl, d⟩
theorem RT.of0 {v : Value} {w : World} : RT v w (.returned v) w := ⟨rfl, 0, rfl⟩
theorem l01From_any {n : Int} (h0 : 0 ≤ n) (h1 : n ≤ 4294967295) (w : World) : Calls Tryd.prog 18 #[.int .i64 n] w (RT (.float .f32 n.toNat) w) := by
  go_enter Tryd.func18, Tryd.ntmps18
  go_wp2
  go_ret
  exact RT.of0
theorem iFromBits_yes {n : Int} (h0 : 0 ≤ n) (h1 : n ≤ 4294967295) (w : World) : Calls Tryd.prog 22 #[.int .i64 n] w (RT (.tuple #[.float .f32 n.toNat, .bool true]) w) := by
  go_enter Tryd.func22, Tryd.ntmps22
  go_wp2
  go_ret2
  exact RT.of0
theorem iFromBits_no {n : Int} (h : n < 0 ∨ 4294967295 < n) (w : World) : Calls Tryd.prog 22 #[.int .i64 n] w (RT (.tuple #[.float .f32 0, .bool false]) w) := by
  rcases h with h | h
  all_goals
    go_enter Tryd.func22, Tryd.ntmps22
    go_wp2
    go_ret2
    exact RT.of0
end Go.Proofs.YthambmgibelpkaaDoor
