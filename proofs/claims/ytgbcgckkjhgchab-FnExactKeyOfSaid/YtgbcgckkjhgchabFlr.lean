/-
The floor of a small finite number, by value: ffloor, and the whole number that it is converted to. The exact bounds of the steps of a place.
-/
import Derived.Test.YtgbcgckkjhgchabSteps
namespace Go.Proofs.Ytgbcgckkjhgchab
open Go Go.RowKit
set_option maxRecDepth 100000

theorem cut_down_at (s : Bool) (n d : Nat) : if s then n ≤ Ieee.Toward.down.cut s n d * 2 ^ d ∧ Ieee.Toward.down.cut s n d * 2 ^ d < n + 2 ^ d else Ieee.Toward.down.cut s n d * 2 ^ d ≤ n ∧ n < (Ieee.Toward.down.cut s n d + 1) * 2 ^ d := by
  unfold Ieee.Toward.cut
  dsimp only
  rw [Nat.one_shiftLeft]
  have hp := Nat.two_pow_pos d
  by_cases hd : d ≤ n.log2 + 2
  · rw [Nat.min_eq_left hd]
    have h1 := Nat.div_add_mod n (2 ^ d)
    have h2 := Nat.mod_lt n hp
    generalize n / 2 ^ d = q at *
    generalize n % 2 ^ d = r at *
    generalize 2 ^ d = D at *
    rw [Nat.mul_comm] at h1
    cases s
    · simp only [Bool.false_and, Bool.toNat_false, Nat.add_zero, Bool.false_eq_true, if_false, Nat.add_mul, Nat.one_mul]
      omega
    · simp only [Bool.true_and, if_true]
      by_cases hr : r = 0
      · rw [show (r != 0) = false by rw [hr]; rfl]
        simp only [Bool.toNat_false, Nat.add_zero]
        omega
      · rw [show (r != 0) = true by simp [hr]]
        simp only [Bool.toNat_true, Nat.add_mul, Nat.one_mul]
        omega
  · rw [Nat.min_eq_right (by omega)]
    by_cases h0 : n = 0
    · subst h0
      cases s <;> simp <;> exact hp
    · have hlt := (Nat.log2_lt (n := n) (k := n.log2 + 2) h0).1 (by omega)
      have hlt2 : n < 2 ^ d := Nat.lt_of_lt_of_le hlt (Nat.pow_le_pow_right (by omega) (by omega))
      rw [Nat.div_eq_of_lt hlt, Nat.mod_eq_of_lt hlt]
      rw [show (n != 0) = true by simp [h0]]
      cases s
      · simp only [Bool.false_and, Bool.toNat_false, Nat.add_zero, Bool.false_eq_true, if_false]
        omega
      · simp only [Bool.true_and, if_true, Bool.toNat_true]
        omega
theorem near_int (s : Bool) {k : Nat} (hk : k < 9007199254740992) : val FloatKind.f64.format (rung .f64 (FloatKind.f64.format.nearest s k 0)) = k * 2 ^ pb := by
  by_cases h0 : k = 0
  · subst h0
    rw [nearest_zero]
    unfold val
    rw [if_pos (by rw [bi64]; omega)]
    omega
  · have hl : k.log2 ≤ 52 := by
      have := (Nat.log2_lt (n := k) (k := 53) h0).2 (by omega)
      omega
    have hl2 := Nat.log2_self_le h0
    have hl3 := (Nat.log2_lt (n := k) (k := k.log2 + 1) h0).1 (by omega)
    rw [nearest_rung s h0, show FloatKind.f64.format.fractionBits = 52 by decide +kernel, least64]
    generalize k.log2 = l at *
    rw [show max ((0 : Int) + (l : Nat) - (52 : Nat)) (-1074) = (l : Int) - 52 by omega]
    rw [show ((0 : Int) - ((l : Int) - 52)).toNat = 52 - l by omega, show ((l : Int) - 52 - 0).toNat = 0 by omega, cut_none, show ((l : Int) - 52 - -1074).toNat = 1022 + l by omega, Nat.shiftLeft_eq]
    obtain ⟨M, hM⟩ : ∃ M, k * 2 ^ (52 - l) = M := ⟨_, rfl⟩
    have e52 : 2 ^ l * 2 ^ (52 - l) = 4503599627370496 := by rw [← Nat.pow_add, show l + (52 - l) = 52 by omega]
    have m1 : 4503599627370496 ≤ M := by rw [← hM, ← e52]; exact Nat.mul_le_mul_right _ hl2
    have m2 : M < 9007199254740992 := by
      rw [← hM, show (9007199254740992 : Nat) = 2 * (2 ^ l * 2 ^ (52 - l)) by rw [e52], ← Nat.mul_assoc, ← Nat.pow_succ']
      exact Nat.mul_lt_mul_of_pos_right hl3 (Nat.two_pow_pos _)
    rw [hM, bi64, in64, Nat.min_eq_left (by omega)]
    unfold val
    rw [bi64, if_neg (by omega), show ((1022 + l) * 4503599627370496 + M) % 4503599627370496 = M - 4503599627370496 by omega, show ((1022 + l) * 4503599627370496 + M) / 4503599627370496 - 1 = 1022 + l by omega, show 4503599627370496 + (M - 4503599627370496) = M by omega, ← hM, Nat.mul_assoc, ← Nat.pow_add]
    congr 2
    unfold pb; omega
theorem int_of_val {y k : Nat} (hf : fin .f64 y = true) (hv : val FloatKind.f64.format (rung .f64 y) = k * 2 ^ pb) (hk : k < 9007199254740992) : floatToIntVal .f64 y .i64 = some (if sgn .f64 y then -(k : Int) else k) := by
  obtain ⟨m, p, h1, h2, h3, h4, h5⟩ := read_fin hf
  rw [← h3, least64] at hv
  rw [least64] at h2
  have hcut : (FloatKind.f64.decode y).toInt .zero = some (Ieee.signed (sgn .f64 y) k 0) := by
    unfold FloatKind.decode
    rw [h1]
    have hc : Ieee.Toward.zero.cut (sgn .f64 y) (m <<< p.toNat) (-p).toNat = k := by
      by_cases hp : 0 ≤ p
      · rw [show (-p).toNat = 0 by omega, cut_none, Nat.shiftLeft_eq]
        have e : (p - -1074).toNat = p.toNat + pb := by unfold pb; omega
        rw [e, Nat.pow_add, ← Nat.mul_assoc] at hv
        exact Nat.mul_right_cancel (Nat.two_pow_pos pb) hv
      · rw [show p.toNat = 0 by omega, Nat.shiftLeft_zero]
        have e : pb = (p - -1074).toNat + (-p).toNat := by unfold pb; omega
        rw [e, Nat.pow_add, Nat.mul_comm (2 ^ (p - -1074).toNat), ← Nat.mul_assoc] at hv
        have hm := Nat.mul_right_cancel (Nat.two_pow_pos (p - -1074).toNat) hv
        unfold Ieee.Toward.cut
        dsimp only
        rw [Nat.one_shiftLeft]
        generalize (-p).toNat = d at *
        simp only [Bool.toNat_false, Nat.add_zero]
        by_cases hd : d ≤ m.log2 + 2
        · rw [Nat.min_eq_left hd, hm, Nat.mul_div_cancel _ (Nat.two_pow_pos _)]
        · rw [Nat.min_eq_right (by omega)]
          by_cases h0 : m = 0
          · subst h0
            rcases Nat.mul_eq_zero.1 hm.symm with h | h
            · rw [h]; simp
            · exact absurd h (Nat.ne_of_gt (Nat.two_pow_pos d))
          · have hlt := (Nat.log2_lt (n := m) (k := m.log2 + 2) h0).1 (by omega)
            have hlt2 : m < 2 ^ d := Nat.lt_of_lt_of_le hlt (Nat.pow_le_pow_right (by omega) (by omega))
            rw [Nat.div_eq_of_lt hlt]
            rcases Nat.eq_zero_or_pos k with h | h
            · exact h.symm
            · have := Nat.mul_le_mul_right (2 ^ d) h
              omega
    show some (Ieee.signed (sgn .f64 y) (Ieee.Toward.zero.cut (sgn .f64 y) (m <<< p.toNat) (-p).toNat) 0) = _
    rw [hc]
  unfold floatToIntVal
  rw [hcut]
  have hs : Ieee.signed (sgn .f64 y) k 0 = if sgn .f64 y then -(k : Int) else k := by
    unfold Ieee.signed
    cases sgn .f64 y <;> simp
  rw [hs]
  have hb : IntKind.i64.min ≤ (if sgn .f64 y then -(k : Int) else k) ∧ (if sgn .f64 y then -(k : Int) else k) ≤ IntKind.i64.max := by
    rw [show IntKind.i64.min = -9223372036854775808 by decide, show IntKind.i64.max = 9223372036854775807 by decide]
    cases sgn .f64 y <;> simp <;> omega
  exact if_pos hb
/-- The floor of a small number is told by its value. -/
theorem floor_sv {x : Nat} (hx : fin .f64 x = true) (hm : rung .f64 x ≤ rung .f64 4841369599423283200) (hf : fin .f64 (ffloor x) = true) : ∃ F : Int, floatToIntVal .f64 (ffloor x) .i64 = some F ∧ F * 2 ^ pb ≤ sv .f64 x ∧ sv .f64 x < (F + 1) * 2 ^ pb := by
  obtain ⟨m, p, h1, h2, h3, h4, h5⟩ := read_fin hx
  have hval := val_le (f := FloatKind.f64.format) hm
  have hkv : val FloatKind.f64.format (rung .f64 4841369599423283200) = 4503599627370496 * 2 ^ pb := by decide +kernel
  rw [hkv] at hval
  have e : ffloor x = FloatKind.f64.format.nearest (sgn .f64 x) (Ieee.Toward.down.cut (sgn .f64 x) (m <<< p.toNat) (-p).toNat) 0 := by
    unfold ffloor; rw [h1]; rfl
  have hc := cut_down_at (sgn .f64 x) (m <<< p.toNat) (-p).toNat
  rw [Nat.shiftLeft_eq] at hc e
  rw [least64] at h2 h3
  have hn : m * 2 ^ p.toNat * 2 ^ pb = val FloatKind.f64.format (rung .f64 x) * 2 ^ (-p).toNat := by
    rw [← h3, Nat.mul_assoc, Nat.mul_assoc, ← Nat.pow_add, ← Nat.pow_add]
    congr 2
    unfold pb; omega
  generalize Ieee.Toward.down.cut (sgn .f64 x) (m * 2 ^ p.toNat) (-p).toNat = k at *
  have hP := Nat.two_pow_pos pb
  have hD := Nat.two_pow_pos (-p).toNat
  generalize m * 2 ^ p.toNat = n at *
  have hsv : sv .f64 x = if sgn .f64 x then -((val FloatKind.f64.format (rung .f64 x) : Nat) : Int) else (val FloatKind.f64.format (rung .f64 x) : Nat) := rfl
  generalize val FloatKind.f64.format (rung .f64 x) = V at *
  generalize hDD : 2 ^ (-p).toNat = D at *
  have hs : sgn .f64 (ffloor x) = sgn .f64 x := by rw [e, nearest_sgn]
  have key : (if sgn .f64 x then V ≤ k * 2 ^ pb ∧ k * 2 ^ pb < V + 2 ^ pb else k * 2 ^ pb ≤ V ∧ V < (k + 1) * 2 ^ pb) := by
    generalize 2 ^ pb = Q at *
    cases hsx : sgn .f64 x
    · rw [hsx] at hc
      simp only [Bool.false_eq_true, if_false] at hc ⊢
      obtain ⟨c1, c2⟩ := hc
      refine ⟨Nat.le_of_mul_le_mul_right (c := D) ?_ hD, Nat.lt_of_mul_lt_mul_right (a := D) ?_⟩
      · rw [← hn, Nat.mul_assoc, Nat.mul_comm Q D, ← Nat.mul_assoc]; exact Nat.mul_le_mul_right _ c1
      · rw [← hn, Nat.mul_assoc, Nat.mul_comm Q D, ← Nat.mul_assoc]; exact Nat.mul_lt_mul_of_pos_right c2 hP
    · rw [hsx] at hc
      simp only [if_true] at hc ⊢
      obtain ⟨c1, c2⟩ := hc
      refine ⟨Nat.le_of_mul_le_mul_right (c := D) ?_ hD, Nat.lt_of_mul_lt_mul_right (a := D) ?_⟩
      · rw [← hn, Nat.mul_assoc, Nat.mul_comm Q D, ← Nat.mul_assoc]; exact Nat.mul_le_mul_right _ c1
      · rw [Nat.add_mul, ← hn, Nat.mul_assoc, Nat.mul_comm Q D, ← Nat.mul_assoc, ← Nat.add_mul]; exact Nat.mul_lt_mul_of_pos_right c2 hP
  have hk : k < 9007199254740992 := by
    have : k * 2 ^ pb < 9007199254740992 * 2 ^ pb := by
      generalize 2 ^ pb = Q at *
      cases hsx : sgn .f64 x <;> rw [hsx] at key <;> simp at key <;> omega
    exact Nat.lt_of_mul_lt_mul_right this
  have hv := near_int (sgn .f64 x) hk
  rw [← e] at hv
  refine ⟨_, int_of_val hf hv hk, ?_⟩
  rw [hs, hsv]
  have hcast : ((2 : Int) ^ pb) = ((2 ^ pb : Nat) : Int) := by simp
  rw [hcast]
  generalize 2 ^ pb = Q at *
  cases hsx : sgn .f64 x <;> rw [hsx] at key <;> simp at key ⊢
  · constructor
    · exact_mod_cast key.1
    · exact_mod_cast key.2
  · have a1 : (V : Int) ≤ (k : Int) * (Q : Int) := by exact_mod_cast key.1
    have a2 : (k : Int) * (Q : Int) < (V : Int) + (Q : Int) := by exact_mod_cast key.2
    rw [Int.neg_mul, Int.add_mul, Int.neg_mul, Int.one_mul]
    omega
/-- A number that is no less than minus K, and a half: no less than minus K and a half. -/
theorem add_half_low {t K L : Nat} (ht : Ab .f64 t K) (hL : fin .f64 L = true) (h : val FloatKind.f64.format (rung .f64 K) = val FloatKind.f64.format (rung .f64 L) + val FloatKind.f64.format (rung .f64 4602678819172646912)) : -((val FloatKind.f64.format (rung .f64 L) : Nat) : Int) ≤ sv .f64 (fop .add .f64 t 4602678819172646912) := by
  have hh : fin .f64 4602678819172646912 = true := by decide +kernel
  have hs : sgn .f64 4602678819172646912 = false := by decide +kernel
  have h1 := ht.val
  rw [← sv_abs .f64 t] at h1
  have e := fop_add_near ht.fin hh
  have hsh := sv_pos hs
  have hz : sgn .f64 (fop .add .f64 t 4602678819172646912) = (if sv .f64 t + sv .f64 4602678819172646912 = 0 then sgn .f64 t && sgn .f64 4602678819172646912 else decide (sv .f64 t + sv .f64 4602678819172646912 < 0)) := by
    rw [e, nearest_sgn]
  by_cases hneg : sv .f64 t + sv .f64 4602678819172646912 < 0
  · have hr : rung .f64 (fop .add .f64 t 4602678819172646912) ≤ rung .f64 L := by
      rw [e]
      refine near_ab _ hL ?_
      omega
    have hv := val_le (f := FloatKind.f64.format) hr
    rw [← sv_abs .f64 (fop .add .f64 t 4602678819172646912)] at hv
    omega
  · have hs0 : sgn .f64 (fop .add .f64 t 4602678819172646912) = false := by
      rw [hz]
      split
      · rw [hs, Bool.and_false]
      · exact decide_eq_false hneg
    rw [sv_pos hs0]
    omega
theorem step_at {c : Nat} {M : Nat} {b K H L : Nat} (hc : Ab .f32 c b) (hb : Ab .f32 b 1056964608) (hK : fin .f64 K = true) (hH : fin .f64 H = true) (hL : fin .f64 L = true)
    (k1 : val FloatKind.f64.format (rung .f64 (fcv .f32 .f64 b)) * val FloatKind.f64.format (rung .f64 4715268809856909312) ≤ val FloatKind.f64.format (rung .f64 K) * 2 ^ (-FloatKind.f64.format.leastPlace).toNat)
    (k2 : val FloatKind.f64.format (rung .f64 K) + val FloatKind.f64.format (rung .f64 4602678819172646912) ≤ val FloatKind.f64.format (rung .f64 H))
    (k3 : val FloatKind.f64.format (rung .f64 K) = val FloatKind.f64.format (rung .f64 L) + val FloatKind.f64.format (rung .f64 4602678819172646912))
    (k4 : val FloatKind.f64.format (rung .f64 H) < (M + 1) * 2 ^ pb) (k5 : val FloatKind.f64.format (rung .f64 L) < M * 2 ^ pb) : -(M : Int) ≤ stepC c ∧ stepC c ≤ M := by
  have hc5 : Ab .f32 c 1056964608 := hc.mono hb.le hb.fit
  obtain ⟨f1, f2, f3⟩ := step_names hc5
  have h1 := wide_ab hc
  have h2 := mul_ab (c := K) h1 (ab_self (c := 4715268809856909312) (by decide +kernel)) hK k1
  have h3 := add_ab (c := H) h2 (ab_self (c := 4602678819172646912) (by decide +kernel)) hH k2
  have low := add_half_low h2 hL k3
  have hab5 := add_ab (c := 4715268809856909312) (mul_ab (c := 4710765210229538816) (wide_ab hc5) (ab_self (c := 4715268809856909312) (by decide +kernel)) (by decide +kernel) (by decide +kernel)) (ab_self (c := 4602678819172646912) (by decide +kernel)) (by decide +kernel) (by decide +kernel)
  have hfl := ffloor_bd (bd_of_ab (E := (24 : Nat)) hab5 (by decide +kernel) (by decide) (by decide)) (by decide)
  have hm : rung .f64 (fop .add .f64 (fop .mul .f64 (fcv .f32 .f64 c) 4715268809856909312) 4602678819172646912) ≤ rung .f64 4841369599423283200 := Nat.le_trans hab5.le (by decide +kernel)
  obtain ⟨F, g1, g2, g3⟩ := floor_sv h3.fin hm hfl.fin
  have hF : stepC c = F := by
    have := f3
    unfold stepW at this
    rw [g1] at this
    exact (Option.some.inj this).symm
  have hv := h3.val
  rw [← sv_abs .f64] at hv
  rw [hF]
  generalize sv .f64 (fop .add .f64 (fop .mul .f64 (fcv .f32 .f64 c) 4715268809856909312) 4602678819172646912) = S at *
  generalize val FloatKind.f64.format (rung .f64 L) = VL at *
  generalize val FloatKind.f64.format (rung .f64 H) = VH at *
  have hP := Nat.two_pow_pos pb
  have hcast : ((2 : Int) ^ pb) = ((2 ^ pb : Nat) : Int) := by simp
  rw [hcast] at g2 g3
  generalize 2 ^ pb = Q at *
  have k4' : (VH : Int) < ((M : Int) + 1) * (Q : Int) := by exact_mod_cast k4
  have k5' : (VL : Int) < (M : Int) * (Q : Int) := by exact_mod_cast k5
  have hQ : (0 : Int) < (Q : Int) := by omega
  constructor
  · have : -(M : Int) * (Q : Int) < (F + 1) * (Q : Int) := by rw [Int.neg_mul]; omega
    have := Int.lt_of_mul_lt_mul_right this (by omega)
    omega
  · have : F * (Q : Int) < ((M : Int) + 1) * (Q : Int) := by omega
    have := Int.lt_of_mul_lt_mul_right this (by omega)
    omega
theorem step_north {c : Nat} (hc : Ab .f32 c 1048576000) : -4194304 ≤ stepC c ∧ stepC c ≤ 4194304 :=
  step_at (M := 4194304) (K := 0x4150000000000000) (H := 0x4150000020000000) (L := 0x414fffffc0000000) hc ⟨by decide +kernel, by decide +kernel⟩ (by decide +kernel) (by decide +kernel) (by decide +kernel) (by decide +kernel) (by decide +kernel) (by decide +kernel) (by decide +kernel) (by decide +kernel)
theorem step_east {c : Nat} (hc : Ab .f32 c 1056964608) : -8388608 ≤ stepC c ∧ stepC c ≤ 8388608 :=
  step_at (M := 8388608) (K := 0x4160000000000000) (H := 0x4160000010000000) (L := 0x415fffffe0000000) hc ⟨by decide +kernel, by decide +kernel⟩ (by decide +kernel) (by decide +kernel) (by decide +kernel) (by decide +kernel) (by decide +kernel) (by decide +kernel) (by decide +kernel) (by decide +kernel)
theorem east_in {c : Nat} (hc : Ab .f32 c 1056964608) : -8388608 ≤ eastStep c ∧ eastStep c ≤ 8388607 := by
  have := step_east hc
  unfold eastStep
  split <;> omega
end Go.Proofs.Ytgbcgckkjhgchab
