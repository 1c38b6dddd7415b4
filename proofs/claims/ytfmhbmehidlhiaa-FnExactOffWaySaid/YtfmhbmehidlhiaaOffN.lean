/-
  A part of a way is at most twice its length, and so a side divided by the length of the line is not great. No walk. No premise beyond those named.
-/
import Derived.Test.YtfmhbmehidlhiaaShr
import Derived.Test.YtfmhbmehidlhiaaSid
namespace Go.Proofs.Ytfmhbmehidlhiaa
open Go Go.RowKit
set_option maxRecDepth 100000

/-- 2 to the power of k least places, as a word -/
def pw2 (k : Nat) : Nat := if k < 24 then 2 ^ k else (k - 22) * 8388608
theorem pw2_ok : ∀ k : Fin 277, val FloatKind.f32.format (rung .f32 (pw2 k.val)) = 2 ^ k.val ∧ fin .f32 (pw2 k.val) = true := by decide +kernel
theorem pw2_val {k : Nat} (h : k < 277) : val FloatKind.f32.format (rung .f32 (pw2 k)) = 2 ^ k := (pw2_ok ⟨k, h⟩).1
theorem pw2_fin {k : Nat} (h : k < 277) : fin .f32 (pw2 k) = true := (pw2_ok ⟨k, h⟩).2
theorem lp32 : (-FloatKind.f32.format.leastPlace).toNat = 149 := by decide
theorem lb_of_val {k : FloatKind} {y : Nat} {b : Int} (hf : fin k y = true) (hlo : 1 ≤ b + bias k) (h : 2 ^ (b - k.format.leastPlace).toNat ≤ val k.format (rung k y)) : Lb k y b := by
  refine ⟨hf, hlo, ?_⟩
  apply Nat.le_of_not_lt
  intro hlt
  have hb := binade_pos k
  have hlb := least_bias k
  have hval : val k.format ((b + bias k).toNat * k.format.binade) = k.format.binade * 2 ^ ((b + bias k).toNat - 1) := by
    have := val_rung k.format ((b + bias k).toNat - 1) k.format.binade (.inr (Nat.le_refl _)) (by omega)
    rw [show (b + bias k).toNat * k.format.binade = ((b + bias k).toNat - 1) * k.format.binade + k.format.binade by rw [← Nat.succ_mul]; congr 1; omega]
    exact this
  have hm := val_mono k.format hlt
  rw [hval, show k.format.binade = 2 ^ k.format.fractionBits from rfl, ← Nat.pow_add, show k.format.fractionBits + ((b + bias k).toNat - 1) = (b - k.format.leastPlace).toNat by omega] at hm
  omega
/-- a root, from below -/
theorem root_pow {c k : Nat} (hf : fin .f32 c = true) (hs : sgn .f32 c = false) (hk : k < 277) (h : 2 ^ (2 * k) ≤ val FloatKind.f32.format (rung .f32 c) * 2 ^ 149) : 2 ^ k ≤ val FloatKind.f32.format (rung .f32 (rootC c)) := by
  obtain ⟨a1, a2, a3⟩ := wide_fin hf
  obtain ⟨p1, p2, p3⟩ := wide_fin (pw2_fin hk)
  rw [pw2_val hk] at p3
  have hb0 : Ab .f32 c 2139095039 := by
    refine ⟨?_, by decide +kernel⟩
    unfold fin at hf; rw [decide_eq_true_eq, in32] at hf
    have : rung .f32 2139095039 = 2139095039 := by decide +kernel
    omega
  have hb : Bd .f64 (fcv .f32 .f64 c) 128 := bd_of_ab (wide_ab hb0) (by decide +kernel) (by decide) (by decide)
  obtain ⟨r1, r2⟩ := fsqrt_bd hb (by rw [a2, hs]) (by decide)
  have hwd : wd = 925 := rfl
  obtain ⟨e7, he7⟩ : ∃ e : Nat, e = 776 := ⟨_, rfl⟩
  have hl : Lb .f64 (fcv .f32 .f64 c) (-(2 * (149 - (k : Int)))) := by
    refine lb_of_val a1 (by show (1 : Int) ≤ -(2 * (149 - (k : Int))) + 1023; omega) ?_
    rw [a3, least64, hwd]
    have h2 : 2 ^ (2 * k) * 2 ^ e7 ≤ val FloatKind.f32.format (rung .f32 c) * 2 ^ 149 * 2 ^ e7 := Nat.mul_le_mul_right _ h
    rw [Nat.mul_assoc, ← Nat.pow_add, ← Nat.pow_add] at h2
    rw [show (-(2 * (149 - (k : Int))) - -1074).toNat = 2 * k + e7 by omega, show 925 = 149 + e7 by omega]
    exact h2
  have hr := fsqrt_lb (b := fcv .f32 .f64 (pw2 k)) (t := 149 - (k : Int)) (by rw [a2, hs]) hl p1 (by omega) (by rw [p3, ← Nat.pow_add]; congr 1; rw [hwd]; omega)
  have hv := val_le (f := FloatKind.f64.format) hr
  rw [p3] at hv
  have hword : rung .f32 (pw2 k) ≤ rung .f32 (rootC c) := by
    unfold rootC
    rw [fcv_near r1.fin]
    refine word_le_nearest _ (-1074) (pw2_fin hk) (by decide) (by decide) ?_
    rw [pw2_val hk, show ((-1074 : Int) - -1074).toNat = 0 by decide, Nat.pow_zero, Nat.mul_one, show (FloatKind.f32.format.leastPlace - -1074).toNat = wd by decide]
    exact hv
  have := val_le (f := FloatKind.f32.format) hword
  rw [pw2_val hk] at this
  exact this
/-- a sum of what has no sign is not less than its parts -/
theorem sum_ge {x y b : Nat} (hx : fin .f32 x = true) (hy : fin .f32 y = true) (sx : sgn .f32 x = false) (sy : sgn .f32 y = false) (hb : fin .f32 b = true) (h : rung .f32 b ≤ rung .f32 x ∨ rung .f32 b ≤ rung .f32 y) : rung .f32 b ≤ rung .f32 (fop .add .f32 x y) := by
  rw [fop_add_near hx hy]
  have vx := sv_pos sx
  have vy := sv_pos sy
  refine near_lb _ hb ?_
  rcases h with h | h
  · have := val_le (f := FloatKind.f32.format) h; omega
  · have := val_le (f := FloatKind.f32.format) h; omega
theorem sq_ge {x k : Nat} (hx : fin .f32 x = true) (hk : 149 ≤ 2 * k) (hk2 : 2 * k - 149 < 277) (h : 2 ^ k ≤ val FloatKind.f32.format (rung .f32 x)) : rung .f32 (pw2 (2 * k - 149)) ≤ rung .f32 (fop .mul .f32 x x) := by
  rw [fop_mul_near hx hx]
  have hl := least_neg .f32
  refine word_le_nearest _ (FloatKind.f32.format.leastPlace + FloatKind.f32.format.leastPlace) (pw2_fin hk2) (Int.le_refl _) (by omega) ?_
  rw [pw2_val hk2, show (FloatKind.f32.format.leastPlace + FloatKind.f32.format.leastPlace - (FloatKind.f32.format.leastPlace + FloatKind.f32.format.leastPlace)).toNat = 0 by omega, Nat.pow_zero, Nat.mul_one, show (FloatKind.f32.format.leastPlace - (FloatKind.f32.format.leastPlace + FloatKind.f32.format.leastPlace)).toNat = 149 by decide, ← Nat.pow_add, show 2 * k - 149 + 149 = k + k by omega, Nat.pow_add]
  exact Nat.mul_le_mul h h
/-- the numbers of a line whose length is greater than 0: j tells its size -/
structure Lin (x y z : Nat) (j : Nat) : Prop where
  lo : 2 ^ j ≤ val FloatKind.f32.format (rung .f32 (longC x y z))
  jl : 74 ≤ j
  jh : j ≤ 160
  ax : Ab .f32 x (pw2 (j + 2))
  ay : Ab .f32 y (pw2 (j + 2))
  az : Ab .f32 z (pw2 (j + 2))
theorem lin_of {x y z : Nat} (h : Wb x y z 1107296256) (hp : fcmp .gtr .f32 (longC x y z) 0 = true) : ∃ j, Lin x y z j := by
  have hd : Ab .f32 (dotC x y z x y z) 1166016512 := h.dot (m := 1149239296) (s := 1157627904) (t := 1166016512) h (by decide +kernel) (by decide +kernel) (by decide +kernel) (by decide +kernel) (by decide +kernel) (by decide +kernel)
  obtain ⟨lf, _, _⟩ := h.long hd.fin
  rw [(fcmp_fin lf (fin_zero _)).2.2.1, sv_zero, decide_eq_true_eq] at hp
  have ls := sgn_of_pos hp
  rw [sv_pos ls] at hp
  have sx := sq_sgn h.ax.fin
  have sy := sq_sgn h.ay.fin
  have sz := sq_sgn h.az.fin
  obtain ⟨d1, d2⟩ := add_fin (k := .f32) hd.fin
  obtain ⟨d3, d4⟩ := add_fin (k := .f32) d1
  have s1 := sum_sgn d3 d4 sx sy
  have ds : sgn .f32 (dotC x y z x y z) = false := sum_sgn d1 d2 s1 sz
  -- the root's size
  have up : Ab .f32 (longC x y z) 1140850688 := by
    obtain ⟨a1, a2, a3⟩ := wide_fin hd.fin
    have hb : Bd .f64 (fcv .f32 .f64 (dotC x y z x y z)) 13 := bd_of_ab (wide_ab hd) (by decide +kernel) (by decide) (by decide)
    obtain ⟨r1, r2⟩ := fsqrt_bd hb (by rw [a2, ds]) (by decide)
    have hab : Ab .f64 (fsqrt (fcv .f32 .f64 (dotC x y z x y z))) 4643211215818981376 := ab_of_bd r1 (by decide +kernel) (by decide +kernel)
    exact (narrow_ab (c := 1140850688) hab.fin (by decide +kernel) (Nat.le_trans hab.le (by decide +kernel))).1
  have hV : 0 < val FloatKind.f32.format (rung .f32 (longC x y z)) := by omega
  generalize hVV : val FloatKind.f32.format (rung .f32 (longC x y z)) = V at *
  have l1 := Nat.log2_self_le (n := V) (by omega)
  have l2 := Nat.lt_log2_self (n := V)
  have hup := up.val
  rw [hVV, show val FloatKind.f32.format (rung .f32 1140850688) = 2 ^ 158 by decide +kernel] at hup
  have jh : V.log2 ≤ 158 := (Nat.pow_le_pow_iff_right (by omega : 1 < 2)).1 (Nat.le_trans l1 hup)
  -- the power is not 0
  have hd0 : 0 < val FloatKind.f32.format (rung .f32 (dotC x y z x y z)) := by
    apply Nat.pos_of_ne_zero
    intro h0
    obtain ⟨a1, a2, a3⟩ := wide_fin hd.fin
    rw [h0, Nat.zero_mul] at a3
    obtain ⟨m, i, b1, b2, b3, _, _⟩ := read_fin a1
    rw [a3] at b3
    have hm : m = 0 := by
      rcases Nat.mul_eq_zero.1 b3 with h | h
      · exact h
      · have := Nat.two_pow_pos (i - FloatKind.f64.format.leastPlace).toNat; omega
    have e : fsqrt (fcv .f32 .f64 (dotC x y z x y z)) = FloatKind.f64.format.nearest false 0 i := by
      unfold fsqrt Ieee.Format.sqrt
      rw [b1, a2, ds, hm]; rfl
    have hrr : rung .f64 (fsqrt (fcv .f32 .f64 (dotC x y z x y z))) = 0 := by rw [e, nearest_zero]
    have hb : Bd .f64 (fcv .f32 .f64 (dotC x y z x y z)) 13 := bd_of_ab (wide_ab hd) (by decide +kernel) (by decide) (by decide)
    obtain ⟨r1, _⟩ := fsqrt_bd hb (by rw [a2, ds]) (by decide)
    have hL0 : rung .f32 (longC x y z) = 0 := by
      unfold longC rootC
      rw [fcv_near r1.fin, hrr, val_zero, nearest_zero]
    rw [hL0, val_zero] at hVV
    omega
  have jl : 74 ≤ V.log2 := by
    have := root_pow (k := 74) hd.fin ds (by decide) (by
      refine Nat.le_trans (m := 1 * 2 ^ 149) (by decide) (Nat.mul_le_mul_right _ hd0))
    change 2 ^ 74 ≤ val FloatKind.f32.format (rung .f32 (longC x y z)) at this
    rw [hVV] at this
    have h3 : 2 ^ 74 < 2 ^ (V.log2 + 1) := Nat.lt_of_le_of_lt this l2
    have := (Nat.pow_lt_pow_iff_right (by omega : 1 < 2)).1 h3
    omega
  have key : ∀ c, fin .f32 c = true → rung .f32 (fop .mul .f32 c c) ≤ rung .f32 (dotC x y z x y z) → Ab .f32 c (pw2 (V.log2 + 2)) := by
    intro c fc hc
    refine ⟨?_, pw2_fin (by omega)⟩
    refine le_of_val ?_
    rw [pw2_val (by omega)]
    apply Nat.le_of_not_lt
    intro hlt
    have q1 := sq_ge (k := V.log2 + 2) fc (by omega) (by omega) (Nat.le_of_lt hlt)
    have q2 := val_le (f := FloatKind.f32.format) (Nat.le_trans q1 hc)
    rw [pw2_val (by omega)] at q2
    have q3 := root_pow (k := V.log2 + 2) hd.fin ds (by omega) (by
      have := Nat.mul_le_mul_right (2 ^ 149) q2
      rw [← Nat.pow_add, show 2 * (V.log2 + 2) - 149 + 149 = 2 * (V.log2 + 2) by omega] at this
      exact this)
    change 2 ^ (V.log2 + 2) ≤ val FloatKind.f32.format (rung .f32 (longC x y z)) at q3
    rw [hVV] at q3
    have := Nat.pow_lt_pow_right (a := 2) (by omega) (show V.log2 + 1 < V.log2 + 2 by omega)
    omega
  refine ⟨V.log2, ⟨by rw [hVV]; exact l1, jl, by omega, key x h.ax.fin ?_, key y h.ay.fin ?_, key z h.az.fin ?_⟩⟩
  · exact sum_ge d1 d2 s1 sz d3 (.inl (sum_ge d3 d4 sx sy d3 (.inl (Nat.le_refl _))))
  · exact sum_ge d1 d2 s1 sz d4 (.inl (sum_ge d3 d4 sx sy d4 (.inr (Nat.le_refl _))))
  · exact sum_ge d1 d2 s1 sz d2 (.inr (Nat.le_refl _))
/-- a side, divided by the length of its line, is at most 64 -/
theorem off_ab {x y z p q r : Nat} (h : Wb x y z 1107296256) (g : Wb p q r 1082130432) (hp : fcmp .gtr .f32 (longC x y z) 0 = true) (lf : fin .f32 (longC x y z) = true) : Ab .f32 (fop .quo .f32 (dotC x y z p q r) (longC x y z)) 1115684864 := by
  obtain ⟨j, L⟩ := lin_of h hp
  have jl := L.jl
  have jh := L.jh
  have k4 : val FloatKind.f32.format (rung .f32 1082130432) = 2 ^ 151 := by decide +kernel
  have mk : ∀ a b, Ab .f32 a (pw2 (j + 2)) → Ab .f32 b 1082130432 → Ab .f32 (fop .mul .f32 a b) (pw2 (j + 4)) := fun a b ha hb =>
    mul_ab ha hb (pw2_fin (by omega)) (by rw [pw2_val (by omega), pw2_val (by omega), k4, lp32, ← Nat.pow_add, ← Nat.pow_add]; exact Nat.pow_le_pow_right (by omega) (by omega))
  have m1 := mk x p L.ax g.ax
  have m2 := mk y q L.ay g.ay
  have m3 := mk z r L.az g.az
  have a1 : Ab .f32 (fop .add .f32 (fop .mul .f32 x p) (fop .mul .f32 y q)) (pw2 (j + 5)) := add_ab m1 m2 (pw2_fin (by omega)) (by rw [pw2_val (by omega), pw2_val (by omega), Nat.pow_succ 2 (j + 4)]; omega)
  have a2 : Ab .f32 (dotC x y z p q r) (pw2 (j + 6)) := add_ab a1 m3 (pw2_fin (by omega)) (by rw [pw2_val (by omega), pw2_val (by omega), pw2_val (by omega), Nat.pow_succ 2 (j + 5), Nat.pow_succ 2 (j + 4)]; omega)
  refine (quo_ab (d := longC x y z) a2 lf (Nat.le_refl _) (Nat.lt_of_lt_of_le (Nat.two_pow_pos _) L.lo) (by decide +kernel) ?_).1
  rw [pw2_val (by omega), lp32, show val FloatKind.f32.format (rung .f32 1115684864) = 2 ^ 155 by decide +kernel]
  refine Nat.le_trans (m := 2 ^ 155 * 2 ^ j) ?_ (Nat.mul_le_mul_left _ L.lo)
  rw [← Nat.pow_add, ← Nat.pow_add]
  exact Nat.pow_le_pow_right (by omega) (by omega)
end Go.Proofs.Ytfmhbmehidlhiaa
