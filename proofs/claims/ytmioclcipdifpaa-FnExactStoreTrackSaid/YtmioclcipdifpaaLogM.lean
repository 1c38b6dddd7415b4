/-
  The logarithm in 64 bits of a positive float32, and the tenths of decibels, as Lean functions; that they are small enough. No walk. No premise.
-/
import Derived.Test.YtmioclcipdifpaaRnd
import Derived.Test.YtmioclcipdifpaaAngM
namespace Go.Proofs.Ytmioclcipdifpaa
open Go Go.RowKit

/-! ## Positive words -/
theorem pos_word {x : Nat} (h : x < 9218868437227405312) : fin .f64 x = true ∧ sgn .f64 x = false ∧ rung .f64 x = x := by
  have hr : rung .f64 x = x := by unfold rung; rw [sw64, Nat.mod_eq_of_lt (by omega)]
  refine ⟨?_, ?_, hr⟩
  · unfold fin; rw [hr, in64, decide_eq_true h]
  · unfold sgn; rw [sw64, Nat.div_eq_of_lt (by omega)]; rfl
theorem fcmp_pos {x y : Nat} (hx : x < 9218868437227405312) (hy : y < 9218868437227405312) : fcmp .geq .f64 x y = decide (y ≤ x) ∧ fcmp .lss .f64 x y = decide (x < y) := by
  obtain ⟨a1, a2, a3⟩ := pos_word hx
  obtain ⟨b1, b2, b3⟩ := pos_word hy
  obtain ⟨c1, _, _, c4, _, _⟩ := fcmp_fin a1 b1
  rw [c4, c1, sv_pos a2, sv_pos b2, a3, b3]
  have h1 := val_lt_iff FloatKind.f64.format x y
  have h2 := val_lt_iff FloatKind.f64.format y x
  constructor
  · rw [Bool.eq_iff_iff, decide_eq_true_eq, decide_eq_true_eq]; omega
  · rw [Bool.eq_iff_iff, decide_eq_true_eq, decide_eq_true_eq]; omega

/-! ## The function -/
/-- How often the number is halved (doubled, where it is negative) till it lies from 0.75 to 1.5. -/
def logE (x : Nat) : Int := ((x : Int) - 4604930618986332160) / 4503599627370496
def logX (x : Nat) : Nat := ((x : Int) - logE x * 4503599627370496).toNat
def logP (u : Nat) : Nat → Nat
  | 0 => 0
  | m + 1 => fop .add .f64 (fop .quo .f64 4607182418800017408 (floatOfInt .f64 (25 - 2 * (m : Int)))) (fop .mul .f64 u (logP u m))
def logS (x : Nat) : Nat := fop .quo .f64 (fop .sub .f64 x 4607182418800017408) (fop .add .f64 x 4607182418800017408)
def logV (x : Nat) (e : Int) : Nat := fop .add .f64 (fop .mul .f64 4611686018427387904 (fop .mul .f64 (logS x) (logP (fop .mul .f64 (logS x) (logS x)) 13))) (fop .mul .f64 (floatOfInt .f64 e) 4604418534313441775)
/-- The logarithm of a positive number. -/
def logW (x : Nat) : Nat := logV (logX x) (logE x)
theorem log_unique {x y : Nat} {e : Int} (h : (y : Int) = x - e * 4503599627370496) (h1 : 4604930618986332160 ≤ y) (h2 : y < 4609434218613702656) : logE x = e ∧ logX x = y := by
  have he : logE x = e := by unfold logE; omega
  refine ⟨he, ?_⟩
  unfold logX; rw [he, ← h, Int.toNat_natCast]
theorem logP_succ (u m : Nat) : logP u (m + 1) = fop .add .f64 (fop .quo .f64 4607182418800017408 (floatOfInt .f64 (25 - 2 * (m : Int)))) (fop .mul .f64 u (logP u m)) := rfl
theorem logV_eq (x : Nat) (e : Int) : logV x e = fop .add .f64 (fop .mul .f64 4611686018427387904 (fop .mul .f64 (logS x) (logP (fop .mul .f64 (logS x) (logS x)) 13))) (fop .mul .f64 (floatOfInt .f64 e) 4604418534313441775) := rfl
theorem logS_eq (x : Nat) : logS x = fop .quo .f64 (fop .sub .f64 x 4607182418800017408) (fop .add .f64 x 4607182418800017408) := rfl

/-! ## The counters of the program's own loops -/
theorem ec_add {e : Int} (h1 : -200 ≤ e) (h2 : e ≤ 200) : fop .add .f64 (floatOfInt .f64 e) 4607182418800017408 = floatOfInt .f64 (e + 1) := by
  have : ∀ m : Nat, m < 401 → fop .add .f64 (floatOfInt .f64 ((m : Int) - 200)) 4607182418800017408 = floatOfInt .f64 ((m : Int) - 200 + 1) := by decide +kernel
  have h := this (e + 200).toNat (by omega)
  rwa [show (((e + 200).toNat : Nat) : Int) - 200 = e by omega] at h
theorem ec_sub {e : Int} (h1 : -200 ≤ e) (h2 : e ≤ 200) : fop .sub .f64 (floatOfInt .f64 e) 4607182418800017408 = floatOfInt .f64 (e - 1) := by
  have : ∀ m : Nat, m < 401 → fop .sub .f64 (floatOfInt .f64 ((m : Int) - 200)) 4607182418800017408 = floatOfInt .f64 ((m : Int) - 200 - 1) := by decide +kernel
  have h := this (e + 200).toNat (by omega)
  rwa [show (((e + 200).toNat : Nat) : Int) - 200 = e by omega] at h
theorem odd25 {m : Nat} (hm : m < 13) : fcmp .geq .f64 (floatOfInt .f64 (25 - 2 * (m : Int))) 4607182418800017408 = true ∧ fop .sub .f64 (floatOfInt .f64 (25 - 2 * (m : Int))) 4611686018427387904 = floatOfInt .f64 (25 - 2 * ((m + 1 : Nat) : Int)) := by
  have : ∀ m, m < 13 → fcmp .geq .f64 (floatOfInt .f64 (25 - 2 * ((m : Nat) : Int))) 4607182418800017408 = true ∧ fop .sub .f64 (floatOfInt .f64 (25 - 2 * ((m : Nat) : Int))) 4611686018427387904 = floatOfInt .f64 (25 - 2 * ((m + 1 : Nat) : Int)) := by decide +kernel
  exact this m hm
theorem odd25_end : fcmp .geq .f64 (floatOfInt .f64 (25 - 2 * ((13 : Nat) : Int))) 4607182418800017408 = false := by decide +kernel
theorem twentyfive : Fl .f64 (floatOfInt .f64 (25 - 2 * ((0 : Nat) : Int))) 4627730092099895296 := by
  have e : floatOfInt .f64 (25 - 2 * ((0 : Nat) : Int)) = 4627730092099895296 := by decide +kernel
  rw [e]; exact Fl.not (by decide +kernel) (by decide +kernel)
theorem odd25_mu {m a b : Nat} (hm : m < 13) (ha : Fl .f64 (floatOfInt .f64 (25 - 2 * ((m + 1 : Nat) : Int))) a) (hb : Fl .f64 (floatOfInt .f64 (25 - 2 * (m : Int))) b) : oddMu (.float .f64 a) < oddMu (.float .f64 b) := by
  have : ∀ m, m < 13 → oddMu (.float .f64 (floatOfInt .f64 (25 - 2 * ((m + 1 : Nat) : Int)))) < oddMu (.float .f64 (floatOfInt .f64 (25 - 2 * ((m : Nat) : Int)))) := by decide +kernel
  rw [ha.word (nearest_notN _ _), hb.word (nearest_notN _ _)]
  exact this m hm

/-! ## Bounds -/
theorem sum_comm (d e : Ieee.Datum) : d.sum e = e.sum d := by
  cases d <;> cases e <;> first | rfl | skip
  · rename_i s m i t n j
    unfold Ieee.Datum.sum
    dsimp only
    rw [Int.min_comm i j, Int.add_comm, Bool.and_comm]
  · rename_i s t
    unfold Ieee.Datum.sum
    cases s <;> cases t <;> rfl
theorem fop_add_comm (k : FloatKind) (x y : Nat) : fop .add k x y = fop .add k y x := by
  unfold fop floatBits Ieee.Format.add
  dsimp only
  rw [sum_comm]
/-- A difference of what has no signs is not greater than both. -/
theorem fop_sub_pos {k : FloatKind} {x y : Nat} {E : Int} (hx : Bd k x E) (hy : Bd k y E) (sx : sgn k x = false) (sy : sgn k y = false) : Bd k (fop .sub k x y) E := by
  obtain ⟨m, p, h1, _, h3⟩ := hx.read
  obtain ⟨n, q, g1, _, g3⟩ := hy.read
  have h := fop_dif_some h1 g1
  unfold Ieee.Datum.sum at h
  dsimp only [Option.map_some] at h
  rw [← Option.some.inj h, sx, sy]
  refine nearest_bd _ _ _ hx.low hx.fit ?_
  generalize hbase : min p q = base
  have hb1 : base ≤ p := by omega
  have hb2 : base ≤ q := by omega
  have hb3 : base = p ∨ base = q := by omega
  by_cases hbe : base ≤ E
  · right
    refine ⟨hbe, ?_⟩
    have key : ∀ {m : Nat} {p : Int}, base ≤ p → (m = 0 ∨ (p ≤ E ∧ m ≤ 2 ^ (E - p).toNat)) → m * 2 ^ (p - base).toNat ≤ 2 ^ (E - base).toNat := by
      intro m p hp h
      rcases h with h | ⟨h1, h2⟩
      · rw [h, Nat.zero_mul]; exact Nat.zero_le _
      · have := Nat.mul_le_mul_right (2 ^ (p - base).toNat) h2
        rw [← Nat.pow_add] at this
        rw [show (E - base).toNat = (E - p).toNat + (p - base).toNat by omega]; exact this
    have k1 := key hb1 h3
    have k2 := key hb2 g3
    unfold Ieee.signed
    rw [Nat.shiftLeft_eq, Nat.shiftLeft_eq]
    simp only [Bool.false_eq_true, if_false, Bool.not_false, if_true]
    omega
  · left
    have hm0 : m = 0 := h3.elim id fun h => by omega
    have hn0 : n = 0 := g3.elim id fun h => by omega
    subst hm0; subst hn0
    unfold Ieee.signed; simp
theorem pos_bd {x : Nat} {E : Int} (h : x ≤ (E + 1023).toNat * 4503599627370496) (h0 : 1 ≤ E + 1023) (h1 : E + 1023 ≤ 2046) : Bd .f64 x E := by
  have hx : x < 9218868437227405312 := by omega
  refine ⟨?_, h0, h1⟩
  rw [(pos_word hx).2.2, bi64]
  exact h
theorem odd25_lb {m : Nat} (hm : m < 13) : Lb .f64 (floatOfInt .f64 (25 - 2 * (m : Int))) 0 := by
  have a : ∀ m, m < 13 → fin .f64 (floatOfInt .f64 (25 - 2 * ((m : Nat) : Int))) = true := by decide +kernel
  have b : ∀ m, m < 13 → ((0 : Int) + bias .f64).toNat * FloatKind.f64.format.binade ≤ rung .f64 (floatOfInt .f64 (25 - 2 * ((m : Nat) : Int))) := by decide +kernel
  exact ⟨a m hm, by decide, b m hm⟩
theorem logP_bd {u : Nat} (hu : Bd .f64 u 2) (m : Nat) (hm : m ≤ 13) : Bd .f64 (logP u m) (3 * m) := by
  induction m with
  | zero => exact (⟨by decide +kernel, by decide, by decide⟩ : Bd .f64 0 0)
  | succ m ih =>
    have ih := ih (by omega)
    have h1 := fop_mul_bd hu ih (by show (1 : Int) ≤ _ + 1023; omega) (by show _ + (1023 : Int) ≤ 2046; omega)
    have h2 := fop_quo_bd one_bd (odd25_lb (m := m) (by omega)) (by decide) (by decide)
    have h3 := fop_add_bd (h2.mono (F := 2 + 3 * (m : Int)) (by omega) (by show _ + (1023 : Int) ≤ 2046; omega)) h1 (by show _ + (1023 : Int) ≤ 2046; omega)
    rw [show (3 * ((m + 1 : Nat) : Int)) = 2 + 3 * (m : Int) + 1 by omega]
    exact h3
theorem logS_bd {x : Nat} (h1 : 4604930618986332160 ≤ x) (h2 : x < 4609434218613702656) : Bd .f64 (logS x) 1 := by
  have hx : Bd .f64 x 1 := pos_bd (by show x ≤ 1024 * 4503599627370496; omega) (by decide) (by decide)
  have hs := (pos_word (by omega : x < 9218868437227405312)).2.1
  have hd := fop_sub_pos hx (one_bd.mono (F := 1) (by decide) (by decide)) hs one_sgn
  obtain ⟨_, hl, _⟩ := fop_one_add one_bd one_lb one_sgn hx hs (by decide) (by decide)
  rw [← fop_add_comm] at hl
  exact fop_quo_bd hd hl (by decide) (by decide)
theorem int_bd {e : Int} (h1 : -200 ≤ e) (h2 : e ≤ 200) : Bd .f64 (floatOfInt .f64 e) 8 := by
  have : ∀ m : Nat, m < 401 → rung .f64 (floatOfInt .f64 ((m : Int) - 200)) ≤ ((8 : Int) + bias .f64).toNat * FloatKind.f64.format.binade := by decide +kernel
  have h := this (e + 200).toNat (by omega)
  rw [show (((e + 200).toNat : Nat) : Int) - 200 = e by omega] at h
  exact ⟨h, by decide, by decide⟩
theorem logV_bd {x : Nat} {e : Int} (h1 : 4604930618986332160 ≤ x) (h2 : x < 4609434218613702656) (h3 : -200 ≤ e) (h4 : e ≤ 200) : Bd .f64 (logV x e) 43 := by
  have hs := logS_bd h1 h2
  have hq := logP_bd (fop_mul_bd hs hs (by decide) (by decide)) 13 (by omega)
  have ht : Bd .f64 4611686018427387904 1 := ⟨by decide +kernel, by decide, by decide⟩
  have hln : Bd .f64 4604418534313441775 0 := ⟨by decide +kernel, by decide, by decide⟩
  have ha := fop_mul_bd ht (fop_mul_bd hs hq (by decide) (by decide)) (by decide) (by decide)
  have hb := fop_mul_bd (int_bd h3 h4) hln (by decide) (by decide)
  exact (fop_add_bd (ha.mono (F := 42) (by decide) (by decide)) (hb.mono (F := 42) (by decide) (by decide)) (by decide)).mono (by decide) (by decide)
/-- A positive finite float32, widened, lies between its bounds. -/
theorem wide_range {c : Nat} (h1 : 0 < c) (h2 : c < 2139095040) : 3936146074321813504 ≤ fcv .f32 .f64 c ∧ fcv .f32 .f64 c < 5183643171103440896 := by
  have hw : (Lit.float .f32 c).wf = true := wf_of_lt .f32 c (by show c < 2 ^ 32; omega)
  have hr : rung .f32 c = c := by unfold rung; rw [sw32, Nat.mod_eq_of_lt (by omega)]
  have hs : sgn .f32 c = false := by unfold sgn; rw [sw32, Nat.div_eq_of_lt (by omega)]; rfl
  have hf : fin .f32 c = true := by unfold fin; rw [hr, in32, decide_eq_true h2]
  obtain ⟨a1, a2, a3⟩ := wide_fin hf
  have hlt := wf_fcv (s := .f32) (d := .f64) c
  have hl64 : fcv .f32 .f64 c < 18446744073709551616 := by simpa [Lit.wf] using hlt
  have hdiv := sgn_div64 hl64
  rw [a2, hs] at hdiv
  have hrr : rung .f64 (fcv .f32 .f64 c) = fcv .f32 .f64 c := by
    unfold rung; rw [sw64]
    have : fcv .f32 .f64 c / 9223372036854775808 = 0 := hdiv
    omega
  rw [hr, hrr] at a3
  have v1 : val FloatKind.f64.format 3936146074321813504 = val FloatKind.f32.format 1 * 2 ^ wd := by decide +kernel
  have v2 : val FloatKind.f64.format 5183643171103440896 = val FloatKind.f32.format 2139095040 * 2 ^ wd := by decide +kernel
  have hp := Nat.two_pow_pos wd
  constructor
  · have h : val FloatKind.f64.format 3936146074321813504 ≤ val FloatKind.f64.format (fcv .f32 .f64 c) := by
      rw [v1, a3]
      refine Nat.mul_le_mul_right _ ?_
      rcases Nat.lt_or_eq_of_le (show 1 ≤ c by omega) with hl | hl
      · exact Nat.le_of_lt (val_mono _ hl)
      · rw [hl]; exact Nat.le_refl _
    exact Nat.le_of_not_lt fun hl => Nat.not_le_of_lt (val_mono _ hl) h
  · refine (val_lt_iff FloatKind.f64.format _ _).1 ?_
    rw [v2, a3]
    exact Nat.mul_lt_mul_of_pos_right (val_mono _ h2) hp
/-- The canonical words of positive finite float32s. -/
theorem pos32 {c : Nat} (hc : c < 4294967296) (hf : fin .f32 c = true) (h : fcmp .gtr .f32 c 0 = true) : 0 < c ∧ c < 2139095040 := by
  have h0 : fin .f32 0 = true := by decide +kernel
  have hs0 : sv .f32 0 = 0 := by decide +kernel
  rw [(fcmp_fin hf h0).2.2.1, hs0, decide_eq_true_eq] at h
  unfold sv at h
  have hfr := hf
  unfold fin rung at hfr
  rw [sw32, in32, decide_eq_true_eq] at hfr
  cases hs : sgn .f32 c
  · have hd := sgn_div32 hc
    rw [hs] at hd
    have hd' : c / 2147483648 = 0 := hd
    refine ⟨?_, by omega⟩
    apply Nat.pos_of_ne_zero
    intro e
    rw [e] at h
    have : val FloatKind.f32.format (rung .f32 0) = 0 := by decide +kernel
    rw [this] at h
    split at h <;> omega
  · rw [hs] at h
    simp at h
    omega
/-- The logarithm of a positive finite float32 is small. -/
theorem log_ranges {x : Nat} (h1 : 3936146074321813504 ≤ x) (h2 : x < 5183643171103440896) : 4604930618986332160 ≤ logX x ∧ logX x < 4609434218613702656 ∧ -200 ≤ logE x ∧ logE x ≤ 200 := by
  unfold logX logE
  omega
theorem logW_bd {x : Nat} (h1 : 3936146074321813504 ≤ x) (h2 : x < 5183643171103440896) : Bd .f64 (logW x) 43 := by
  obtain ⟨a, b, c, d⟩ := log_ranges h1 h2
  exact logV_bd a b c d

/-! ## The greatest whole number that is not greater -/
def ffloor (c : Nat) : Nat := FloatKind.f64.format.write (((FloatKind.f64.format.read c)).integral .down)
theorem cut_down_le (s : Bool) (m d : Nat) (E : Nat) (h : m ≤ 2 ^ (E + d)) : Ieee.Toward.down.cut s m d ≤ 2 ^ E + 1 := by
  have hbn : ∀ b : Bool, b.toNat ≤ 1 := by intro b; cases b <;> decide
  unfold Ieee.Toward.cut
  dsimp only
  rw [Nat.one_shiftLeft]
  have hb := hbn (s && m % 2 ^ min d (m.log2 + 2) != 0)
  have hd : m / 2 ^ min d (m.log2 + 2) ≤ 2 ^ E := by
    by_cases hm : d ≤ m.log2 + 2
    · rw [Nat.min_eq_left hm]
      have := Nat.div_le_div_right (c := 2 ^ d) h
      rwa [Nat.pow_add, Nat.mul_div_cancel _ (Nat.two_pow_pos _)] at this
    · rw [Nat.min_eq_right (by omega)]
      by_cases h0 : m = 0
      · subst h0; simp
      · have := (Nat.log2_lt (n := m) (k := m.log2 + 2) h0).1 (by omega)
        rw [Nat.div_eq_of_lt this]; exact Nat.zero_le _
  omega
theorem ffloor_bd {c : Nat} {E : Nat} (h : Bd .f64 c E) (hE : E ≤ 1000) : Bd .f64 (ffloor c) (E + 1) := by
  obtain ⟨m, p, h1, _, h3⟩ := h.read
  have e : ffloor c = FloatKind.f64.format.nearest (sgn .f64 c) (Ieee.Toward.down.cut (sgn .f64 c) (m <<< p.toNat) (-p).toNat) 0 := by
    unfold ffloor; rw [h1]; rfl
  rw [e]
  refine nearest_bd _ _ _ (by show (1 : Int) ≤ _ + 1023; omega) (by show _ + (1023 : Int) ≤ 2046; omega) ?_
  right
  refine ⟨by omega, ?_⟩
  have hle : Ieee.Toward.down.cut (sgn .f64 c) (m <<< p.toNat) (-p).toNat ≤ 2 ^ E + 1 := by
    refine cut_down_le _ _ _ _ ?_
    rw [Nat.shiftLeft_eq]
    by_cases hm : m = 0
    · rw [hm, Nat.zero_mul]; exact Nat.zero_le _
    · obtain ⟨c1, c2⟩ := h3.resolve_left hm
      have := Nat.mul_le_mul_right (2 ^ p.toNat) c2
      rw [← Nat.pow_add] at this
      exact Nat.le_trans this (Nat.pow_le_pow_right (by omega) (by omega))
  have e2 : ((E : Int) + 1 - 0).toNat = E + 1 := by omega
  rw [e2, Nat.pow_succ]
  have := Nat.two_pow_pos E
  omega
theorem ffloor_notN {c : Nat} (h : isN .f64 c = false) : isN .f64 (ffloor c) = false ∧ (Lit.float .f64 (ffloor c)).wf = true := by
  refine ⟨?_, wf_write _ _⟩
  unfold ffloor
  refine write_notNaN _ _ ?_
  unfold isN at h
  cases hd : FloatKind.f64.format.read c with
  | number s m p => rfl
  | infinity s => rfl
  | nan s f => rw [hd] at h; cases h
def tenthsV (x : Nat) : Nat := fop .add .f64 (fop .mul .f64 (logW x) 4631308968768463603) 4602678819172646912
theorem tenthsV_bd {x : Nat} (h1 : 3936146074321813504 ≤ x) (h2 : x < 5183643171103440896) : Bd .f64 (tenthsV x) (50 : Nat) := by
  have hk : Bd .f64 4631308968768463603 6 := ⟨by decide +kernel, by decide, by decide⟩
  have hh : Bd .f64 4602678819172646912 49 := ⟨by decide +kernel, by decide, by decide⟩
  exact fop_add_bd (fop_mul_bd (logW_bd h1 h2) hk (by decide) (by decide)) hh (by decide)
/-- The tenths of decibels are whole numbers that an int64 holds. -/
theorem tenths_int {x : Nat} (h1 : 3936146074321813504 ≤ x) (h2 : x < 5183643171103440896) : ∃ n, floatToIntVal .f64 (ffloor (tenthsV x)) .i64 = some n := by
  have hb := ffloor_bd (tenthsV_bd h1 h2) (by decide)
  have hb' : Bd .f64 (fabs (ffloor (tenthsV x))) 51 := ⟨by rw [rung_fabs]; exact hb.le, by decide, by decide⟩
  refine fint_in hb.fin ?_
  have hk : fin .f64 4841369599423283200 = true := by decide +kernel
  have hs : sgn .f64 4841369599423283200 = false := by decide +kernel
  have hr : rung .f64 4841369599423283200 = 4841369599423283200 := by decide +kernel
  unfold many
  rw [(fcmp_fin hb'.fin hk).2.2.2.1, sv_pos (sgn_fabs _), sv_pos hs, hr, decide_eq_false_iff_not]
  intro hle
  have hl : rung .f64 (fabs (ffloor (tenthsV x))) < 4841369599423283200 := by
    have := hb'.le
    have e : ((51 : Int) + (bias .f64 : Nat)).toNat * FloatKind.f64.format.binade = 4836865999795912704 := by decide +kernel
    rw [e] at this
    omega
  have := val_mono FloatKind.f64.format hl
  omega
end Go.Proofs.Ytmioclcipdifpaa
