/-
  A place that is a drain is lower; the ways of water. No premise.
-/
import Derived.Test.YtcgmffpddahgoabDrn
import Derived.Test.YtcgmffpddahgoabSinM
namespace Go.Proofs.Ytcgmffpddahgoab
open Go Go.RowKit
set_option maxRecDepth 100000

theorem quo_inf {k : FloatKind} {x y n : Nat} {t : Bool} {q : Int} (hx : isInf k x = true) (hy : k.format.read y = .number t n q) : fin k (fop .quo k x y) = false := by
  have e : fop .quo k x y = k.format.word (sgn k x ^^ t) k.format.infRung := by
    refine fop_of_some ?_
    unfold floatBits Ieee.Format.div
    dsimp only
    rw [read_inf hx, hy]
    rfl
  obtain ⟨h1, _⟩ := word_rung (k := k) (sgn k x ^^ t) k.format.infRung_lt
  rw [e]
  unfold fin
  rw [h1]
  simp
/-- a quotient that is more than nought by a number more than nought -/
theorem quo_pos {k : FloatKind} {x y n : Nat} {q : Int} (hn : isN k x = false) (hy : k.format.read y = .number false n q) (h0 : n ≠ 0) (hf : fin k (fop .quo k x y) = true) (hp : 0 < sv k (fop .quo k x y)) : fin k x = true ∧ 0 < sv k x := by
  rcases three (k := k) x with h | h | h
  · refine ⟨h, ?_⟩
    obtain ⟨m, p, a1, a2, a3, _, _⟩ := read_fin h
    have e : fop .quo k x y = k.format.nearest (sgn k x ^^ false)
        (2 * ((m <<< (k.format.fractionBits + 2 + n.log2 - m.log2)) / n) + ((m <<< (k.format.fractionBits + 2 + n.log2 - m.log2)) % n != 0).toNat) (p - q - (k.format.fractionBits + 2 + n.log2 - m.log2 : Nat) - 1) := by
      refine fop_of_some ?_
      unfold floatBits Ieee.Format.div
      dsimp only
      rw [a1, hy]
      unfold Ieee.Datum.quotient
      dsimp only
      rw [if_neg h0]
      rfl
    rw [Bool.xor_false] at e
    by_cases hm : m = 0
    · subst hm
      simp only [Nat.zero_shiftLeft, Nat.zero_div, Nat.zero_mod] at e
      rw [show (2 * 0 + ((0 : Nat) != 0).toNat) = 0 from rfl] at e
      have hr : rung k (fop .quo k x y) = 0 := by rw [e]; exact nearest_zero _ _
      rw [sv_eq, hr] at hp
      have : val k.format 0 = 0 := by unfold val; rw [if_pos (binade_pos k)]
      rw [this] at hp
      simp at hp
    · have hs : sgn k (fop .quo k x y) = sgn k x := by rw [e]; exact nearest_sgn _ _ _ _
      cases hx : sgn k x
      · rw [sv_pos hx, ← a3]
        have := Nat.mul_pos (Nat.pos_of_ne_zero hm) (Nat.two_pow_pos (p - k.format.leastPlace).toNat)
        omega
      · rw [hx] at hs
        unfold sv at hp
        rw [hs, if_pos rfl] at hp
        omega
  · rw [quo_inf h hy] at hf
    cases hf
  · rw [hn] at h
    cases h
theorem sub_pos_sv {k : FloatKind} {x y : Nat} (hx : fin k x = true) (hy : fin k y = true) (hp : 0 < sv k (fop .sub k x y)) : sv k y < sv k x := by
  have e := fop_sub_near hx hy
  rcases Int.lt_trichotomy (sv k x - sv k y) 0 with h | h | h
  · rw [if_neg (by omega), decide_eq_true h] at e
    have hs : sgn k (fop .sub k x y) = true := by rw [e]; exact nearest_sgn _ _ _ _
    unfold sv at hp
    rw [hs, if_pos rfl] at hp
    omega
  · rw [h] at e
    have hr : rung k (fop .sub k x y) = 0 := by rw [e]; exact nearest_zero _ _
    rw [sv_eq, hr] at hp
    have : val k.format 0 = 0 := by unfold val; rw [if_pos (binade_pos k)]
    rw [this] at hp
    simp at hp
  · omega
theorem fall_lower {f : Nat → Nat} {W i j M : Nat} (hb : Beside W i j) (hi : fin .f32 (f i) = true) (hj : fin .f32 (f j) = true) (hf : fin .f32 (fallC f W i j) = true) (hM : fin .f32 M = true) (h0 : 0 ≤ sv .f32 M) (hv : fcmp .gtr .f32 (fallC f W i j) M = true) : sv .f32 (f j) < sv .f32 (f i) ∧ 0 ≤ sv .f32 (fallC f W i j) := by
  rw [(fcmp_fin hf hM).2.2.1] at hv
  have h1 := of_decide_eq_true hv
  obtain ⟨n, q, hr, hn⟩ := step_read' hb.step
  obtain ⟨_, h2⟩ := quo_pos (k := .f32) (sub_notN hi hj) hr hn hf (by unfold fallC at h1; omega)
  exact ⟨sub_pos_sv hi hj h2, by omega⟩
/-- a drain is a lower place, or none -/
theorem drF_lower {f : Nat → Nat} {W i n : Nat} (L : List Int) (hL : ∀ k ∈ L, ∃ j : Nat, k = (j : Int) ∧ j < n ∧ Beside W i j) (hf : ∀ j, j < n → fin .f32 (f j) = true) (hi : i < n) (hok : drOk f W i L = true) (b : Int) (M : Nat) (hM : fin .f32 M = true) (h0 : 0 ≤ sv .f32 M) (hb : b = -1 ∨ ∃ j : Nat, b = (j : Int) ∧ j < n ∧ sv .f32 (f j) < sv .f32 (f i)) : (L.foldl (drS f W i) (b, M)).1 = -1 ∨ ∃ j : Nat, (L.foldl (drS f W i) (b, M)).1 = (j : Int) ∧ j < n ∧ sv .f32 (f j) < sv .f32 (f i) := by
  induction L generalizing b M with
  | nil => exact hb
  | cons k L ih =>
    obtain ⟨j, rfl, hj, hbs⟩ := hL _ List.mem_cons_self
    unfold drOk at hok
    rw [List.all_cons, Bool.and_eq_true] at hok
    have hfl : fin .f32 (fallC f W i j) = true := hok.1
    rw [List.foldl_cons]
    cases hv : fcmp .gtr .f32 (fallC f W i j) M
    · have e : drS f W i (b, M) (j : Int) = (b, M) := if_neg (by show ¬ fcmp .gtr .f32 (fallC f W i j) M = true; rw [hv]; decide)
      rw [e]
      exact ih (fun k hk => hL k (List.mem_cons_of_mem _ hk)) hok.2 b M hM h0 hb
    · have e : drS f W i (b, M) (j : Int) = ((j : Int), fallC f W i j) := if_pos hv
      obtain ⟨h1, h2⟩ := fall_lower hbs (hf i hi) (hf j hj) hfl hM h0 hv
      rw [e]
      exact ih (fun k hk => hL k (List.mem_cons_of_mem _ hk)) hok.2 _ _ hfl h2 (.inr ⟨j, rfl, hj, h1⟩)
theorem countP_lt {α : Type} {p q : α → Bool} : ∀ {l : List α}, (∀ x ∈ l, p x = true → q x = true) → (∃ x ∈ l, q x = true ∧ p x = false) → l.countP p < l.countP q := by
  intro l
  induction l with
  | nil => rintro _ ⟨x, hx, _⟩; cases hx
  | cons a l ih =>
    intro h1 h2
    have hle : l.countP p ≤ l.countP q := List.countP_mono_left (fun x hx => h1 x (List.mem_cons_of_mem _ hx))
    rw [List.countP_cons, List.countP_cons]
    obtain ⟨x, hx, hq, hp⟩ := h2
    rcases List.mem_cons.1 hx with rfl | hx
    · rw [hq, hp]; simp; omega
    · have := ih (fun x hx => h1 x (List.mem_cons_of_mem _ hx)) ⟨x, hx, hq, hp⟩
      cases ha : p a
      · cases q a <;> simp <;> omega
      · rw [h1 a List.mem_cons_self ha]; simp; omega
/-- how many places are lower -/
def rk (f : Nat → Nat) (n i : Nat) : Nat := (List.range n).countP (fun j => decide (sv .f32 (f j) < sv .f32 (f i)))
theorem rk_lt {f : Nat → Nat} {n i j : Nat} (hj : j < n) (h : sv .f32 (f j) < sv .f32 (f i)) : rk f n j < rk f n i := by
  refine countP_lt (fun x _ hx => ?_) ⟨j, List.mem_range.2 hj, decide_eq_true h, decide_eq_false (by omega)⟩
  have := of_decide_eq_true hx
  exact decide_eq_true (by omega)
theorem rk_n {f : Nat → Nat} {n i : Nat} (hi : i < n) : rk f n i < n := by
  have h : rk f n i < (List.range n).countP (fun _ => true) := countP_lt (fun _ _ _ => rfl) ⟨i, List.mem_range.2 hi, rfl, decide_eq_false (by omega)⟩
  simpa using h
/-! ## The ways of water -/
/-- 'each place leads to a lower one, or to none' -/
structure Dn (D : Nat → Int) (r : Nat → Nat) (n : Nat) : Prop where
  to : ∀ i, i < n → D i = -1 ∨ ∃ j : Nat, D i = (j : Int) ∧ j < n ∧ r j < r i
  lt : ∀ i, i < n → r i < n
def pth (D : Nat → Int) : Nat → Nat → List Nat
  | 0, _ => []
  | t + 1, i => i :: (if D i < 0 then [] else pth D t (D i).toNat)
def pthI (D : Nat → Int) (n : Nat) (a : Int) : List Nat := if a < 0 then [] else pth D n a.toNat
theorem pth_len {D : Nat → Int} : ∀ t i, (pth D t i).length ≤ t := by
  intro t
  induction t with
  | zero => intro i; exact Nat.le_refl _
  | succ t ih =>
    intro i
    unfold pth
    by_cases h : D i < 0
    · rw [if_pos h]; simp
    · rw [if_neg h]
      have := ih (D i).toNat
      simp only [List.length_cons]
      omega
theorem pthI_len {D : Nat → Int} {n : Nat} (a : Int) : (pthI D n a).length ≤ n := by
  unfold pthI
  by_cases h : a < 0
  · rw [if_pos h]; exact Nat.zero_le _
  · rw [if_neg h]; exact pth_len _ _
theorem pth_fuel {D : Nat → Int} {r : Nat → Nat} {n : Nat} (h : Dn D r n) : ∀ t u i, i < n → r i < t → r i < u → pth D t i = pth D u i := by
  intro t
  induction t with
  | zero => intro u i _ h1; omega
  | succ t ih =>
    intro u i hi h1 h2
    cases u with
    | zero => omega
    | succ u =>
      unfold pth
      rcases h.to i hi with h3 | ⟨j, h3, h4, h5⟩
      · rw [if_pos (by omega), if_pos (by omega)]
      · rw [if_neg (by omega), if_neg (by omega), h3]
        rw [Int.toNat_natCast]
        rw [ih u j h4 (by omega) (by omega)]
theorem pthI_cons {D : Nat → Int} {r : Nat → Nat} {n i : Nat} (h : Dn D r n) (hi : i < n) : pthI D n (i : Int) = i :: pthI D n (D i) := by
  have hr := h.lt i hi
  unfold pthI
  rw [if_neg (by omega), Int.toNat_natCast]
  obtain ⟨m, hm⟩ : ∃ m, n = m + 1 := ⟨n - 1, by omega⟩
  rw [hm]
  show pth D (m + 1) i = _
  rcases h.to i hi with h3 | ⟨j, h3, h4, h5⟩
  · rw [if_pos (by omega)]
    unfold pth
    rw [if_pos (by omega)]
  · rw [if_neg (by omega), h3]
    show i :: (if D i < 0 then [] else pth D m (D i).toNat) = _
    rw [if_neg (by omega), h3, Int.toNat_natCast]
    rw [pth_fuel h m (m + 1) j h4 (by omega) (by omega)]
theorem pthI_neg {D : Nat → Int} {n : Nat} {a : Int} (h : a < 0) : pthI D n a = [] := if_pos h
end Go.Proofs.Ytcgmffpddahgoab
