/-
  Differences as bytes: the functions of the program and of its model that append them. No condition beyond those named.
-/
import Derived.Test.YtmioclcipdifpaaSteps
import Derived.Test.YtmioclcipdifpaaKey
import Derived.Laws.AppendOwn
import Derived.Laws.BytesArg
namespace Go.Proofs.Ytmioclcipdifpaa
open Go Go.RowKit
set_option maxRecDepth 100000

theorem fint_53 {c : Nat} (hf : fin .f64 c = true) (hm : many c = false) : ∃ iv, floatToIntVal .f64 c .i64 = some iv ∧ -9007199254740992 ≤ iv ∧ iv ≤ 9007199254740992 := by
  obtain ⟨m, p, h1, h2, h3, h4, h5⟩ := read_fin hf
  have hl := many_rung hf hm
  have hv := val_mono FloatKind.f64.format hl
  rw [← h3, least64] at hv
  have hkv : val FloatKind.f64.format 4841369599423283200 = 4503599627370496 * 2 ^ pb := by decide +kernel
  rw [hkv] at hv
  rw [bi64] at h4
  rw [least64] at h2
  have hcut : ∃ m' : Nat, m' < 9007199254740992 ∧ (FloatKind.f64.decode c).toInt .zero = some (Ieee.signed (sgn .f64 c) m' 0) := by
    unfold FloatKind.decode
    rw [h1]
    refine ⟨Ieee.Toward.zero.cut (sgn .f64 c) (m <<< p.toNat) (-p).toNat, ?_, rfl⟩
    by_cases hp : 0 ≤ p
    · rw [show (-p).toNat = 0 by omega, cut_none, Nat.shiftLeft_eq]
      have e : (p - -1074).toNat = p.toNat + pb := by unfold pb; omega
      rw [e, Nat.pow_add, ← Nat.mul_assoc] at hv
      have := Nat.lt_of_mul_lt_mul_right hv
      omega
    · rw [show p.toNat = 0 by omega, Nat.shiftLeft_zero]
      unfold Ieee.Toward.cut
      dsimp only
      have : m / 1 <<< min (-p).toNat (m.log2 + 2) ≤ m := Nat.div_le_self _ _
      simp only [Bool.toNat_false, Nat.add_zero]
      omega
  obtain ⟨m', hm', ht⟩ := hcut
  unfold floatToIntVal
  rw [ht]
  have hb : IntKind.i64.min ≤ Ieee.signed (sgn .f64 c) m' 0 ∧ Ieee.signed (sgn .f64 c) m' 0 ≤ IntKind.i64.max := by
    rw [show IntKind.i64.min = -9223372036854775808 by decide, show IntKind.i64.max = 9223372036854775807 by decide]
    unfold Ieee.signed
    cases sgn .f64 c <;> simp <;> omega
  refine ⟨_, if_pos hb, ?_⟩
  unfold Ieee.signed
  cases sgn .f64 c <;> simp <;> omega


theorem step_in {c : Nat} (hc : Ab .f32 c 1056964608) : -9007199254740992 ≤ stepC c ∧ stepC c ≤ 9007199254740992 := by
  have h1 := wide_ab hc
  have h2 := mul_ab (c := 4710765210229538816) h1 (ab_self (c := 4715268809856909312) (by decide +kernel)) (by decide +kernel) (by decide +kernel)
  have h3 := add_ab (c := 4715268809856909312) h2 (ab_self (c := 4602678819172646912) (by decide +kernel)) (by decide +kernel) (by decide +kernel)
  have hb : Bd .f64 (stepW c) (24 : Nat) := bd_of_ab h3 (by decide +kernel) (by decide) (by decide)
  have hfl := ffloor_bd hb (by decide)
  obtain ⟨n, hn, b1, b2⟩ : ∃ n, floatToIntVal .f64 (ffloor (stepW c)) .i64 = some n ∧ -9007199254740992 ≤ n ∧ n ≤ 9007199254740992 := by
    refine fint_53 hfl.fin ?_
    have hab := ab_of_bd hfl (b := 4728779608739021 * 1000) (by decide +kernel) (by decide +kernel)
    have hk : fin .f64 4841369599423283200 = true := by decide +kernel
    have hs : sgn .f64 4841369599423283200 = false := by decide +kernel
    unfold many
    rw [(fcmp_fin (by rw [fin_fabs]; exact hfl.fin) hk).2.2.2.1, sv_pos (sgn_fabs _), sv_pos hs, rung_fabs, decide_eq_false_iff_not]
    have h5 := hab.val
    have h6 : val FloatKind.f64.format (rung .f64 (4728779608739021 * 1000)) < val FloatKind.f64.format (rung .f64 4841369599423283200) := val_mono _ (by decide +kernel)
    omega
  have hv : stepC c = n := fint_of hn
  rw [hv]; exact ⟨b1, b2⟩
/-! ## Bytes of differences -/
def enc (n : Nat) : List Nat := if n < 128 then [n] else (n % 128 + 128) :: enc (n / 128)
termination_by n
decreasing_by omega
theorem enc_lt {n : Nat} (h : n < 128) : enc n = [n] := by rw [enc, if_pos h]
theorem enc_ge {n : Nat} (h : ¬ n < 128) : enc n = (n % 128 + 128) :: enc (n / 128) := by rw [enc, if_neg h]
theorem enc_pos (n : Nat) : 1 ≤ (enc n).length := by
  by_cases h : n < 128
  · rw [enc_lt h]; simp
  · rw [enc_ge h]; simp
theorem enc_len : ∀ (k n : Nat), n < 128 ^ (k + 1) → (enc n).length ≤ k + 1 := by
  intro k
  induction k with
  | zero => intro n h; rw [enc_lt (by simpa using h)]; simp
  | succ k ih =>
    intro n h
    by_cases hn : n < 128
    · rw [enc_lt hn]; simp
    · rw [enc_ge hn, List.length_cons]
      have := ih (n / 128) (by rw [Nat.pow_succ] at h; exact Nat.div_lt_of_lt_mul (by rw [Nat.mul_comm]; exact h))
      omega
theorem enc_8 {n : Nat} (h : n ≤ 72057594037927935) : (enc n).length ≤ 8 := enc_len 7 n (by rw [show 128 ^ (7 + 1) = 72057594037927936 by decide]; omega)
def diffN (d : Int) : Nat := if d < 0 then (-2 * d - 1).toNat else (2 * d).toNat
def us (xs : List Nat) : List Value := xs.map fun (b : Nat) => Value.int .u8 (b : Int)
theorem us_app (xs ys : List Nat) : us (xs ++ ys) = us xs ++ us ys := by simp [us]
theorem us_len (xs : List Nat) : (us xs).length = xs.length := by simp [us]
theorem kown_al {w : World} {base : Nat} {e : TypeId} {size : Nat} {v : Value} {n : Nat} {xs : List Value} (h : w.ownsRow base e size v n xs) (o : Obj) : (w.alloc o).ownsRow base e size v n xs := by
  have b := (Below.refl w.heap.size w).alloc (Nat.le_refl _) o
  refine h.kept (row := none) ⟨b.os, b.tape, b.output, b.size, fun k hk _ => b.block k hk⟩ ?_
  cases hv : v.ownBlock
  · exact .inl rfl
  · exact .inr (by simp)
theorem cell_1 (w : World) (x : Value) (t : TypeId) : ∀ j u, [x][j]? = some u → (w.alloc (.cells #[x] t)).cell? ((⟨w.heap.size, 0, none⟩ : Addr).add j) = some u := by
  intro j u hu
  cases j with
  | zero =>
    rw [add_at]
    simp at hu
    subst hu
    simp [go_sem]
  | succ j => simp at hu
theorem one_1 {k : IntKind} {n : Int} : ∀ u ∈ [Value.int k n], u.oneCell' = true := by
  intro u hu
  simp at hu
  subst hu
  rfl
theorem own_snoc {w : World} {base : Nat} {T : TypeId} {v : Value} {ys : List Nat} {b : Nat} {x : Int} (h : w.ownsRow base T 1 v (ys.length + 1) (us ys ++ [.int .u8 x])) (hx : x = (b : Int)) : w.ownsRow base T 1 v (ys ++ [b]).length (us (ys ++ [b])) := by
  subst hx
  rw [List.length_append, us_app]
  exact h
/-- 'returns a slice of one's own that holds these bytes; what lies below base is as it was' -/
def ApB (base : Nat) (xs : List Nat) (w : World) (e : Ending) (w' : World) : Prop := ∃ v', e = .returned v' ∧ w'.ownsRow base 5 1 v' xs.length (us xs) ∧ Below base w w'
set_option maxHeartbeats 2000000 in
theorem l07Bytes_any {base : Nat} {v : Value} {xs : List Nat} {d : Int} (h1 : -18014398509481984 ≤ d) (h2 : d ≤ 18014398509481984) (hl : xs.length ≤ 1099511627776) (w : World) (hb : base ≤ w.heap.size) (ho : w.ownsRow base 5 1 v xs.length (us xs)) : Calls Try.prog 32 #[v, .int .i64 d] w (ApB base (xs ++ enc (diffN d)) w) := by
  obtain ⟨i0, hi, hz0, hz1, hz2⟩ := info_parts (P := Try.prog) (e := 5) (z := .int .u8 0) (size := 1) (bytes := 1) (by kernel_rfl)
  have HO := Hf.mk ho
  have HL := enc_8 (n := diffN d) (by unfold diffN; split <;> omega)
  clear ho
  have hD8 : diffN d ≤ 72057594037927935 := by unfold diffN; split <;> omega
  have HD := Hf.mk (show if d < 0 then -2 * d - 1 = ((diffN d : Nat) : Int) else 2 * d = ((diffN d : Nat) : Int) by unfold diffN; split <;> omega)
  by_cases hneg : d < 0
  all_goals
    first
      | rw [if_pos hneg] at HD
      | rw [if_neg hneg] at HD
    have HE := Hf.mk HD.out
    clear HD
    go_enter Try.func32, Try.ntmps32
    go_wp2
    go_loopw [0, 5] (fun u n wr => ∃ (N : Nat) (done : List Nat), n = .int .i64 N ∧ N ≤ diffN d ∧ Hf (done ++ enc N = enc (diffN d)) ∧ Hf (wr.ownsRow base 5 1 u (xs ++ done).length (us (xs ++ done))) ∧ Hf (Below base w wr)) (fun _ n _ => (intOf n).toNat)
    case atStart => exact ⟨diffN d, [], i_ext2 HE.out, Nat.le_refl _, ⟨rfl⟩, ⟨by rw [List.append_nil]; exact HO.out⟩, ⟨Below.refl _ _⟩⟩
    case round =>
      obtain ⟨N, done, rfl, hle, hd, hown, hbel⟩ := hrel
      have hl8 : done.length + (enc N).length ≤ 8 := by rw [← List.length_append, hd.out]; exact HL
      have hlen : (xs ++ done).length ≤ 1099511627784 := by rw [List.length_append]; omega
      have hN : (N : Int) ≤ 72057594037927935 := by omega
      have hsz := hbel.out.size
      by_cases hlt : 128 ≤ N
      · go_wp2_with (first | (at_builtin; refine wpList_append_own _ rfl _ _ 41 rfl base 5 i0 (.int .u8 0) 1 1 Try.underlying41 hi hz0 hz1 hz2 rfl (by decide) _ (xs ++ done).length (us (xs ++ done)) rfl (kown_al hown.out _) ⟨wr.heap.size, 0, none⟩ 1 1 [.int .u8 ((N : Int) % 128 + 128)] rfl rfl (cell_1 _ _ _) one_1 (by unfold maxLen; omega) (by omega) (by simp; omega) ?_; intro v' w3 o3 hgrow3 _; have B3 := Hf.mk (Below.grown (Below.alloc hbel.out (by omega) _) hgrow3 (by simp; omega) (fun k h => (hown.out.lt k h).1)); have O3 := Hf.mk o3; clear o3 hgrow3))
        go_roundw
        case rel =>
          refine ⟨N / 128, done ++ [N % 128 + 128], i_ext2 (by omega), by omega, ⟨by rw [List.append_assoc, List.singleton_append, ← enc_ge (by omega)]; exact hd.out⟩, ⟨?_⟩, B3⟩
          rw [← List.append_assoc]
          exact own_snoc O3.out (by omega)
        case measure => simp [intOf]; omega
      · go_wp2_with (first | (at_builtin; refine wpList_append_own _ rfl _ _ 41 rfl base 5 i0 (.int .u8 0) 1 1 Try.underlying41 hi hz0 hz1 hz2 rfl (by decide) _ (xs ++ done).length (us (xs ++ done)) rfl (kown_al hown.out _) ⟨wr.heap.size, 0, none⟩ 1 1 [.int .u8 (N : Int)] rfl rfl (cell_1 _ _ _) one_1 (by unfold maxLen; omega) (by omega) (by simp; omega) ?_; intro v' w3 o3 hgrow3 _; have B3 := Hf.mk (Below.grown (Below.alloc hbel.out (by omega) _) hgrow3 (by simp; omega) (fun k h => (hown.out.lt k h).1)); have O3 := Hf.mk o3; clear o3 hgrow3))
        go_ret
        refine ⟨_, rfl, ?_, B3.out⟩
        rw [← hd.out, enc_lt (by omega), ← List.append_assoc]
        exact own_snoc O3.out rfl
set_option maxHeartbeats 2000000 in
theorem withDiff_any {base : Nat} {v : Value} {xs : List Nat} {d : Int} (h1 : -18014398509481984 ≤ d) (h2 : d ≤ 18014398509481984) (hl : xs.length ≤ 1099511627776) (w : World) (hb : base ≤ w.heap.size) (ho : w.ownsRow base 5 1 v xs.length (us xs)) : Calls Try.prog 25 #[v, .int .i64 d] w (ApB base (xs ++ enc (diffN d)) w) := by
  obtain ⟨i0, hi, hz0, hz1, hz2⟩ := info_parts (P := Try.prog) (e := 5) (z := .int .u8 0) (size := 1) (bytes := 1) (by kernel_rfl)
  have HO := Hf.mk ho
  have HL := enc_8 (n := diffN d) (by unfold diffN; split <;> omega)
  clear ho
  have hD8 : diffN d ≤ 72057594037927935 := by unfold diffN; split <;> omega
  have HD := Hf.mk (show if d < 0 then -2 * d - 1 = ((diffN d : Nat) : Int) else 2 * d = ((diffN d : Nat) : Int) by unfold diffN; split <;> omega)
  by_cases hneg : d < 0
  all_goals
    first
      | rw [if_pos hneg] at HD
      | rw [if_neg hneg] at HD
    have HE := Hf.mk HD.out
    clear HD
    go_enter Try.func25, Try.ntmps25
    go_wp2
    go_loopw [0, 5] (fun u n wr => ∃ (N : Nat) (done : List Nat), n = .int .i64 N ∧ N ≤ diffN d ∧ Hf (done ++ enc N = enc (diffN d)) ∧ Hf (wr.ownsRow base 5 1 u (xs ++ done).length (us (xs ++ done))) ∧ Hf (Below base w wr)) (fun _ n _ => (intOf n).toNat)
    case atStart => exact ⟨diffN d, [], i_ext2 HE.out, Nat.le_refl _, ⟨rfl⟩, ⟨by rw [List.append_nil]; exact HO.out⟩, ⟨Below.refl _ _⟩⟩
    case round =>
      obtain ⟨N, done, rfl, hle, hd, hown, hbel⟩ := hrel
      have hl8 : done.length + (enc N).length ≤ 8 := by rw [← List.length_append, hd.out]; exact HL
      have hlen : (xs ++ done).length ≤ 1099511627784 := by rw [List.length_append]; omega
      have hN : (N : Int) ≤ 72057594037927935 := by omega
      have hsz := hbel.out.size
      by_cases hlt : 128 ≤ N
      · go_wp2_with (first | (at_builtin; refine wpList_append_own _ rfl _ _ 41 rfl base 5 i0 (.int .u8 0) 1 1 Try.underlying41 hi hz0 hz1 hz2 rfl (by decide) _ (xs ++ done).length (us (xs ++ done)) rfl (kown_al hown.out _) ⟨wr.heap.size, 0, none⟩ 1 1 [.int .u8 ((N : Int) % 128 + 128)] rfl rfl (cell_1 _ _ _) one_1 (by unfold maxLen; omega) (by omega) (by simp; omega) ?_; intro v' w3 o3 hgrow3 _; have B3 := Hf.mk (Below.grown (Below.alloc hbel.out (by omega) _) hgrow3 (by simp; omega) (fun k h => (hown.out.lt k h).1)); have O3 := Hf.mk o3; clear o3 hgrow3))
        go_roundw
        case rel =>
          refine ⟨N / 128, done ++ [N % 128 + 128], i_ext2 (by omega), by omega, ⟨by rw [List.append_assoc, List.singleton_append, ← enc_ge (by omega)]; exact hd.out⟩, ⟨?_⟩, B3⟩
          rw [← List.append_assoc]
          exact own_snoc O3.out (by omega)
        case measure => simp [intOf]; omega
      · go_wp2_with (first | (at_builtin; refine wpList_append_own _ rfl _ _ 41 rfl base 5 i0 (.int .u8 0) 1 1 Try.underlying41 hi hz0 hz1 hz2 rfl (by decide) _ (xs ++ done).length (us (xs ++ done)) rfl (kown_al hown.out _) ⟨wr.heap.size, 0, none⟩ 1 1 [.int .u8 (N : Int)] rfl rfl (cell_1 _ _ _) one_1 (by unfold maxLen; omega) (by omega) (by simp; omega) ?_; intro v' w3 o3 hgrow3 _; have B3 := Hf.mk (Below.grown (Below.alloc hbel.out (by omega) _) hgrow3 (by simp; omega) (fun k h => (hown.out.lt k h).1)); have O3 := Hf.mk o3; clear o3 hgrow3))
        go_ret
        refine ⟨_, rfl, ?_, B3.out⟩
        rw [← hd.out, enc_lt (by omega), ← List.append_assoc]
        exact own_snoc O3.out rfl
end Go.Proofs.Ytmioclcipdifpaa
