/-
Reading a number in decimal: what both sides answer, as numbers. No walk.
ReadDecimal: the program and its model.
-/
import Derived.Test.YthambmgibelpkaaDoorDec
import Derived.Test.YthambmgibelpkaaDoorWDecimal
namespace Go.Proofs.YthambmgibelpkaaDoor
open Go Go.RowKit

def isDig (b : UInt8) : Bool := decide (48 ≤ b.toNat ∧ b.toNat ≤ 57)
def dstep (n : Nat) (b : UInt8) : Nat := if isDig b then 10 * n + (b.toNat - 48) else n
def dval (l : List UInt8) : Nat := l.foldl dstep 0
def rdN (l : List UInt8) : Int := if Lib.hasPrefix l [45] then -(dval l : Int) else (dval l : Int)
def rdOk (l : List UInt8) : Bool := decide (-1000000000000000 ≤ rdN l ∧ rdN l ≤ 1000000000000000 ∧ Lib.itoa (rdN l) = l)
theorem dstep_ge (n : Nat) (b : UInt8) : n ≤ dstep n b := by unfold dstep; split <;> omega
theorem foldl_ge (l : List UInt8) : ∀ n, n ≤ l.foldl dstep n := by
  induction l with
  | nil => intro n; exact Nat.le_refl _
  | cons b l ih => intro n; exact Nat.le_trans (dstep_ge n b) (ih _)
theorem dval_snoc (l : List UInt8) (b : UInt8) : dval (l ++ [b]) = dstep (dval l) b := by unfold dval; rw [List.foldl_append]; rfl
theorem dval_app (l m : List UInt8) : dval l ≤ dval (l ++ m) := by unfold dval; rw [List.foldl_append]; exact foldl_ge m _
theorem dval_take (l : List UInt8) (m : Nat) : dval (l.take m) ≤ dval l := by
  have := dval_app (l.take m) (l.drop m)
  rwa [List.take_append_drop] at this
theorem dstep_lt {n k : Nat} (b : UInt8) (h : n < 10 ^ k) : dstep n b < 10 ^ (k + 1) := by
  have h2 : 10 ^ (k + 1) = 10 * 10 ^ k := by rw [Nat.pow_succ]; omega
  unfold dstep isDig
  split
  · rename_i e; rw [decide_eq_true_eq] at e; omega
  · omega
theorem foldl_lt (l : List UInt8) : ∀ n k, n < 10 ^ k → l.foldl dstep n < 10 ^ (k + l.length) := by
  induction l with
  | nil => intro n k h; exact h
  | cons b l ih =>
    intro n k h
    have := ih _ (k + 1) (dstep_lt b h)
    rw [List.foldl_cons, List.length_cons, show k + (l.length + 1) = k + 1 + l.length by omega]
    exact this
theorem dval_lt (l : List UInt8) : dval l < 10 ^ l.length := by
  have := foldl_lt l 0 0 (by decide)
  rwa [Nat.zero_add] at this
theorem dval_17 {l : List UInt8} {m : Nat} (h : l.length ≤ 17) : dval (l.take m) < 100000000000000000 := by
  refine Nat.lt_of_le_of_lt (dval_take l m) (Nat.lt_of_lt_of_le (dval_lt l) ?_)
  exact Nat.le_trans (Nat.pow_le_pow_right (by decide) h) (by decide)
theorem take_next (l : List UInt8) (m : Nat) (h : m < l.length) : l.take (m + 1) = l.take m ++ [l.getD m 0] := by
  rw [List.take_succ_eq_append_getElem h, List.getD, List.getElem?_eq_getElem h]; rfl
theorem dec_dig : ∀ a : Nat, (∀ b ∈ Lib.decDigits a, isDig b = true) ∧ dval (Lib.decDigits a) = a := by
  intro a
  induction a using Nat.strongRecOn with
  | _ a ih =>
    have key : ∀ d, d < 10 → isDig (UInt8.ofNat (48 + d)) = true ∧ (UInt8.ofNat (48 + d)).toNat - 48 = d := by
      intro d hd
      have h := UInt8.toNat_ofNat' (n := 48 + d)
      unfold isDig
      rw [h]
      exact ⟨decide_eq_true (by omega), by omega⟩
    by_cases h : a < 10
    · rw [Lib.decDigits_one h]
      refine ⟨fun b hb => by rw [List.mem_singleton] at hb; subst hb; exact (key a h).1, ?_⟩
      have := dval_snoc [] (UInt8.ofNat (48 + a))
      rw [List.nil_append] at this
      rw [this]; unfold dstep; rw [if_pos (key a h).1, (key a h).2]; exact (by show 10 * 0 + a = a; omega)
    · have e : Lib.decDigits a = Lib.decDigits (a / 10) ++ [UInt8.ofNat (48 + a % 10)] := by rw [Lib.decDigits, dif_neg h]
      obtain ⟨h1, h2⟩ := ih (a / 10) (by omega)
      rw [e]
      refine ⟨fun b hb => ?_, ?_⟩
      · rcases List.mem_append.1 hb with hb | hb
        · exact h1 b hb
        · rw [List.mem_singleton] at hb; subst hb; exact (key _ (Nat.mod_lt _ (by decide))).1
      · rw [dval_snoc, h2]; unfold dstep; rw [if_pos (key _ (Nat.mod_lt _ (by decide))).1, (key _ (Nat.mod_lt _ (by decide))).2]; omega
theorem dec_short : ∀ (k a : Nat), a < 10 ^ (k + 1) → (Lib.decDigits a).length ≤ k + 1 := by
  intro k
  induction k with
  | zero => intro a h; rw [Lib.decDigits_one (by simpa using h)]; simp
  | succ k ih =>
    intro a h
    by_cases h10 : a < 10
    · rw [Lib.decDigits_one h10]; simp
    · rw [Lib.decDigits, dif_neg h10, List.length_append]
      have : 10 ^ (k + 1 + 1) = 10 * 10 ^ (k + 1) := by rw [Nat.pow_succ]; omega
      have := ih (a / 10) (by omega)
      simp; omega
theorem dec_some (a : Nat) : 1 ≤ (Lib.decDigits a).length := by
  by_cases h : a < 10
  · rw [Lib.decDigits_one h]; simp
  · rw [Lib.decDigits, dif_neg h]; simp
/-- A number's text: what is behind the sign is digits, and reads as the number. -/
theorem itoa_trim (n : Int) : Lib.trimPrefix (Lib.itoa n) [45] = Lib.decDigits n.natAbs ∧ Lib.hasPrefix (Lib.itoa n) [45] = decide (n < 0) := by
  by_cases h : n < 0
  · rw [itoa_neg h]; unfold Lib.trimPrefix Lib.hasPrefix; simp [h, List.isPrefixOf]
  · rw [itoa_pos h]
    have hp : Lib.hasPrefix (Lib.decDigits n.natAbs) [45] = false := by
      have h1 := dec_some n.natAbs
      have h2 := (dec_dig n.natAbs).1
      cases hd : Lib.decDigits n.natAbs with
      | nil => rw [hd] at h1; simp at h1
      | cons b r =>
        have := h2 b (by rw [hd]; simp)
        unfold Lib.hasPrefix
        simp only [List.isPrefixOf, Bool.and_true]
        rw [beq_eq_false_iff_ne]
        intro e
        rw [← e] at this
        exact absurd this (by decide)
    rw [hp]
    unfold Lib.trimPrefix
    rw [hp, decide_eq_false h]
    exact ⟨rfl, rfl⟩
theorem rdOk_len {l : List UInt8} (h : l.length < 1 ∨ 17 < l.length) : rdOk l = false := by
  unfold rdOk
  refine decide_eq_false fun ⟨h1, h2, h3⟩ => ?_
  have hs : (Lib.decDigits (rdN l).natAbs).length ≤ 16 := dec_short 15 _ (by have : (10 : Nat) ^ 16 = 10000000000000000 := by decide
                                                                             omega)
  have h4 := dec_some (rdN l).natAbs
  by_cases hn : rdN l < 0
  · rw [itoa_neg hn] at h3; rw [← h3, List.length_cons] at h; omega
  · rw [itoa_pos hn] at h3; rw [← h3] at h; omega
theorem rdOk_dig {l : List UInt8} {m : Nat} (hm : m < (Lib.trimPrefix l [45]).length) (h : isDig ((Lib.trimPrefix l [45]).getD m 0) = false) : rdOk l = false := by
  unfold rdOk
  refine decide_eq_false fun ⟨h1, h2, h3⟩ => ?_
  have ht := (itoa_trim (rdN l)).1
  rw [h3] at ht
  rw [ht] at hm h
  have := (dec_dig (rdN l).natAbs).1 _ (List.getElem_mem hm)
  rw [List.getD, List.getElem?_eq_getElem hm, Option.getD_some, this] at h
  cases h
theorem dval_trim (l : List UInt8) : dval (Lib.trimPrefix l [45]) = dval l := by
  unfold Lib.trimPrefix
  split
  · rename_i h
    cases l with
    | nil => rfl
    | cons b r =>
      unfold Lib.hasPrefix at h
      simp only [List.isPrefixOf, Bool.and_true, beq_iff_eq] at h
      subst h
      rfl
  · rfl
theorem rdOk_big {l : List UInt8} {m : Nat} (h : 1000000000000000 < dval ((Lib.trimPrefix l [45]).take m)) : rdOk l = false := by
  have h1 := dval_take (Lib.trimPrefix l [45]) m
  rw [dval_trim] at h1
  unfold rdOk
  refine decide_eq_false fun ⟨h2, h3, _⟩ => ?_
  have hc : rdN l = -(dval l : Int) ∨ rdN l = (dval l : Int) := by
    unfold rdN
    split
    · exact .inl rfl
    · exact .inr rfl
  omega
theorem rdOk_end {l : List UInt8} (h : dval (Lib.trimPrefix l [45]) ≤ 1000000000000000) : rdOk l = decide (Lib.itoa (rdN l) = l) ∧ rdN l = (if Lib.hasPrefix l [45] then -(dval (Lib.trimPrefix l [45]) : Int) else (dval (Lib.trimPrefix l [45]) : Int)) := by
  rw [dval_trim] at h ⊢
  refine ⟨?_, rfl⟩
  unfold rdOk
  rw [Bool.eq_iff_iff, decide_eq_true_eq, decide_eq_true_eq]
  have : -1000000000000000 ≤ rdN l ∧ rdN l ≤ 1000000000000000 := by unfold rdN; split <;> omega
  exact ⟨fun h => h.2.2, fun h => ⟨this.1, this.2, h⟩⟩
end Go.Proofs.YthambmgibelpkaaDoor
namespace Go.Proofs.YthambmgibelpkaaDoor
open Go Go.RowKit
set_option maxRecDepth 100000

abbrev rdV (s : ByteArray) : Value := .tuple #[.int .i64 (if rdOk s.data.toList then rdN s.data.toList else 0), .bool (rdOk s.data.toList)]
theorem vi_ext {a b : Int} (h : a = b) : (Value.int .i64 a) = .int .i64 b := by rw [h]
theorem rd_no {s : ByteArray} (h : rdOk s.data.toList = false) : rdV s = .tuple #[.int .i64 0, .bool false] := by unfold rdV; rw [h]; rfl
theorem byt_d (s : ByteArray) (i : Nat) : byt s i = (s.data.toList.getD i 0).toNat := rfl
theorem dval_up {l : List UInt8} {m : Nat} (h : m < l.length) : dval (l.take (m + 1)) = dstep (dval (l.take m)) (l.getD m 0) := by rw [take_next l m h, dval_snoc]
theorem head_neg {s : ByteArray} (h : 0 < s.size) : Lib.hasPrefix s.data.toList [45] = decide (byt s 0 = 45) := by
  rw [byt_d]
  obtain ⟨⟨l⟩⟩ := s
  have hl : 0 < l.length := h
  cases l with
  | nil => simp at hl
  | cons b r =>
    unfold Lib.hasPrefix
    simp only [List.isPrefixOf, Bool.and_true]
    rw [Bool.eq_iff_iff, beq_iff_eq, decide_eq_true_eq]
    constructor
    · intro e; subst e; rfl
    · intro e; exact (UInt8.toNat_inj.1 (show b.toNat = (45 : UInt8).toNat from e)).symm
theorem nodig {z : ByteArray} {m : Nat} (h : m < z.size) (hb : (z[m]'h).toNat < 48 ∨ 57 < (z[m]'h).toNat) : isDig (z.data.toList.getD m 0) = false := by
  unfold isDig
  rw [← byt_d, ← byt_at z m h]
  exact decide_eq_false (by omega)
theorem yesdig {z : ByteArray} {m : Nat} (h : m < z.size) (h1 : ¬ (z[m]'h).toNat < 48) (h2 : ¬ 57 < (z[m]'h).toNat) : dval (z.data.toList.take (m + 1)) = 10 * dval (z.data.toList.take m) + ((z[m]'h).toNat - 48) := by
  rw [dval_up (show m < z.data.toList.length from h)]
  unfold dstep isDig
  rw [← byt_d, ← byt_at z m h, if_pos (decide_eq_true (by omega))]
theorem isDigit_any (r : Int) (w : World) : Calls Tryd.prog 29 #[.int .i32 r] w (fun e w' => e = .returned (.bool (decide (48 ≤ r ∧ r ≤ 57))) ∧ w' = w) := by
  go_enter Tryd.func29, Tryd.ntmps29
  go_wp2 <;> (go_ret; exact ⟨by simp; try omega, rfl⟩)
end Go.Proofs.YthambmgibelpkaaDoor
