/-
Texts cut at a byte: what the model's loop and strings.Split make of them is the same. No memory.
-/
import Derived.Test.YtmioclcipdifpaaCn
import Derived.Lib.SplitLaws
namespace Go.Proofs.Ytmioclcipdifpaa
open Go
def cutL (c : UInt8) : List UInt8 → List (List UInt8)
  | [] => [ [] ]
  | b :: l => if b = c then [] :: cutL c l else
    match cutL c l with
    | [] => [ [b] ]
    | p :: ps => (b :: p) :: ps
theorem cutL_ne (c : UInt8) (l : List UInt8) : cutL c l ≠ [] := by
  cases l with
  | nil => simp [cutL]
  | cons b l =>
    unfold cutL
    split
    · simp
    · split <;> simp
theorem cutL_no {c : UInt8} : ∀ {l : List UInt8}, (∀ b, b ∈ l → b ≠ c) → cutL c l = [l] := by
  intro l
  induction l with
  | nil => intro _; rfl
  | cons b l ih =>
    intro h
    rw [cutL, if_neg (h b (by simp)), ih (fun x hx => h x (by simp [hx]))]
theorem cutL_hit {c : UInt8} : ∀ {p q : List UInt8}, (∀ b, b ∈ p → b ≠ c) → cutL c (p ++ c :: q) = p :: cutL c q := by
  intro p q
  induction p with
  | nil => intro _; rw [List.nil_append, cutL, if_pos rfl]
  | cons b p ih =>
    intro h
    rw [List.cons_append, cutL, if_neg (h b (by simp)), ih (fun x hx => h x (by simp [hx]))]
theorem cutL_end {c : UInt8} : ∀ {l : List UInt8}, cutL c (l ++ [c]) = cutL c l ++ [ [] ] := by
  intro l
  induction l with
  | nil => rw [List.nil_append]; simp [cutL]
  | cons b l ih =>
    rw [List.cons_append, cutL, cutL, ih]
    by_cases e : b = c
    · rw [if_pos e, if_pos e]; rfl
    · rw [if_neg e, if_neg e]
      have := cutL_ne c l
      cases h : cutL c l with
      | nil => exact absurd h this
      | cons p ps => rfl
theorem cutL_last {c : UInt8} : ∀ {l : List UInt8} (h : l ≠ []), l.getLast h ≠ c → (cutL c l).getLast (cutL_ne c l) ≠ [] := by
  intro l
  induction l with
  | nil => intro h; exact absurd rfl h
  | cons b l ih =>
    intro h hl
    cases l with
    | nil =>
      have e : b ≠ c := by simpa using hl
      have : cutL c [b] = [ [b] ] := by rw [cutL, if_neg e]; rfl
      simp [this]
    | cons b2 l =>
      have hl2 : (b2 :: l).getLast (by simp) ≠ c := by simpa using hl
      have := ih (by simp) hl2
      by_cases e : b = c
      · have e2 : cutL c (b :: b2 :: l) = [] :: cutL c (b2 :: l) := by rw [cutL, if_pos e]
        simp only [e2]
        rw [List.getLast_cons (cutL_ne c _)]
        exact this
      · cases h3 : cutL c (b2 :: l) with
        | nil => exact absurd h3 (cutL_ne c _)
        | cons p ps =>
          have e2 : cutL c (b :: b2 :: l) = (b :: p) :: ps := by rw [cutL, if_neg e, h3]
          simp only [e2]
          simp only [h3] at this
          cases ps with
          | nil => simp
          | cons p2 ps => simpa using this
theorem splitK_cut (c : UInt8) : ∀ (l : List UInt8), Lib.splitK [c] 0 (Lib.count l [c]) l = cutL c l := by
  intro l
  induction l with
  | nil => rfl
  | cons b l ih =>
    by_cases e : b = c
    · subst e
      rw [Lib.count_cons_eq, Nat.add_comm, Lib.splitK]
      have hi : Lib.index (b :: l) [b] = 0 := by unfold Lib.index; simp
      rw [hi]
      have : ¬ ((0 : Int) == -1) = true := by decide
      rw [if_neg this, cutL, if_pos rfl]
      simpa using ih
    · rw [Lib.count_cons_ne _ _ _ e]
      cases hk : Lib.count l [c] with
      | zero =>
        rw [hk] at ih
        rw [Lib.splitK] at ih ⊢
        rw [cutL, if_neg e, ← ih]
      | succ k =>
        rw [hk, Lib.splitK] at ih
        have hne : ¬ (Lib.index l [c] == -1) = true := by
          intro h
          have := Lib.count_miss (beq_iff_eq.1 h)
          omega
        rw [if_neg hne] at ih
        have hidx : Lib.index (b :: l) [c] = Lib.index l [c] + 1 := by
          rw [Lib.index]
          have hp : ¬ ([c].isPrefixOf (b :: l)) = true := by simp [List.isPrefixOf]; exact fun h => e h.symm
          rw [if_neg hp, if_neg hne]
        have hge := Lib.index_ge l [c]
        have hn2 : Lib.index l [c] ≠ -1 := fun h => hne (beq_iff_eq.2 h)
        obtain ⟨i, hi⟩ : ∃ i : Nat, Lib.index l [c] = (i : Int) := ⟨(Lib.index l [c]).toNat, by omega⟩
        rw [Lib.splitK, hidx, hi]
        rw [hi] at ih
        have hn3 : ¬ (((i : Int) + 1) == -1) = true := by simp; omega
        rw [if_neg hn3, cutL, if_neg e, ← ih]
        have e1 : ((i : Int) + 1).toNat = i + 1 := by omega
        simp [e1]
end Go.Proofs.Ytmioclcipdifpaa
