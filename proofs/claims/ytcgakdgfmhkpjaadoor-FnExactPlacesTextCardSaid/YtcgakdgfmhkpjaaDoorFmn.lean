/-
Hexadecimal digits without zeros ahead, and those with zeros ahead. No walk.
-/
import Derived.Test.YtcgakdgfmhkpjaaDoorHex
namespace Go.Proofs.YtcgakdgfmhkpjaaDoor
open Go Go.RowKit
set_option maxRecDepth 100000

def hexD (a : Nat) : List UInt8 := if _h : a < 16 then [hx a] else hexD (a / 16) ++ [hx (a % 16)]
decreasing_by omega
def hexK (k N : Nat) : List UInt8 := (List.range k).map fun j => hx (N / 16 ^ (k - 1 - j) % 16)
theorem hexK_up (k N : Nat) : hexK (k + 1) N = hexK k (N / 16) ++ [hx (N % 16)] := by
  unfold hexK
  rw [List.range_succ, List.map_append]
  congr 1
  · apply List.map_congr_left
    intro j hj
    rw [List.mem_range] at hj
    rw [show k + 1 - 1 - j = (k - 1 - j) + 1 by omega, Nat.pow_succ, Nat.mul_comm, ← Nat.div_div_eq_div_mul]
  · simp
theorem hexK_zero (k : Nat) : hexK k 0 = List.replicate k 48 := by
  induction k with
  | zero => rfl
  | succ k ih => rw [hexK_up, Nat.zero_div, ih, List.replicate_succ']; rfl
theorem hexD_one {a : Nat} (h : a < 16) : hexD a = [hx a] := by rw [hexD, dif_pos h]
theorem hexD_more {a : Nat} (h : ¬ a < 16) : hexD a = hexD (a / 16) ++ [hx (a % 16)] := by rw [hexD, dif_neg h]
theorem hexD_pad : ∀ k N, N < 16 ^ (k + 1) → (hexD N).length ≤ k + 1 ∧ List.replicate (k + 1 - (hexD N).length) 48 ++ hexD N = hexK (k + 1) N := by
  intro k
  induction k with
  | zero =>
    intro N h
    have h2 : N < 16 := by simpa using h
    rw [hexD_one h2]
    refine ⟨Nat.le_refl _, ?_⟩
    rw [hexK_up, Nat.mod_eq_of_lt h2]
    rfl
  | succ k ih =>
    intro N h
    by_cases h2 : N < 16
    · rw [hexD_one h2]
      refine ⟨by simp, ?_⟩
      rw [hexK_up, Nat.div_eq_of_lt h2, hexK_zero, Nat.mod_eq_of_lt h2]
      simp
    · have h3 : N / 16 < 16 ^ (k + 1) := by rw [Nat.pow_succ] at h; omega
      obtain ⟨h4, h5⟩ := ih _ h3
      rw [hexD_more h2, List.length_append, List.length_singleton]
      refine ⟨by omega, ?_⟩
      rw [hexK_up, ← h5, ← List.append_assoc, show k + 1 + 1 - ((hexD (N / 16)).length + 1) = k + 1 - (hexD (N / 16)).length by omega]
theorem hexD_8 {N : Nat} (h : N < 4294967296) : (hexD N).length ≤ 8 ∧ List.replicate (8 - (hexD N).length) 48 ++ hexD N = hexL N := hexD_pad 7 N h
theorem hexD_pos (N : Nat) : 0 < (hexD N).length := by
  unfold hexD
  split <;> simp
/-- How far the loop has come: u is left of N, out is written. -/
structure HexAt (N u : Nat) (out : List UInt8) : Prop where
  le : u ≤ N
  say : hexD N = hexD u ++ out ∨ out = []
  one : out = [] → u = N
theorem HexAt.first (N : Nat) : HexAt N N [] := ⟨Nat.le_refl _, .inr rfl, fun _ => rfl⟩
theorem HexAt.eq {N u : Nat} {out : List UInt8} (h : HexAt N u out) : hexD N = hexD u ++ out := by
  rcases h.say with h1 | h1
  · exact h1
  · rw [h.one h1, h1]; simp
theorem HexAt.step {N u : Nat} {out : List UInt8} (h : HexAt N u out) (hu : ¬ u < 16) : HexAt N (u / 16) (hx (u % 16) :: out) :=
  ⟨by have := h.le; omega, .inl (by rw [h.eq, hexD_more hu]; simp), fun e => by cases e⟩
theorem HexAt.last {N u : Nat} {out : List UInt8} (h : HexAt N u out) (hu : u < 16) : hexD N = hx u :: out := by rw [h.eq, hexD_one hu]; rfl
theorem HexAt.len {N u : Nat} {out : List UInt8} (h : HexAt N u out) (hN : N < 4294967296) : out.length < 8 := by
  have h1 := (hexD_8 hN).1
  rw [h.eq, List.length_append] at h1
  have := hexD_pos u
  omega
theorem u64_m15 (n : Int) : bits .and .u64 n 15 = n % 16 := by
  have h1 : (BitVec.ofInt 64 15).toNat = 2 ^ 4 - 1 := by decide
  have key : (BitVec.ofInt 64 n &&& BitVec.ofInt 64 15).toNat = (n % ((2 ^ 64 : Nat) : Int)).toNat % 2 ^ 4 := by
    rw [BitVec.toNat_and, BitVec.toNat_ofInt, h1, Nat.and_two_pow_sub_one_eq_mod]
  show IntKind.u64.wrap ((BitVec.ofInt 64 n &&& BitVec.ofInt 64 15).toNat : Nat) = n % 16
  rw [key]
  have h2 : IntKind.u64.wrap ((((n % ((2 ^ 64 : Nat) : Int)).toNat % 2 ^ 4 : Nat)) : Int) = (((n % ((2 ^ 64 : Nat) : Int)).toNat % 2 ^ 4 : Nat) : Int) % 18446744073709551616 := rfl
  rw [h2]
  omega
/-- The end of an array of 65 bytes. -/
structure HxA (w : World) (g i : Nat) (out : List UInt8) : Prop where
  all : ∀ j, j < 65 → ∃ v, w.cell? ⟨g, j, none⟩ = some v
  free : ∀ j, w.frozen? ⟨g, j, none⟩ = false
  say : ∀ j, j < out.length → w.cell? ⟨g, i + j, none⟩ = some (.int .u8 ((out.getD j 0).toNat : Int))
theorem HxA.put {w : World} {g i : Nat} {out : List UInt8} (h : HxA w g (i + 1) out) (hi : i < 65) (b : UInt8) : HxA (w.setCell ⟨g, i, none⟩ (.int .u8 (b.toNat : Int))) g i (b :: out) := by
  refine ⟨fun j hj => ?_, fun j => by rw [World.frozen?_setCell]; exact h.free j, fun j hj => ?_⟩
  · by_cases e : j = i
    · subst e
      obtain ⟨v, hv⟩ := h.all j hj
      exact ⟨_, World.cell?_setCell_same _ _ _ hv⟩
    · obtain ⟨v, hv⟩ := h.all j hj
      exact ⟨v, by rw [World.cell?_setCell_other _ _ _ _ (by intro e2; injection e2; omega)]; exact hv⟩
  · cases j with
    | zero =>
      obtain ⟨v, hv⟩ := h.all i hi
      exact World.cell?_setCell_same _ _ _ hv
    | succ j =>
      rw [World.cell?_setCell_other _ _ _ _ (by intro e2; injection e2; omega)]
      have := h.say j (by simpa using hj)
      rw [show i + (j + 1) = i + 1 + j by omega]
      simpa using this
end Go.Proofs.YtcgakdgfmhkpjaaDoor
