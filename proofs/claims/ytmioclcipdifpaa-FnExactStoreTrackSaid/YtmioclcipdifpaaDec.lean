/-
The model's spec.l01Dec: the decimal text of a number, as the library's own. No premise beyond the number's size.
-/
import Derived.Test.YtmioclcipdifpaaCut
import Derived.Laws.BytesArg
import Derived.Lib.ItoaLen
import Derived.Lib.LazyBuf
namespace Go.Proofs.Ytmioclcipdifpaa
open Go Go.RowKit
set_option maxRecDepth 100000

/-- Bytes, as values. -/
def bRow (l : List UInt8) : List Value := l.map fun b => .int .u8 (b.toNat : Int)
theorem bRow_len (l : List UInt8) : (bRow l).length = l.length := by simp [bRow]
theorem bRow_cells {l : List UInt8} : ∀ u ∈ bRow l, u.oneCell' = true := by
  intro u hu
  unfold bRow at hu
  rw [List.mem_map] at hu
  obtain ⟨j, _, rfl⟩ := hu
  rfl
theorem bRow_cons {b : UInt8} {l : List UInt8} : [.int .u8 (b.toNat : Int)] ++ bRow l = bRow (b :: l) := rfl
/-- Bytes that lie in a block, told by where a slice points. -/
def oneL : Value → Nat
  | .slice _ 0 _ => 1
  | _ => 0
def BRw (w : World) (a : Option Addr) (l : List UInt8) : Prop := ∀ j, j < l.length → ∃ p, a = some p ∧ w.cell? (p.add j) = some (.int .u8 ((l.getD j 0).toNat : Int))
theorem BRw.below {w w' : World} {a : Option Addr} {l : List UInt8} (h : BRw w a l) (b : Below w.heap.size w w') : BRw w' a l := fun j hj => by
  obtain ⟨p, hp, hc⟩ := h j hj
  exact ⟨p, hp, Below.keep b hc⟩
/-- How far the loop has come: a is left of A, out is cut off. -/
structure DecAt (A a : Nat) (out : List UInt8) : Prop where
  say : (out = [] ∧ a = A) ∨ (out ≠ [] ∧ a = 0 ∧ out = Lib.decDigits A) ∨ (out ≠ [] ∧ a ≠ 0 ∧ Lib.decDigits A = Lib.decDigits a ++ out)
theorem DecAt.step {A a : Nat} {out : List UInt8} (h : DecAt A a out) (hg : out = [] ∨ a ≠ 0) : DecAt A (a / 10) (UInt8.ofNat (48 + a % 10) :: out) := by
  have key : Lib.decDigits A = Lib.decDigits a ++ out → DecAt A (a / 10) (UInt8.ofNat (48 + a % 10) :: out) := by
    intro he
    refine ⟨.inr ?_⟩
    by_cases h10 : a < 10
    · refine .inl ⟨by simp, by omega, ?_⟩
      rw [he, Lib.decDigits_one h10, show a % 10 = a by omega]; rfl
    · refine .inr ⟨by simp, by omega, ?_⟩
      rw [he, Lib.decDigits, dif_neg h10, List.append_assoc]; rfl
  rcases h.say with ⟨h1, h2⟩ | ⟨h1, h2, _⟩ | ⟨_, _, h3⟩
  · subst h1; subst h2; exact key (by simp)
  · rcases hg with hg | hg
    · exact absurd hg h1
    · exact absurd h2 hg
  · exact key h3
theorem DecAt.len {A a : Nat} {out : List UInt8} (h : DecAt A a out) : out.length ≤ (Lib.decDigits A).length := by
  rcases h.say with ⟨h1, _⟩ | ⟨_, _, h3⟩ | ⟨_, _, h3⟩
  · rw [h1]; simp
  · rw [h3]; exact Nat.le_refl _
  · rw [h3]; simp
theorem DecAt.done {A : Nat} {out : List UInt8} (h : DecAt A 0 out) (hn : out ≠ []) : out = Lib.decDigits A := by
  rcases h.say with ⟨h1, _⟩ | ⟨_, _, h3⟩ | ⟨_, h2, _⟩
  · exact absurd h1 hn
  · exact h3
  · exact absurd rfl h2
theorem dec_len {n : Int} (h0 : -9223372036854775808 ≤ n) (h1 : n ≤ 9223372036854775807) : (Lib.decDigits n.natAbs).length ≤ 21 := by
  have := Lib.itoa_length_le n h0 h1
  unfold Lib.itoa at this
  split at this
  · simp at this; omega
  · rw [show n.natAbs = n.toNat by omega]; exact this
theorem itoa_neg {n : Int} (h : n < 0) : Lib.itoa n = 45 :: Lib.decDigits n.natAbs := by unfold Lib.itoa; rw [if_pos h]
theorem itoa_pos {n : Int} (h : ¬ n < 0) : Lib.itoa n = Lib.decDigits n.natAbs := by unfold Lib.itoa; rw [if_neg h, show n.natAbs = n.toNat by omega]
theorem by_dig {d : Nat} (h : d < 10) : ((UInt8.ofNat (48 + d)).toNat : Int) = 48 + (d : Int) := by
  rw [UInt8.toNat_ofNat']; omega
theorem tmod_abs (r : Int) : (r.tmod 10).natAbs = r.natAbs % 10 := by
  rw [Int.natAbs_tmod]; rfl
theorem tdiv_abs (r : Int) : (r.tdiv 10).natAbs = r.natAbs / 10 := by
  rw [Int.natAbs_tdiv]; rfl
/-- Bytes from a block's head on. -/
def BAt (w : World) (g : Nat) (l : List UInt8) : Prop := ∀ j, j < l.length → w.cell? ⟨g, j, none⟩ = some (.int .u8 ((l.getD j 0).toNat : Int))
theorem BAt.below {w w' : World} {g : Nat} {l : List UInt8} (h : BAt w g l) (b : Below w.heap.size w w') : BAt w' g l := fun j hj => Below.keep b (h j hj)
theorem BAt.src {w : World} {g : Nat} {l : List UInt8} (h : BAt w g l) : ∀ j u, (bRow l)[j]? = some u → w.cell? ((⟨g, 0, none⟩ : Addr).add j) = some u := by
  intro j u hj
  have hjl : j < l.length := by
    by_cases e : j < l.length
    · exact e
    · rw [List.getElem?_eq_none (by rw [bRow_len]; omega)] at hj; cases hj
  rw [add_at, h j hjl, ← hj]
  unfold bRow
  rw [List.getElem?_map, List.getD, List.getElem?_eq_getElem hjl]
  rfl
theorem bat_own {w : World} {base g n cap : Nat} {e : TypeId} {l : List UInt8} (h : w.ownsRow base e 1 (.slice (some ⟨g, 0, none⟩) n cap) n (bRow l)) : BAt w g l := by
  intro j hj
  have hl : n = l.length := by have := h.1; rw [bRow_len] at this; omega
  rw [h.cellAt j (by omega)]
  unfold bRow
  rw [List.getElem?_map, List.getD, List.getElem?_eq_getElem hj]
  rfl
theorem dec_form {w : World} {base n : Nat} {e : TypeId} {v : Value} {xs : List Value} (h : w.ownsRow base e 1 v n xs) (h0 : 0 < n) : ∃ g cap, v = .slice (some ⟨g, 0, none⟩) n cap ∧ base ≤ g ∧ g < w.heap.size := by
  obtain ⟨_, h2⟩ := h
  rcases h2 with ⟨_, hz⟩ | ⟨g, cap, cur, hv, hg, hh, hn, hc, _⟩
  · omega
  · exact ⟨g, cap, hv, hg, (Array.getElem?_eq_some_iff.1 hh).1⟩
theorem l00In_any (n a b : Int) (w : World) : Calls Try.prog 41 #[.int .i64 n, .int .i64 a, .int .i64 b] w (RB (decide (a ≤ n ∧ n ≤ b)) w) := by
  go_enter Try.func41, Try.ntmps41
  go_wp2 <;> (go_ret; exact RB.any (by simp; try omega) (by repeat (first | exact Drew.refl _ | refine Drew.more ?_)))
end Go.Proofs.Ytmioclcipdifpaa
