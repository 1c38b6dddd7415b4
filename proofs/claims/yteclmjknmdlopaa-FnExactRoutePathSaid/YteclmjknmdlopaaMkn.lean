/-
Nets that a law marks: only the two rows are written. No premise beyond those named.
-/
import Derived.Test.YteclmjknmdlopaaLri
import Derived.Test.YteclmjknmdlopaaNet
import Derived.Deep.AppendLies
namespace Go.Proofs.Yteclmjknmdlopaa
open Go Go.RowKit
set_option maxRecDepth 100000

set_option maxHeartbeats 1000000 in
theorem markP_any {g n cap base : Nat} {cur : List Value} {k : Int} (w : World) (ho : w.ownsRow base 50 2 (.slice (some ⟨g, 0, none⟩) n cap) n cur) (hl : n ≤ 1048576) (hk0 : 0 ≤ k) (hk1 : k ≤ 8388608) : Calls Try.prog 28 #[.slice (some ⟨g, 0, none⟩) n cap, .int .i64 k] w (fun e w' => e = .returned (.int .i64 (k + 2 * (n : Int))) ∧ w.grownBy w' (some g)) := by
  have HO := Hf.mk ho
  clear ho
  go_enter Try.func28, Try.ntmps28
  go_wp2
  go_loopw [5, 1] (fun i kk wr => ∃ (m : Nat) (cu : List Value), m ≤ n ∧ i = .int .i64 m ∧ kk = .int .i64 (k + 2 * (m : Int)) ∧ Hf (wr.ownsRow base 50 2 (.slice (some ⟨g, 0, none⟩) n cap) n cu) ∧ Hf (w.grownBy wr (some g))) (fun i _ _ => n - (intOf i).toNat)
  case atStart => exact ⟨0, _, by omega, rfl, i_ext2 (by omega), HO, ⟨gb_refl _ _⟩⟩
  case round =>
    obtain ⟨m, cu, hm, rfl, rfl, hown, hgb⟩ := hrel
    by_cases hlt : m < n
    · have hlen : cu.length = n * 2 := hown.out.1
      obtain ⟨old0, hold0⟩ : ∃ old, cu[m * 2]? = some old := ⟨_, List.getElem?_eq_getElem (by omega)⟩
      obtain ⟨old1, hold1⟩ : ∃ old, cu[m * 2 + 1]? = some old := ⟨_, List.getElem?_eq_getElem (by omega)⟩
      have d0 : wr.cell? ⟨g, m * 2, none⟩ = some old0 := (hown.out.cellAt (m * 2) (by omega)).trans hold0
      have d1 : wr.cell? ⟨g, m * 2 + 1, none⟩ = some old1 := (hown.out.cellAt (m * 2 + 1) (by omega)).trans hold1
      have z0 := hown.out.frozenAt (m * 2)
      have z1 := hown.out.frozenAt (m * 2 + 1)
      clear hold0 hold1
      go_wp2
      go_roundw
      case rel => exact ⟨m + 1, _, by omega, i_ext2 (by omega), i_ext2 (by omega), ⟨((hown.out.stored (m * 2) _).1.stored (m * 2 + 1) _).1⟩, ⟨gb_trans hgb.out (gb_trans (hown.out.stored (m * 2) _).2 ((hown.out.stored (m * 2) _).1.stored (m * 2 + 1) _).2)⟩⟩
      case measure => simp [intOf]; omega
    · obtain rfl : m = n := by omega
      go_wp2
      go_ret
      exact ⟨rfl, hgb.out⟩
set_option maxHeartbeats 1000000 in
theorem markR_any {g n cap base : Nat} {cur : List Value} {k : Int} (w : World) (ho : w.ownsRow base 76 3 (.slice (some ⟨g, 0, none⟩) n cap) n cur) (hl : n ≤ 1048576) (hk0 : 0 ≤ k) (hk1 : k ≤ 8388608) : Calls Try.prog 34 #[.slice (some ⟨g, 0, none⟩) n cap, .int .i64 k] w (fun e w' => e = .returned (.int .i64 (k + 3 * (n : Int))) ∧ w.grownBy w' (some g)) := by
  have HO := Hf.mk ho
  clear ho
  go_enter Try.func34, Try.ntmps34
  go_wp2
  go_loopw [5, 1] (fun i kk wr => ∃ (m : Nat) (cu : List Value), m ≤ n ∧ i = .int .i64 m ∧ kk = .int .i64 (k + 3 * (m : Int)) ∧ Hf (wr.ownsRow base 76 3 (.slice (some ⟨g, 0, none⟩) n cap) n cu) ∧ Hf (w.grownBy wr (some g))) (fun i _ _ => n - (intOf i).toNat)
  case atStart => exact ⟨0, _, by omega, rfl, i_ext2 (by omega), HO, ⟨gb_refl _ _⟩⟩
  case round =>
    obtain ⟨m, cu, hm, rfl, rfl, hown, hgb⟩ := hrel
    by_cases hlt : m < n
    · have hlen : cu.length = n * 3 := hown.out.1
      obtain ⟨old0, hold0⟩ : ∃ old, cu[m * 3]? = some old := ⟨_, List.getElem?_eq_getElem (by omega)⟩
      obtain ⟨old1, hold1⟩ : ∃ old, cu[m * 3 + 1]? = some old := ⟨_, List.getElem?_eq_getElem (by omega)⟩
      obtain ⟨old2, hold2⟩ : ∃ old, cu[m * 3 + 2]? = some old := ⟨_, List.getElem?_eq_getElem (by omega)⟩
      have d0 : wr.cell? ⟨g, m * 3, none⟩ = some old0 := (hown.out.cellAt (m * 3) (by omega)).trans hold0
      have d1 : wr.cell? ⟨g, m * 3 + 1, none⟩ = some old1 := (hown.out.cellAt (m * 3 + 1) (by omega)).trans hold1
      have d2 : wr.cell? ⟨g, m * 3 + 2, none⟩ = some old2 := (hown.out.cellAt (m * 3 + 2) (by omega)).trans hold2
      have z0 := hown.out.frozenAt (m * 3)
      have z1 := hown.out.frozenAt (m * 3 + 1)
      have z2 := hown.out.frozenAt (m * 3 + 2)
      clear hold0 hold1 hold2
      go_wp2
      go_roundw
      case rel => exact ⟨m + 1, _, by omega, i_ext2 (by omega), i_ext2 (by omega), ⟨(((hown.out.stored (m * 3) _).1.stored (m * 3 + 1) _).1.stored (m * 3 + 2) _).1⟩, ⟨gb_trans hgb.out (gb_trans (hown.out.stored (m * 3) _).2 (gb_trans ((hown.out.stored (m * 3) _).1.stored (m * 3 + 1) _).2 (((hown.out.stored (m * 3) _).1.stored (m * 3 + 1) _).1.stored (m * 3 + 2) _).2))⟩⟩
      case measure => simp [intOf]; omega
    · obtain rfl : m = n := by omega
      go_wp2
      go_ret
      exact ⟨rfl, hgb.out⟩
/-- 'what lies in neither of these two blocks is kept' -/
structure Gb2 (a b : Nat) (w w' : World) : Prop where
  os : w'.os = w.os
  tape : w'.tape = w.tape
  output : w'.output = w.output
  size : w.heap.size ≤ w'.heap.size
  block : ∀ k, k < w.heap.size → k ≠ a → k ≠ b → w'.heap[k]? = w.heap[k]?
theorem Gb2.own {w w' : World} {a b base : Nat} {e : TypeId} {size n : Nat} {v : Value} {xs : List Value} (K : Gb2 a b w w') (h : w.ownsRow base e size v n xs) (h1 : v.ownBlock ≠ some a) (h2 : v.ownBlock ≠ some b) : w'.ownsRow base e size v n xs := by
  obtain ⟨hx, h3⟩ := h
  refine ⟨hx, ?_⟩
  rcases h3 with h0 | ⟨g, cap, cur, hv, hg, hh, hr⟩
  · exact .inl h0
  · refine .inr ⟨g, cap, cur, hv, hg, (K.block g (Array.getElem?_eq_some_iff.1 hh).1 (fun e => h1 ?_) (fun e => h2 ?_)).trans hh, hr⟩
    · rw [hv, e]; rfl
    · rw [hv, e]; rfl
theorem Gb2.below {B a b : Nat} {w0 w w' : World} (K : Gb2 a b w w') (h : Below B w0 w) (ha : B ≤ a) (hb : B ≤ b) (hB : B ≤ w.heap.size) : Below B w0 w' :=
  ⟨K.os.trans h.os, K.tape.trans h.tape, K.output.trans h.output, Nat.le_trans h.size K.size, fun k hk => (K.block k (by omega) (by omega) (by omega)).trans (h.block k hk)⟩
theorem Gb2.at {w w' : World} {a b k o : Nat} {v : Value} (K : Gb2 a b w w') (h : At w ⟨k, o, none⟩ v) (h1 : k ≠ a) (h2 : k ≠ b) : At w' ⟨k, o, none⟩ v :=
  have hb := K.block k h.lt h1 h2
  ⟨(World.cell?_of_block (a := ⟨k, o, none⟩) hb).trans h.cell, (World.frozen?_of_block (a := ⟨k, o, none⟩) hb).trans h.free, Nat.lt_of_lt_of_le h.lt K.size⟩
theorem Gb2.pre {w0 w w' : World} {a b : Nat} (K : Gb2 a b w w') (h : Below w0.heap.size w0 w) : Gb2 a b w0 w' :=
  ⟨K.os.trans h.os, K.tape.trans h.tape, K.output.trans h.output, Nat.le_trans h.size K.size, fun k hk h1 h2 => (K.block k (Nat.lt_of_lt_of_le hk h.size) h1 h2).trans (h.block k hk)⟩
set_option maxHeartbeats 1000000 in
theorem markNet_any {g1 g2 n m b1 b2 : Nat} {c1 c2 : List Value} {k : Int} (w : World) (o1 : w.ownsRow b1 50 2 (sl2 g1 n n) n c1) (o2 : w.ownsRow b2 76 3 (sl2 g2 m m) m c2) (hne : g1 ≠ g2) (hl : n ≤ 1048576) (hl2 : m ≤ 1048576) (hk0 : 0 ≤ k) (hk1 : k ≤ 2097152) : Calls Try.prog 15 #[nt (some ⟨g1, 0, none⟩) n n (some ⟨g2, 0, none⟩) m m, .int .i64 k] w (fun e w' => e = .returned (.int .i64 (k + 2 * (n : Int) + 3 * (m : Int))) ∧ Gb2 g1 g2 w w') := by
  have O1 := Hf.mk o1
  have O2 := Hf.mk o2
  have l1 : g1 < w.heap.size := (own_lt o1).2
  have l2 : g2 < w.heap.size := (own_lt o2).2
  clear o1 o2
  have n1 : w.heap.size ≠ g1 := by omega
  have n2 : w.heap.size ≠ g2 := by omega
  go_enter Try.func15, Try.ntmps15
  go_wp2_with fail
  refine (markP_any _ (iown_below O1.out (by repeat (first | exact Below.refl _ _ | with_reducible assumption | refine Below.drews ?_ | refine Below.drew ?_ | refine Below.alloc ?_ (by simp <;> omega) _ | refine Below.setCell ?_ (by simp <;> omega) _))) hl hk0 (by omega)).mono ?_
  rintro e w1 ⟨rfl, h1⟩
  have G1 := Hf.mk h1
  have q1 : w1.cell? ⟨w.heap.size, 1, none⟩ = some (.slice (some ⟨g2, 0, none⟩) m m) := (h1.cell_far ⟨w.heap.size, 1, none⟩ (by simp) (fun e => by have := Option.some.inj e; simp at this; omega)).trans (by simp [go_sem])
  clear h1
  go_wp2_with fail
  refine (markR_any _ (own_gb (iown_below O2.out (by repeat (first | exact Below.refl _ _ | with_reducible assumption | refine Below.drews ?_ | refine Below.drew ?_ | refine Below.alloc ?_ (by simp <;> omega) _ | refine Below.setCell ?_ (by simp <;> omega) _))) G1.out (Ne.symm hne)) hl2 (by omega) (by omega)).mono ?_
  rintro e w2 ⟨rfl, h2⟩
  have G2 := Hf.mk h2
  clear h2
  go_wp2
  go_ret
  refine ⟨rfl, ⟨?_, ?_, ?_, ?_, ?_⟩⟩
  · exact G2.out.os.trans (G1.out.os.trans rfl)
  · exact G2.out.tape.trans (G1.out.tape.trans rfl)
  · exact G2.out.output.trans (G1.out.output.trans rfl)
  · exact Nat.le_trans (by simp) (Nat.le_trans G1.out.size G2.out.size)
  · intro j hj h1 h2
    have s1 := G1.out.size
    simp at s1
    rw [G2.out.block j (by omega) (fun e => h2 (Option.some.inj e)), G1.out.block j (by simp; omega) (fun e => h1 (Option.some.inj e))]
    exact (Below.alloc (Below.refl w.heap.size w) (Nat.le_refl _) _).block j hj
end Go.Proofs.Yteclmjknmdlopaa
