/-
The model's spec.l01Dec: the decimal text of a number, as the library's own. No premise beyond the number's size.
-/
import Derived.Test.YtcgakdgfmhkpjaaDoorCut
import Derived.Laws.BytesArg
import Derived.Lib.ItoaLen
import Derived.Lib.LazyBuf
namespace Go.Proofs.YtcgakdgfmhkpjaaDoor
open Go Go.RowKit
set_option maxRecDepth 100000

/-- Bytes, as values. -/
def bRow (l : List UInt8) : List Value := l.map fun b => .int .u8 (b.toNat : Int)
theorem bRow_len (l : List UInt8) : (bRow l).length = l.length := by simp [bRow]
theorem bRow_cells {l : List UInt8} : ∀ u ∈ bRow l, u.oneCell' = true := by
  intro u hu
  unfold bRow at hu
  rw [List.mem_map] at hu
  obtain ⟨j, _, rfl⟩ := hu
  rfl
theorem bRow_cons {b : UInt8} {l : List UInt8} : [.int .u8 (b.toNat : Int)] ++ bRow l = bRow (b :: l) := rfl
/-- Bytes that lie in a block, told by where a slice points. -/
def oneL : Value → Nat
  | .slice _ 0 _ => 1
  | _ => 0
def BRw (w : World) (a : Option Addr) (l : List UInt8) : Prop := ∀ j, j < l.length → ∃ p, a = some p ∧ w.cell? (p.add j) = some (.int .u8 ((l.getD j 0).toNat : Int))
theorem BRw.below {w w' : World} {a : Option Addr} {l : List UInt8} (h : BRw w a l) (b : Below w.heap.size w w') : BRw w' a l := fun j hj => by
  obtain ⟨p, hp, hc⟩ := h j hj
  exact ⟨p, hp, Below.keep b hc⟩
/-- How far the loop has come: a is left of A, out is cut off. -/
structure DecAt (A a : Nat) (out : List UInt8) : Prop where
  say : (out = [] ∧ a = A) ∨ (out ≠ [] ∧ a = 0 ∧ out = Lib.decDigits A) ∨ (out ≠ [] ∧ a ≠ 0 ∧ Lib.decDigits A = Lib.decDigits a ++ out)
theorem DecAt.step {A a : Nat} {out : List UInt8} (h : DecAt A a out) (hg : out = [] ∨ a ≠ 0) : DecAt A (a / 10) (UInt8.ofNat (48 + a % 10) :: out) := by
  have key : Lib.decDigits A = Lib.decDigits a ++ out → DecAt A (a / 10) (UInt8.ofNat (48 + a % 10) :: out) := by
    intro he
    refine ⟨.inr ?_⟩
    by_cases h10 : a < 10
    · refine .inl ⟨by simp, by omega, ?_⟩
      rw [he, Lib.decDigits_one h10, show a % 10 = a by omega]; rfl
    · refine .inr ⟨by simp, by omega, ?_⟩
      rw [he, Lib.decDigits, dif_neg h10, List.append_assoc]; rfl
  rcases h.say with ⟨h1, h2⟩ | ⟨h1, h2, _⟩ | ⟨_, _, h3⟩
  · subst h1; subst h2; exact key (by simp)
  · rcases hg with hg | hg
    · exact absurd hg h1
    · exact absurd h2 hg
  · exact key h3
theorem DecAt.len {A a : Nat} {out : List UInt8} (h : DecAt A a out) : out.length ≤ (Lib.decDigits A).length := by
  rcases h.say with ⟨h1, _⟩ | ⟨_, _, h3⟩ | ⟨_, _, h3⟩
  · rw [h1]; simp
  · rw [h3]; exact Nat.le_refl _
  · rw [h3]; simp
theorem DecAt.done {A : Nat} {out : List UInt8} (h : DecAt A 0 out) (hn : out ≠ []) : out = Lib.decDigits A := by
  rcases h.say with ⟨h1, _⟩ | ⟨_, _, h3⟩ | ⟨_, h2, _⟩
  · exact absurd h1 hn
  · exact h3
  · exact absurd rfl h2
theorem dec_len {n : Int} (h0 : -9223372036854775808 ≤ n) (h1 : n ≤ 9223372036854775807) : (Lib.decDigits n.natAbs).length ≤ 21 := by
  have := Lib.itoa_length_le n h0 h1
  unfold Lib.itoa at this
  split at this
  · simp at this; omega
  · rw [show n.natAbs = n.toNat by omega]; exact this
theorem itoa_neg {n : Int} (h : n < 0) : Lib.itoa n = 45 :: Lib.decDigits n.natAbs := by unfold Lib.itoa; rw [if_pos h]
theorem itoa_pos {n : Int} (h : ¬ n < 0) : Lib.itoa n = Lib.decDigits n.natAbs := by unfold Lib.itoa; rw [if_neg h, show n.natAbs = n.toNat by omega]
theorem by_dig {d : Nat} (h : d < 10) : ((UInt8.ofNat (48 + d)).toNat : Int) = 48 + (d : Int) := by
  rw [UInt8.toNat_ofNat']; omega
theorem tmod_abs (r : Int) : (r.tmod 10).natAbs = r.natAbs % 10 := by
  rw [Int.natAbs_tmod]; rfl
theorem tdiv_abs (r : Int) : (r.tdiv 10).natAbs = r.natAbs / 10 := by
  rw [Int.natAbs_tdiv]; rfl
/-- Bytes from a block's head on. -/
def BAt (w : World) (g : Nat) (l : List UInt8) : Prop := ∀ j, j < l.length → w.cell? ⟨g, j, none⟩ = some (.int .u8 ((l.getD j 0).toNat : Int))
theorem BAt.below {w w' : World} {g : Nat} {l : List UInt8} (h : BAt w g l) (b : Below w.heap.size w w') : BAt w' g l := fun j hj => Below.keep b (h j hj)
theorem BAt.src {w : World} {g : Nat} {l : List UInt8} (h : BAt w g l) : ∀ j u, (bRow l)[j]? = some u → w.cell? ((⟨g, 0, none⟩ : Addr).add j) = some u := by
  intro j u hj
  have hjl : j < l.length := by
    by_cases e : j < l.length
    · exact e
    · rw [List.getElem?_eq_none (by rw [bRow_len]; omega)] at hj; cases hj
  rw [add_at, h j hjl, ← hj]
  unfold bRow
  rw [List.getElem?_map, List.getD, List.getElem?_eq_getElem hjl]
  rfl
theorem bat_own {w : World} {base g n cap : Nat} {e : TypeId} {l : List UInt8} (h : w.ownsRow base e 1 (.slice (some ⟨g, 0, none⟩) n cap) n (bRow l)) : BAt w g l := by
  intro j hj
  have hl : n = l.length := by have := h.1; rw [bRow_len] at this; omega
  rw [h.cellAt j (by omega)]
  unfold bRow
  rw [List.getElem?_map, List.getD, List.getElem?_eq_getElem hj]
  rfl
theorem dec_form {w : World} {base n : Nat} {e : TypeId} {v : Value} {xs : List Value} (h : w.ownsRow base e 1 v n xs) (h0 : 0 < n) : ∃ g cap, v = .slice (some ⟨g, 0, none⟩) n cap ∧ base ≤ g ∧ g < w.heap.size := by
  obtain ⟨_, h2⟩ := h
  rcases h2 with ⟨_, hz⟩ | ⟨g, cap, cur, hv, hg, hh, hn, hc, _⟩
  · omega
  · exact ⟨g, cap, hv, hg, (Array.getElem?_eq_some_iff.1 hh).1⟩
theorem conv_b {w : World} {g n cap : Nat} {l : List UInt8} (h : BAt w g l) (hn : l.length = n) : (convert 89 9 (.slice (some ⟨g, 0, none⟩) n cap)).run Tryd.prog w = .ok (.string ⟨l.toArray⟩) w := by
  have := run_convert_bytes_arg (P := Tryd.prog) w 89 5 Tryd.underlying89 Tryd.underlying5 g 0 n cap (l.map fun b => (b.toNat : Int)) (by rw [List.length_map]; exact hn) (fun i hi => by
    rw [Nat.zero_add, h i (by omega)]
    have hi' : i < l.length := by omega
    simp [List.getD, List.getElem?_map, List.getElem?_eq_getElem hi']) 9 Tryd.underlying9
  rw [this, Lib.Lz.strOfNums_map]
set_option maxHeartbeats 2000000 in
theorem l01Dec_any {n : Int} (h0 : -9223372036854775808 ≤ n) (h1 : n ≤ 9223372036854775807) (w : World) : Calls Tryd.prog 100 #[.int .i64 n] w (RS (.string ⟨(Lib.itoa n).toArray⟩) w) := by
  obtain ⟨i0, hi0, hz0, hz1, hz2⟩ := info_parts (P := Tryd.prog) (e := 5) (z := .int .u8 0) (size := 1) (bytes := 1) (by kernel_rfl)
  have hlen := dec_len h0 h1
  go_enter Tryd.func100, Tryd.ntmps100
  go_wp2
  go_loopw [3, 4] (fun v3 v4 wr => ∃ (r : Int) (out : List UInt8) (g cap : Nat), v3 = .slice (some ⟨g, 0, none⟩) out.length cap ∧ v4 = .int .i64 r ∧ -9223372036854775808 ≤ r ∧ r ≤ 9223372036854775807 ∧ Hf (DecAt n.natAbs r.natAbs out) ∧ Hf (BAt wr g out) ∧ Hf (Below w.heap.size w wr)) (fun v3 v4 _ => 2 * (intOf v4).natAbs + oneL v3)
  case atStart => exact ⟨n, [], _, _, rfl, rfl, h0, h1, ⟨⟨.inl ⟨rfl, rfl⟩⟩⟩, ⟨fun j hj => by simp at hj⟩, ⟨(by repeat (first | exact Below.refl _ _ | with_reducible assumption | refine Below.drews ?_ | refine Below.drew ?_ | refine Below.alloc ?_ (by simp <;> omega) _ | refine Below.setCell ?_ (by simp <;> omega) _))⟩⟩
  case round =>
    obtain ⟨r, out, g, cap, rfl, rfl, hr0, hr1, hD, hO, hB⟩ := hrel
    obtain ⟨W1, hW1⟩ : ∃ W1, W1 = wr := ⟨_, rfl⟩
    subst hW1
    have hsz := hB.out.size
    have hol := hD.out.len
    by_cases hc : out = [] ∨ r ≠ 0
    · have HN := Hf.mk (hD.out.step (hc.imp id (fun h => by omega)))
      have HC := Hf.mk hc
      have hX := tmod_abs r
      have hY := tdiv_abs r
      have hb1 : (((out.length : Int) == 0) || (r != 0)) = true := by
        rcases hc with h | h
        · subst h; rfl
        · have : (r != 0) = true := bne_iff_ne.2 h
          rw [this]; simp
      have HM : Hf (∀ Y : Int, Y.natAbs = r.natAbs / 10 → 2 * Y.natAbs < 2 * r.natAbs + (if out = [] then 1 else 0)) := ⟨fun Y hy => by
        rcases hc with h | h
        · rw [if_pos h]; omega
        · have : r.natAbs ≠ 0 := by omega
          omega⟩
      have hXb : -9 ≤ r.tmod 10 ∧ r.tmod 10 ≤ 9 := by omega
      obtain ⟨X, hXe⟩ : ∃ X, X = r.tmod 10 := ⟨_, rfl⟩
      obtain ⟨Y, hYe⟩ : ∃ Y, Y = r.tdiv 10 := ⟨_, rfl⟩
      rw [← hXe] at hX hXb
      rw [← hYe] at hY
      have hYb : -9223372036854775808 ≤ Y ∧ Y ≤ 9223372036854775807 := by omega
      have hXr : IntKind.i64.wrap (r.tmod 10) = X := by rw [← hXe]; exact IntWalk.i64_in _ ⟨by omega, by omega⟩
      have hYr : IntKind.i64.wrap (r.tdiv 10) = Y := by rw [← hYe]; exact IntWalk.i64_in _ ⟨by omega, by omega⟩
      have hXt : r.tmod 10 = X := hXe.symm
      have hYt : r.tdiv 10 = Y := hYe.symm
      have HYY := Hf.mk hY
      have HB := Hf.mk hb1
      have HD : Hf (∀ z : Int, z.natAbs = X.natAbs → 0 ≤ z → 48 + z = ((UInt8.ofNat (48 + r.natAbs % 10)).toNat : Int)) := ⟨fun z hz h => by rw [by_dig (by omega)]; omega⟩
      have HLit : Hf (∀ x, (W1.alloc (.cells #[x] 5)).ownsRow w.heap.size 5 1 (.slice (some ⟨W1.heap.size, 0, none⟩) 1 1) 1 [x]) := ⟨fun x => World.ownsRow_lit W1 #[x] 1 hsz (by decide) (by simp)⟩
      have HLen : Hf ((bRow out).length = out.length * 1) := ⟨by rw [bRow_len]; omega⟩
      clear hc hXe hYe hX hY
      by_cases hnil : out = []
      · subst hnil
        by_cases hneg : X < 0
        · go_wp2
          all_goals
            have hx := HD.out (-X) (by omega) (by omega)
            have o3 := HLit.out (.int .u8 (48 + -X))
            rw [hx] at o3
            rw [hx]
            refine ⟨⟨Y, [UInt8.ofNat (48 + r.natAbs % 10)], _, _, rfl, rfl, hYb.1, hYb.2, ⟨?_⟩, ⟨?_⟩, ⟨?_⟩⟩, ?_⟩
            · rw [HYY.out]; exact HN.out
            · exact bat_own (cu_below o3 (by repeat (first | exact Below.refl _ _ | with_reducible assumption | refine Below.drews ?_ | refine Below.drew ?_ | refine Below.alloc ?_ (by simp <;> omega) _ | refine Below.setCell ?_ (by simp <;> omega) _)))
            · first | exact Below.drew (Below.alloc hB.out hsz _) | exact Below.alloc hB.out hsz _
            · have h := HM.out Y HYY.out
              rw [if_pos rfl] at h
              simp only [intOf, oneL]
              simp only [List.length_nil]
              omega
        · go_wp2
          all_goals
            have hx := HD.out (X) (by omega) (by omega)
            have o3 := HLit.out (.int .u8 (48 + X))
            rw [hx] at o3
            rw [hx]
            refine ⟨⟨Y, [UInt8.ofNat (48 + r.natAbs % 10)], _, _, rfl, rfl, hYb.1, hYb.2, ⟨?_⟩, ⟨?_⟩, ⟨?_⟩⟩, ?_⟩
            · rw [HYY.out]; exact HN.out
            · exact bat_own (cu_below o3 (by repeat (first | exact Below.refl _ _ | with_reducible assumption | refine Below.drews ?_ | refine Below.drew ?_ | refine Below.alloc ?_ (by simp <;> omega) _ | refine Below.setCell ?_ (by simp <;> omega) _)))
            · first | exact Below.drew (Below.alloc hB.out hsz _) | exact Below.alloc hB.out hsz _
            · have h := HM.out Y HYY.out
              rw [if_pos rfl] at h
              simp only [intOf, oneL]
              simp only [List.length_nil]
              omega
      · have hne0 : ¬ out.length = 0 := fun h => hnil (List.length_eq_zero_iff.1 h)
        have HNil := Hf.mk hnil
        clear hnil
        by_cases hneg : X < 0
        · go_wp2_with (at_builtin; refine wpList_append_own _ rfl _ _ 89 rfl w.heap.size 5 i0 (.int .u8 0) 1 1 Tryd.underlying89 hi0 hz0 hz1 hz2 rfl (by decide) _ 1 [.int .u8 (48 + -X)] (by rfl) (HLit.out _) ⟨g, 0, none⟩ out.length cap (bRow out) (by rfl) (HLen.out) (BAt.src (hO.out.below (by repeat (first | exact Below.refl _ _ | with_reducible assumption | refine Below.drews ?_ | refine Below.drew ?_ | refine Below.alloc ?_ (by simp <;> omega) _ | refine Below.setCell ?_ (by simp <;> omega) _)))) bRow_cells (by unfold maxLen; omega) (by omega) (by first | omega | (simp <;> omega)) ?_; intro v' w3 o3 hgrow3 _; have B3 := Hf.mk (Below.grown (Below.alloc hB.out (by first | omega | (simp <;> omega)) _) hgrow3 (by first | omega | (simp <;> omega)) (fun k h => by simp [Value.ownBlock] at h; omega)); have O3 := Hf.mk o3; clear o3 hgrow3)
          all_goals
            have hx := HD.out (-X) (by omega) (by omega)
            have o3 := O3.out
            rw [hx, bRow_cons] at o3
            obtain ⟨g', c', rfl, _, _⟩ := dec_form o3 (by omega)
            refine ⟨⟨Y, _, g', c', ?_, rfl, hYb.1, hYb.2, ⟨?_⟩, ⟨bat_own o3⟩, B3⟩, ?_⟩
            · simp only [List.length_cons]; rw [Nat.add_comm]
            · rw [HYY.out]; exact HN.out
            · have h := HM.out Y HYY.out
              rw [if_neg HNil.out] at h
              simp only [intOf, Nat.add_comm 1, oneL]
              omega
        · go_wp2_with (at_builtin; refine wpList_append_own _ rfl _ _ 89 rfl w.heap.size 5 i0 (.int .u8 0) 1 1 Tryd.underlying89 hi0 hz0 hz1 hz2 rfl (by decide) _ 1 [.int .u8 (48 + X)] (by rfl) (HLit.out _) ⟨g, 0, none⟩ out.length cap (bRow out) (by rfl) (HLen.out) (BAt.src (hO.out.below (by repeat (first | exact Below.refl _ _ | with_reducible assumption | refine Below.drews ?_ | refine Below.drew ?_ | refine Below.alloc ?_ (by simp <;> omega) _ | refine Below.setCell ?_ (by simp <;> omega) _)))) bRow_cells (by unfold maxLen; omega) (by omega) (by first | omega | (simp <;> omega)) ?_; intro v' w3 o3 hgrow3 _; have B3 := Hf.mk (Below.grown (Below.alloc hB.out (by first | omega | (simp <;> omega)) _) hgrow3 (by first | omega | (simp <;> omega)) (fun k h => by simp [Value.ownBlock] at h; omega)); have O3 := Hf.mk o3; clear o3 hgrow3)
          all_goals
            have hx := HD.out (X) (by omega) (by omega)
            have o3 := O3.out
            rw [hx, bRow_cons] at o3
            obtain ⟨g', c', rfl, _, _⟩ := dec_form o3 (by omega)
            refine ⟨⟨Y, _, g', c', ?_, rfl, hYb.1, hYb.2, ⟨?_⟩, ⟨bat_own o3⟩, B3⟩, ?_⟩
            · simp only [List.length_cons]; rw [Nat.add_comm]
            · rw [HYY.out]; exact HN.out
            · have h := HM.out Y HYY.out
              rw [if_neg HNil.out] at h
              simp only [intOf, Nat.add_comm 1, oneL]
              omega
    · have hne : out ≠ [] := fun h => hc (.inl h)
      have hr : r = 0 := Decidable.byContradiction fun h => hc (.inr h)
      subst hr
      have HE := Hf.mk (hD.out.done hne)
      have hne0 : ¬ out.length = 0 := fun h => hne (List.length_eq_zero_iff.1 h)
      have hb1 : (((out.length : Int) == 0) || ((0 : Int) != 0)) = false := by
        have : ((out.length : Int) == 0) = false := by rw [beq_eq_false_iff_ne]; omega
        rw [this]; rfl
      have HLit : Hf (∀ x, (W1.alloc (.cells #[x] 5)).ownsRow w.heap.size 5 1 (.slice (some ⟨W1.heap.size, 0, none⟩) 1 1) 1 [x]) := ⟨fun x => World.ownsRow_lit W1 #[x] 1 hsz (by decide) (by simp)⟩
      have HLen : Hf ((bRow out).length = out.length * 1) := ⟨by rw [bRow_len]; omega⟩
      clear hc hne
      by_cases hn : n < 0
      · have HR := Hf.mk (itoa_neg hn)
        go_wp2_with (at_builtin; refine wpList_append_own _ rfl _ _ 89 rfl w.heap.size 5 i0 (.int .u8 0) 1 1 Tryd.underlying89 hi0 hz0 hz1 hz2 rfl (by decide) _ 1 [.int .u8 45] (by rfl) (HLit.out _) ⟨g, 0, none⟩ out.length cap (bRow out) (by rfl) (HLen.out) (BAt.src (hO.out.below (by repeat (first | exact Below.refl _ _ | with_reducible assumption | refine Below.drews ?_ | refine Below.drew ?_ | refine Below.alloc ?_ (by simp <;> omega) _ | refine Below.setCell ?_ (by simp <;> omega) _)))) bRow_cells (by unfold maxLen; omega) (by omega) (by first | omega | (simp <;> omega)) ?_; intro v' w3 o3 hgrow3 _; have B3 := Hb.mk (Below.grown (Below.alloc hB.out (by first | omega | (simp <;> omega)) _) hgrow3 (by first | omega | (simp <;> omega)) (fun k h => by simp [Value.ownBlock] at h; omega)); obtain ⟨g', c', rfl, _, _⟩ := dec_form o3 (by omega); have kcv := conv_b (cap := c') (bat_own (l := (45 : UInt8) :: out) o3) (show ((45 : UInt8) :: out).length = 1 + out.length by simp only [List.length_cons]; omega); clear o3 hgrow3)
        go_ret
        exact ⟨by rw [HR.out, ← HE.out]; rfl, (by repeat (first | with_reducible refine Below.setCell ?_ (by first | omega | (simp <;> omega)) _ | with_reducible refine Below.drews ?_ | with_reducible refine Below.drew ?_ | with_reducible refine Below.alloc ?_ (by first | omega | (simp <;> omega)) _ | with_reducible exact B3.out | with_reducible exact Below.refl _ _))⟩
      · have HR := Hf.mk (itoa_pos hn)
        have kcv := conv_b (cap := cap) hO.out rfl
        have B3 := Hb.mk hB.out
        go_wp2
        go_ret
        exact ⟨by rw [HR.out, ← HE.out]; rfl, (by repeat (first | with_reducible refine Below.setCell ?_ (by first | omega | (simp <;> omega)) _ | with_reducible refine Below.drews ?_ | with_reducible refine Below.drew ?_ | with_reducible refine Below.alloc ?_ (by first | omega | (simp <;> omega)) _ | with_reducible exact B3.out | with_reducible exact Below.refl _ _))⟩
theorem l00In_any (n a b : Int) (w : World) : Calls Tryd.prog 118 #[.int .i64 n, .int .i64 a, .int .i64 b] w (RB (decide (a ≤ n ∧ n ≤ b)) w) := by
  go_enter Tryd.func118, Tryd.ntmps118
  go_wp2 <;> (go_ret; exact RB.any (by simp; try omega) (by repeat (first | exact Drew.refl _ | refine Drew.more ?_)))
end Go.Proofs.YtcgakdgfmhkpjaaDoor
