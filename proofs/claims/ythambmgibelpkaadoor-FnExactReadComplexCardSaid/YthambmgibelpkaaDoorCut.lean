/-
The model's spec.l01Cut: the pieces of a text between the marks, as a list of strings. No premise beyond the text's size.
-/
import Derived.Test.YthambmgibelpkaaDoorCtn
import Derived.Test.YthambmgibelpkaaDoorKey
import Derived.Test.YthambmgibelpkaaDoorTail
import Derived.Lib.PathFns
namespace Go.Proofs.YthambmgibelpkaaDoor
open Go Go.RowKit
set_option maxRecDepth 100000

/-- A list of texts, as values. -/
def sRow (L : List (List UInt8)) : List Value := L.map fun l => .string ⟨l.toArray⟩
theorem sRow_len (L : List (List UInt8)) : (sRow L).length = L.length := by simp [sRow]
theorem sRow_app {L : List (List UInt8)} {l : List UInt8} : sRow L ++ [.string ⟨l.toArray⟩] = sRow (L ++ [l]) := by simp [sRow]
theorem ext_part (s : ByteArray) (a b : Nat) : s.extract a b = ⟨((s.data.toList.drop a).take (b - a)).toArray⟩ := by
  apply ByteArray.ext
  rw [ByteArray.data_extract]
  apply Array.toList_inj.1
  rw [Array.toList_extract, List.extract_eq_take_drop]
/-- What the loop has cut when it stands at i, the last piece beginning at f. -/
structure CutAt (c : UInt8) (t : List UInt8) (L : List (List UInt8)) (f i : Nat) : Prop where
  le : f ≤ i
  cut : cutL c t = L ++ cutL c (t.drop f)
  no : ∀ j, f ≤ j → j < i → t[j]? ≠ some c
  len : L.length ≤ i
theorem CutAt.first (c : UInt8) (t : List UInt8) : CutAt c t [] 0 0 := ⟨Nat.le_refl _, by simp, fun j h1 h2 => by omega, Nat.le_refl _⟩
theorem CutAt.pass {c : UInt8} {t : List UInt8} {L : List (List UInt8)} {f i : Nat} (h : CutAt c t L f i) (hc : t[i]? ≠ some c) : CutAt c t L f (i + 1) :=
  ⟨by have := h.le; omega, h.cut, fun j h1 h2 => by
    by_cases e : j = i
    · subst e; exact hc
    · exact h.no j h1 (by omega), by have := h.len; omega⟩
theorem CutAt.piece {c : UInt8} {t : List UInt8} {L : List (List UInt8)} {f i : Nat} (h : CutAt c t L f i) : ∀ b, b ∈ (t.drop f).take (i - f) → b ≠ c := by
  intro b hb
  rw [List.mem_take_iff_getElem] at hb
  obtain ⟨j, hj, e⟩ := hb
  have hj2 : j < i - f ∧ j < (t.drop f).length := by omega
  intro he
  refine h.no (f + j) (by omega) (by omega) ?_
  rw [← he, ← e, List.getElem_drop, List.getElem?_eq_getElem]
theorem CutAt.hit {c : UInt8} {t : List UInt8} {L : List (List UInt8)} {f i : Nat} (h : CutAt c t L f i) (hi : i < t.length) (hc : t[i]? = some c) : CutAt c t (L ++ [(t.drop f).take (i - f)]) (i + 1) (i + 1) := by
  have hle := h.le
  refine ⟨Nat.le_refl _, ?_, fun j h1 h2 => by omega, by have := h.len; simp; omega⟩
  have e : t.drop f = (t.drop f).take (i - f) ++ c :: t.drop (i + 1) := by
    conv => lhs; rw [← List.take_append_drop (i - f) (t.drop f)]
    rw [List.drop_drop, show f + (i - f) = i by omega]
    congr 1
    rw [List.drop_eq_getElem_cons hi]
    rw [List.getElem?_eq_getElem hi] at hc
    rw [Option.some.inj hc]
  rw [h.cut, e, cutL_hit h.piece, ← e]
  simp
theorem CutAt.last {c : UInt8} {t : List UInt8} {L : List (List UInt8)} {f : Nat} (h : CutAt c t L f t.length) : L ++ [(t.drop f).take (t.length - f)] = cutL c t := by
  have e : (t.drop f).take (t.length - f) = t.drop f := List.take_of_length_le (by simp)
  have hp := h.piece
  rw [e] at hp
  rw [h.cut, cutL_no hp, e]
theorem byt_list (s : ByteArray) (i : Nat) (h : i < s.size) : s.data.toList[i]? = some (s[i]'h) := by
  obtain ⟨⟨l⟩⟩ := s
  have hl : i < l.length := h
  exact List.getElem?_eq_getElem hl
theorem rt_str {s : ByteArray} : ∀ u ∈ [Value.string s], u.oneCell' = true := by
  intro u hu
  simp at hu
  subst hu
  rfl
theorem str_one (w : World) (a : Value) (t : TypeId) : ∀ j u, [a][j]? = some u → (w.alloc (.cells #[a] t)).cell? ((⟨w.heap.size, 0, none⟩ : Addr).add j) = some u := by
  intro j u hj
  match j, hj with
  | 0, hj => simp at hj; subst hj; simp [Addr.add]
  | j + 1, hj => simp at hj
theorem cu_ge {w : World} {base : Nat} {e : TypeId} {size n k : Nat} {v : Value} {xs : List Value} (h : w.ownsRow base e size v n xs) (hb : v.ownBlock = some k) : base ≤ k := by
  rcases h.2 with ⟨h1, _⟩ | ⟨g, cap, cur, hv, hg, _⟩
  · rw [h1] at hb; simp [Value.ownBlock] at hb
  · rw [hv] at hb; simp [Value.ownBlock] at hb; omega
theorem cu_below {w w' : World} {base : Nat} {e : TypeId} {size : Nat} {v : Value} {n : Nat} {xs : List Value} (h : w.ownsRow base e size v n xs) (b : Below w.heap.size w w') : w'.ownsRow base e size v n xs := by
  obtain ⟨h0, h1⟩ := h
  refine ⟨h0, ?_⟩
  rcases h1 with h1 | ⟨g, cap, cur, hv, hg, hh, hr⟩
  · exact .inl h1
  · exact .inr ⟨g, cap, cur, hv, hg, (b.block g (Array.getElem?_eq_some_iff.1 hh).1).trans hh, hr⟩
set_option maxHeartbeats 2000000 in
theorem l01Cut_any {s : ByteArray} {c : UInt8} (hs : s.size ≤ 1048576) (w : World) : Calls Tryd.prog 13 #[.string s, .int .u8 (c.toNat : Int)] w (fun e w' => ∃ v, e = .returned v ∧ w'.ownsRow w.heap.size 9 1 v (cutL c s.data.toList).length (sRow (cutL c s.data.toList)) ∧ Below w.heap.size w w') := by
  obtain ⟨i0, hi0, hz0, hz1, hz2⟩ := info_parts (P := Tryd.prog) (e := 9) (z := .string ByteArray.empty) (size := 1) (bytes := 16) (by kernel_rfl)
  have hsl : s.data.toList.length = s.size := rfl
  obtain ⟨T, hT⟩ : ∃ T, T = s.data.toList := ⟨_, rfl⟩
  have HT := Hf.mk hT
  rw [← hT] at hsl ⊢
  have HTl := Hf.mk hsl
  clear hT hsl
  obtain ⟨cn, hcn⟩ : ∃ cn, cn = c.toNat := ⟨_, rfl⟩
  have HC := Hf.mk hcn
  rw [← hcn]
  clear hcn
  go_enter Tryd.func13, Tryd.ntmps13
  go_wp2
  go_loopw [5, 6, 7] (fun v5 v6 v7 wr => ∃ (i f : Nat) (L : List (List UInt8)), i ≤ s.size + 1 ∧ f ≤ s.size + 1 ∧ v7 = .int .i64 i ∧ v6 = .int .i64 f ∧ Hf (i ≤ s.size → CutAt c T L f i) ∧ Hf (i = s.size + 1 → L = cutL c T) ∧ L.length ≤ i ∧ Hf (wr.ownsRow w.heap.size 9 1 v5 L.length (sRow L)) ∧ Hf (Below w.heap.size w wr)) (fun _ _ v7 _ => s.size + 1 - (intOf v7).toNat)
  case atStart => exact ⟨0, 0, [], by omega, by omega, rfl, rfl, ⟨fun _ => CutAt.first c T⟩, ⟨fun h => by omega⟩, Nat.le_refl _, ⟨World.ownsRow_made _ _ _ (Nat.le_refl _) (by decide) rfl⟩, ⟨(by repeat (first | exact Below.refl _ _ | with_reducible assumption | refine Below.drews ?_ | refine Below.drew ?_ | refine Below.alloc ?_ (by simp <;> omega) _ | refine Below.setCell ?_ (by simp <;> omega) _))⟩⟩
  case round =>
    obtain ⟨i, f, L, hi, hf, rfl, rfl, hcu, hdn, hL, hown, hbel⟩ := hrel
    obtain ⟨W1, hW1⟩ : ∃ W1, W1 = wr := ⟨_, rfl⟩
    subst hW1
    have hsz := hbel.out.size
    by_cases hle : i ≤ s.size
    · have hC := Hf.mk (hcu.out hle)
      have hfi := hC.out.le
      by_cases hlt : i < s.size
      · have hb : (s[i]'hlt).toNat < 256 := UInt8.toNat_lt _
        have hne : ¬ i = s.size := by omega
        by_cases hx : (s[i]'hlt).toNat = cn
        · have hH := Hf.mk (hC.out.hit (by rw [HTl.out]; exact hlt) (by rw [HT.out, byt_list s i hlt, UInt8.toNat_inj.1 (hx.trans HC.out)]))
          have HE := Hf.mk (ext_part s f i)
          rw [← HT.out] at HE
          have hd1 : ((i : Int) == (s.size : Int)) = false := by rw [beq_eq_false_iff_ne]; omega
          have hd2 : (((s[i]'hlt).toNat : Int) == (cn : Int)) = true := by rw [beq_iff_eq]; omega
          clear hx
          have q1 : L.length + 1 ≤ maxLen := by unfold maxLen; omega
          have q2 : (L.length + 1) * 16 ≤ 140737488355328 := by omega
          have Q1 := Hf.mk q1
          have Q2 := Hf.mk q2
          have Q3 : Hf (∀ x t, w.heap.size ≤ (W1.alloc (.cells #[x] t)).heap.size) := ⟨fun x t => by simp; omega⟩
          clear q1 q2
          go_wp2_with (at_builtin; refine wpList_append_own _ rfl _ _ 34 rfl w.heap.size 9 i0 (.string ByteArray.empty) 1 16 Tryd.underlying34 hi0 hz0 hz1 hz2 rfl (by decide) _ _ (sRow L) rfl (cu_below hown.out ((Below.refl _ _).alloc (Nat.le_refl _) _)) ⟨W1.heap.size, 0, none⟩ 1 1 [.string (s.extract f i)] (by rfl) (by rfl) (str_one _ _ _) rt_str Q1.out Q2.out (Q3.out _ _) ?_; intro v' w3 o3 hgrow3 _; have B3 := Hf.mk (Below.grown (Below.alloc hbel.out hsz _) hgrow3 (Q3.out _ _) (fun k h => cu_ge hown.out h)); have O3 := Hf.mk o3; clear o3 hgrow3)
          go_roundw
          case rel =>
            refine ⟨i + 1, i + 1, L ++ [(T.drop f).take (i - f)], by omega, by omega, i_ext2 (by omega), i_ext2 (by omega), ⟨fun _ => hH.out⟩, ⟨fun h => by omega⟩, by simp; omega, ⟨?_⟩, B3⟩
            have := O3.out
            rw [HE.out, sRow_app] at this
            rw [List.length_append]
            exact this
          case measure => simp [intOf]; omega
        · have hH := Hf.mk (hC.out.pass (by rw [HT.out, byt_list s i hlt]; intro e; exact hx (by rw [Option.some.inj e, HC.out])))
          have hd1 : ((i : Int) == (s.size : Int)) = false := by rw [beq_eq_false_iff_ne]; omega
          have hd2 : (((s[i]'hlt).toNat : Int) == (cn : Int)) = false := by rw [beq_eq_false_iff_ne]; omega
          clear hx
          go_wp2
          go_roundw
          case rel => exact ⟨i + 1, f, L, by omega, by omega, i_ext2 (by omega), rfl, ⟨fun _ => hH.out⟩, ⟨fun h => by omega⟩, by omega, ⟨cu_below hown.out (by repeat (first | exact Below.refl _ _ | with_reducible assumption | refine Below.drews ?_ | refine Below.drew ?_ | refine Below.alloc ?_ (by simp <;> omega) _ | refine Below.setCell ?_ (by simp <;> omega) _))⟩, ⟨by first | exact hbel.out | exact Below.drews hbel.out⟩⟩
          case measure => simp [intOf]; omega
      · obtain rfl : i = s.size := by omega
        have hH := Hf.mk (show L ++ [(T.drop f).take (s.size - f)] = cutL c T by
          have := hC.out
          rw [← HTl.out] at this ⊢
          exact this.last)
        have HE := Hf.mk (ext_part s f s.size)
        rw [← HT.out] at HE
        go_wp2_with (at_builtin; refine wpList_append_own _ rfl _ _ 34 rfl w.heap.size 9 i0 (.string ByteArray.empty) 1 16 Tryd.underlying34 hi0 hz0 hz1 hz2 rfl (by decide) _ _ (sRow L) rfl (cu_below hown.out ((Below.refl _ _).alloc (Nat.le_refl _) _)) ⟨W1.heap.size, 0, none⟩ 1 1 [.string (s.extract f s.size)] rfl rfl (str_one _ _ _) rt_str (by unfold maxLen; omega) (by omega) (by first | omega | (simp <;> omega)) ?_; intro v' w3 o3 hgrow3 _; have B3 := Hf.mk (Below.grown (Below.alloc hbel.out (by first | omega | (simp <;> omega)) _) hgrow3 (by first | omega | (simp <;> omega)) (fun k h => cu_ge hown.out h)); have O3 := Hf.mk o3; clear o3 hgrow3)
        go_roundw
        case rel =>
          refine ⟨s.size + 1, s.size + 1, L ++ [(T.drop f).take (s.size - f)], by omega, by omega, i_ext2 (by omega), i_ext2 (by omega), ⟨fun h => by omega⟩, ⟨fun _ => hH.out⟩, by simp; omega, ⟨?_⟩, B3⟩
          have := O3.out
          rw [HE.out, sRow_app] at this
          rw [List.length_append]
          exact this
        case measure => simp [intOf]
    · obtain rfl : i = s.size + 1 := by omega
      have hD := Hf.mk (hdn.out rfl)
      go_wp2
      go_ret
      exact ⟨_, rfl, by rw [← hD.out]; exact hown.out, hbel.out⟩
end Go.Proofs.YthambmgibelpkaaDoor
