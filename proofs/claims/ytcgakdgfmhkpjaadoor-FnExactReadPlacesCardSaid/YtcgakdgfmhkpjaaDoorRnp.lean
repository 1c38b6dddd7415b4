/-
strings.SplitN at one byte: the same pieces as the model's, or one more than asked. No memory.
ReadList: the program and its model. ReadList: the program.
Words of eight hexadecimal digits: what both sides read, as numbers. No walk. ReadNumbers: the model. ReadNumbers: the program. Lists of floats that a function returns, told by their own words: compared, marked and held by a law. No premise.
-/
import Derived.Test.YtcgakdgfmhkpjaaDoorCut
import Derived.Test.YtcgakdgfmhkpjaaDoorRdd
import Derived.Test.YtcgakdgfmhkpjaaDoorCou
import Derived.Test.YtcgakdgfmhkpjaaDoorTxt
import Derived.Test.YtcgakdgfmhkpjaaDoorLri
import Derived.Deep.AppendLies
namespace Go.Proofs.YtcgakdgfmhkpjaaDoor
open Go Go.RowKit
set_option maxRecDepth 100000

theorem splitK_more (c : UInt8) : ∀ (k : Nat) (l : List UInt8), Lib.count l [c] ≤ k → Lib.splitK [c] 0 k l = Lib.splitK [c] 0 (Lib.count l [c]) l
  | 0, l, h => by rw [Nat.le_zero.1 h]
  | k + 1, l, h => by
    by_cases hm : Lib.index l [c] = -1
    · rw [Lib.count_miss hm, Lib.splitK, Lib.splitK, if_pos (beq_iff_eq.2 hm)]
    · have hge := Lib.index_ge l [c]
      obtain ⟨i, hi⟩ : ∃ i : Nat, Lib.index l [c] = i := ⟨(Lib.index l [c]).toNat, by omega⟩
      have hc := Lib.count_hit (by simp) hi
      have hn : ¬ (Lib.index l [c] == -1) = true := fun e => hm (beq_iff_eq.1 e)
      rw [hc, Nat.add_comm 1, Lib.splitK, Lib.splitK, if_neg hn, if_neg hn, hi]
      rw [show ((i : Int)).toNat = i by omega]
      rw [splitK_more c k _ (by omega)]
theorem splitK_less (c : UInt8) : ∀ (k : Nat) (l : List UInt8), k ≤ Lib.count l [c] → (Lib.splitK [c] 0 k l).length = k + 1
  | 0, l, h => rfl
  | k + 1, l, h => by
    by_cases hm : Lib.index l [c] = -1
    · rw [Lib.count_miss hm] at h; omega
    · have hge := Lib.index_ge l [c]
      obtain ⟨i, hi⟩ : ∃ i : Nat, Lib.index l [c] = i := ⟨(Lib.index l [c]).toNat, by omega⟩
      have hc := Lib.count_hit (by simp) hi
      have hn : ¬ (Lib.index l [c] == -1) = true := fun e => hm (beq_iff_eq.1 e)
      rw [Lib.splitK, if_neg hn, hi, List.length_cons]
      rw [show ((i : Int)).toNat = i by omega]
      rw [splitK_less c k _ (by omega)]
theorem cutL_count (c : UInt8) (l : List UInt8) : (cutL c l).length = Lib.count l [c] + 1 := by
  rw [← splitK_cut c l, splitK_less c _ l (Nat.le_refl _)]
theorem count_len (c : UInt8) (l : List UInt8) : Lib.count l [c] ≤ l.length := by rw [Lib.count_one]; exact List.count_le_length
/-- The words that SplitN gives. -/
def wdN (c : UInt8) (n : Nat) (s : ByteArray) : List ByteArray := Lib.splitB ⟨#[c]⟩ 0 (min n (s.size + 1) - 1) s
theorem wdN_map (c : UInt8) (n : Nat) (s : ByteArray) : (wdN c n s).map (·.data.toList) = Lib.splitK [c] 0 (min n (s.size + 1) - 1) s.data.toList := Lib.splitB_data ⟨#[c]⟩ 0 _ s
theorem wdN_all {c : UInt8} {n : Nat} {s : ByteArray} (h : (cutL c s.data.toList).length ≤ n) : (wdN c n s).map Value.string = sRow (cutL c s.data.toList) := by
  have h1 := cutL_count c s.data.toList
  have h2 := count_len c s.data.toList
  have h3 : s.data.toList.length = s.size := rfl
  have h4 := wdN_map c n s
  rw [splitK_more c _ _ (by omega), splitK_cut] at h4
  rw [← h4]
  simp [sRow]
theorem wdN_most {c : UInt8} {n : Nat} {s : ByteArray} (h0 : 1 ≤ n) (h : n ≤ (cutL c s.data.toList).length) : (wdN c n s).length = n := by
  have h1 := cutL_count c s.data.toList
  have h2 := count_len c s.data.toList
  have h3 : s.data.toList.length = s.size := rfl
  have h4 := congrArg List.length (wdN_map c n s)
  rw [List.length_map, splitK_less c _ _ (by omega)] at h4
  omega
theorem wdN_len {c : UInt8} {n : Nat} {s : ByteArray} (h : (cutL c s.data.toList).length ≤ n) : (wdN c n s).length = (cutL c s.data.toList).length := by
  have := congrArg List.length (wdN_all h)
  rw [List.length_map, sRow_len] at this
  exact this
theorem wdN_cap (c : UInt8) (n : Nat) (s : ByteArray) : (wdN c n s).length ≤ min n (s.size + 1) - 1 + 1 := Lib.splitB_length_le _ _ _ _
theorem cells_at {l : List ByteArray} {N j : Nat} (h : j < l.length) : (Lib.cellsOf l N)[j]? = some (.string (l[j]'h)) := by
  unfold Lib.cellsOf
  rw [List.getElem?_toArray, List.getElem?_append_left (by simpa using h)]
  simp [h]
theorem wdN_cell {w : World} {c : UInt8} {n : Nat} {s : ByteArray} (t : TypeId) (h : (cutL c s.data.toList).length ≤ n) {j : Nat} (hj : j < (cutL c s.data.toList).length) : (w.alloc (.cells (Lib.cellsOf (wdN c n s) (min n (s.size + 1))) t)).cell? ⟨w.heap.size, j, none⟩ = some (.string ⟨((cutL c s.data.toList).getD j []).toArray⟩) := by
  have hl := wdN_len h
  have h1 := cells_at (l := wdN c n s) (N := min n (s.size + 1)) (j := j) (by omega)
  have h2 : ((wdN c n s).map Value.string)[j]? = some (.string ((wdN c n s)[j]'(by omega))) := by rw [List.getElem?_map, List.getElem?_eq_getElem (by omega)]; rfl
  rw [wdN_all h] at h2
  unfold sRow at h2
  rw [List.getElem?_map, List.getElem?_eq_getElem hj] at h2
  have h3 : ⟨((cutL c s.data.toList).getD j []).toArray⟩ = (wdN c n s)[j]'(by omega) := by
    simp only [List.getD, List.getElem?_eq_getElem hj]
    exact Value.string.inj (Option.some.inj h2)
  rw [h3]
  simpa [go_sem] using h1
end Go.Proofs.YtcgakdgfmhkpjaaDoor
namespace Go.Proofs.YtcgakdgfmhkpjaaDoor
open Go Go.RowKit
set_option maxRecDepth 100000

abbrev noneL : List UInt8 := [110, 111, 110, 101]
/-- Few words, all of which say a number. -/
def okW (W : List (List UInt8)) : Bool := decide (W.length ≤ 64) && W.all rdOk
def numW (W : List (List UInt8)) : List Int := W.map rdN
theorem numW_len (W : List (List UInt8)) : (numW W).length = W.length := by simp [numW]
theorem take_up {xs : List Int} {m : Nat} {x : Int} (hm : m < xs.length) (hx : xs.getD m 0 = x) : xs.take m ++ [x] = xs.take (m + 1) := by
  rw [List.take_add_one, List.getElem?_eq_getElem hm]
  simp [List.getD, List.getElem?_eq_getElem hm] at hx
  rw [← hx]
  rfl
theorem numW_at {W : List (List UInt8)} {m : Nat} (h : m < W.length) : (numW W).getD m 0 = rdN (W.getD m []) := by
  unfold numW
  simp [List.getD, List.getElem?_map, List.getElem?_eq_getElem h]
def upO (W : List (List UInt8)) (m : Nat) : Prop := ∀ j, j < m → rdOk (W.getD j []) = true
theorem upO.up {W : List (List UInt8)} {m : Nat} (h : upO W m) (h1 : rdOk (W.getD m []) = true) : upO W (m + 1) := fun j hj => by
  by_cases e : j = m
  · subst e; exact h1
  · exact h j (by omega)
theorem okW_yes {W : List (List UInt8)} (h : upO W W.length) (h64 : W.length ≤ 64) : okW W = true := by
  unfold okW
  rw [Bool.and_eq_true, List.all_eq_true]
  refine ⟨decide_eq_true h64, fun x hx => ?_⟩
  obtain ⟨j, hj, rfl⟩ := List.mem_iff_getElem.1 hx
  have := h j hj
  rwa [List.getD, List.getElem?_eq_getElem hj] at this
theorem okW_no {W : List (List UInt8)} {m : Nat} (hm : m < W.length) (h : rdOk (W.getD m []) = false) : okW W = false := by
  rw [Bool.eq_false_iff]
  intro e
  unfold okW at e
  rw [Bool.and_eq_true, List.all_eq_true] at e
  have := e.2 _ (show W.getD m [] ∈ W by rw [List.getD, List.getElem?_eq_getElem hm]; exact List.getElem_mem hm)
  rw [h] at this
  cases this
theorem okW_long {W : List (List UInt8)} (h : 64 < W.length) : okW W = false := by
  unfold okW
  rw [decide_eq_false (by omega)]; rfl
/-- What is read. -/
def rlO (l : List UInt8) : Bool := decide (l = noneL) || okW (cutL 44 l)
def rlX (l : List UInt8) : List Int := if l = noneL then [] else if okW (cutL 44 l) then numW (cutL 44 l) else []
theorem rl_none {l : List UInt8} (h : l = noneL) : rlO l = true ∧ rlX l = [] := by
  unfold rlO rlX
  rw [if_pos h, decide_eq_true h]
  exact ⟨rfl, rfl⟩
theorem rl_no {l : List UInt8} (h : l ≠ noneL) (hk : okW (cutL 44 l) = false) : rlO l = false ∧ rlX l = [] := by
  unfold rlO rlX
  rw [if_neg h, decide_eq_false h, hk]
  exact ⟨rfl, rfl⟩
theorem rl_yes {l : List UInt8} (h : l ≠ noneL) (hk : okW (cutL 44 l) = true) : rlO l = true ∧ rlX l = numW (cutL 44 l) := by
  unfold rlO rlX
  rw [if_neg h, hk]
  exact ⟨by simp, rfl⟩
theorem rlX_len (l : List UInt8) : (rlX l).length ≤ 64 := by
  unfold rlX
  split
  · exact Nat.zero_le _
  · split
    · next h =>
      unfold okW at h
      rw [Bool.and_eq_true] at h
      rw [numW_len]
      exact of_decide_eq_true h.1
    · exact Nat.zero_le _
/-- Blocks kept but one. -/
theorem gb_below {w w' : World} {g : Option Nat} (b : Below w.heap.size w w') : w.grownBy w' g := ⟨b.os, b.tape, b.output, b.size, fun k hk _ => b.block k hk⟩
theorem gb_step {w1 wr w3 : World} {b : Nat} {u : Option Nat} (h : w1.grownBy wr (some b)) (hg : wr.grownBy w3 u) (hu : ∀ k, u = some k → k = b ∨ w1.heap.size ≤ k) : w1.grownBy w3 (some b) := by
  refine ⟨hg.os.trans h.os, hg.tape.trans h.tape, hg.output.trans h.output, Nat.le_trans h.size hg.size, fun k hk hne => ?_⟩
  have h2 : some k ≠ u := by
    intro e
    rcases hu k e.symm with rfl | h3
    · exact hne rfl
    · omega
  rw [hg.block k (Nat.lt_of_lt_of_le hk h.size) h2]
  exact h.block k hk hne
theorem TRow.gb {w w' : World} {g b : Nat} {L : List (List UInt8)} (h : TRow w g L) (hg : w.grownBy w' (some b)) (hne : g ≠ b) : TRow w' g L := fun j hj => by
  have hc := h j hj
  rw [World.cell?_of_block (w := w) (hg.block _ (block_lt_of_cell hc) (fun e => hne (Option.some.inj e)))]
  exact hc
theorem rdV_yes {l : List UInt8} (h : rdOk l = true) : rdV (ofL l) = .tuple #[.int .i64 (rdN l), .bool true] := by
  show Value.tuple #[.int .i64 (if rdOk l then rdN l else 0), .bool (rdOk l)] = _
  rw [h]; rfl
theorem rdV_no {l : List UInt8} (h : rdOk l = false) : rdV (ofL l) = .tuple #[.int .i64 0, .bool false] := by
  show Value.tuple #[.int .i64 (if rdOk l then rdN l else 0), .bool (rdOk l)] = _
  rw [h]; rfl
theorem toL_ne {s : ByteArray} {l : List UInt8} (h : s.data.toList ≠ l) : (s.toList == l) = false := by rw [Lib.toList_data, beq_eq_false_iff_ne]; exact h
theorem toL_eq {s : ByteArray} {l : List UInt8} (h : s.data.toList = l) : (s.toList == l) = true := by rw [Lib.toList_data, beq_iff_eq]; exact h
theorem int_one {k : Int} : ∀ u ∈ [Value.int .i64 k], u.oneCell' = true := by
  intro u hu
  simp at hu
  subst hu
  rfl
set_option maxHeartbeats 2000000 in
theorem sRl_any {s : ByteArray} (hs : s.size ≤ 1048576) (w : World) : Calls Tryd.prog 92 #[.string s] w (RLy 2 (rlO s.data.toList) (ils (rlX s.data.toList)) w) := by
  obtain ⟨i0, hi0, hz0, hz1, hz2⟩ := info_parts (P := Tryd.prog) (e := 2) (z := .int .i64 0) (size := 1) (bytes := 8) (by kernel_rfl)
  have B0 := Hb.mk (Below.refl w.heap.size w)
  by_cases hn : s.data.toList = noneL
  · have hq := toL_eq hn
    obtain ⟨K1, K2⟩ := rl_none hn
    rw [K1, K2]
    clear hn K1 K2
    go_enter Tryd.func92, Tryd.ntmps92
    go_wp2
    go_ret2
    exact ⟨⟨_, rfl, World.ownsRow_made _ _ _ (Nat.le_refl _) (by decide) rfl⟩, (by repeat (first | exact Below.refl _ _ | with_reducible assumption | refine Below.drews ?_ | refine Below.drew ?_ | refine Below.alloc ?_ (by simp <;> omega) _ | refine Below.setCell ?_ (by simp <;> omega) _))⟩
  · have hq := toL_ne hn
    have KC := Hf.mk (fun w => l01Cut_any (c := 44) hs w)
    have KY := Hf.mk (fun h => rl_yes hn h)
    have KN := Hf.mk (fun h => rl_no hn h)
    have hW0 := cutL_ne 44 s.data.toList
    have hWl : (cutL 44 s.data.toList).length ≤ 1048577 := by have := cutL_count 44 s.data.toList; have := count_len 44 s.data.toList; have : s.data.toList.length = s.size := rfl; omega
    generalize cutL 44 s.data.toList = W at KC KY KN hW0 hWl
    have hW1 : 0 < W.length := List.length_pos_iff.2 hW0
    clear hn hW0
    generalize rlO s.data.toList = O at KY KN ⊢
    generalize rlX s.data.toList = X at KY KN ⊢
    by_cases h64 : 64 < W.length
    · obtain ⟨K1, K2⟩ := KN.out (okW_long h64)
      subst K1; subst K2
      clear KY KN
      go_enter Tryd.func92, Tryd.ntmps92
      go_wp2_with (go_at_call 91; refine (KC.out _).mono ?_; rintro e w1 ⟨v1, rfl, o1, b1⟩; obtain ⟨g1, k1, rfl, hg1, hl1, hk1⟩ := cu_shf o1 hW1; have B1 := Hb.mk (Below.on (B := w.heap.size) (a := w) (by repeat (first | exact B0.out | refine Below.drews ?_ | refine Below.drew ?_ | refine Below.alloc ?_ (by have hq_ := B0.out.size; first | omega | (simp <;> omega)) _ | refine Below.setCell ?_ (by have hq_ := B0.out.size; first | omega | (simp <;> omega)) _)) b1 (by have hq_ := B0.out.size; first | omega | (simp <;> omega))); clear o1 b1)
      go_ret2
      exact RLy.nil (by repeat (first | exact B1.out | refine Below.drews ?_ | refine Below.drew ?_ | refine Below.alloc ?_ (by have hq_ := B1.out.size; first | omega | (simp <;> omega)) _ | refine Below.setCell ?_ (by have hq_ := B1.out.size; first | omega | (simp <;> omega)) _))
    · go_enter Tryd.func92, Tryd.ntmps92
      go_wp2_with (go_at_call 91; refine (KC.out _).mono ?_; rintro e w1 ⟨v1, rfl, o1, b1⟩; obtain ⟨g1, k1, rfl, hg1, hl1, hk1⟩ := cu_shf o1 hW1; have B1 := Hb.mk (Below.on (B := w.heap.size) (a := w) (by repeat (first | exact B0.out | refine Below.drews ?_ | refine Below.drew ?_ | refine Below.alloc ?_ (by have hq_ := B0.out.size; first | omega | (simp <;> omega)) _ | refine Below.setCell ?_ (by have hq_ := B0.out.size; first | omega | (simp <;> omega)) _)) b1 (by have hq_ := B0.out.size; first | omega | (simp <;> omega))); have T1 := Hf.mk (trow_own o1); have O1 := Hf.mk (show w1.ownsRow w.heap.size 2 1 (.slice (some ⟨w.heap.size, 0, none⟩) 0 0) 0 [] from cu_below (World.ownsRow_made _ _ _ (Nat.le_refl _) (by decide) rfl) b1); have hsz1 := b1.size; clear o1 b1)
      simp at hg1 hsz1
      go_loopw [4, 6] (fun v i wr => ∃ (m go cap : Nat), m ≤ W.length ∧ i = .int .i64 m ∧ v = .slice (some ⟨go, 0, none⟩) m cap ∧ (go = w.heap.size ∨ w1.heap.size ≤ go) ∧ Hf (upO W m) ∧ Hf (wr.ownsRow w.heap.size 2 1 v m (ils ((numW W).take m))) ∧ Hf (w1.grownBy wr (some w.heap.size))) (fun _ i _ => W.length - (intOf i).toNat)
      case atStart => exact ⟨0, w.heap.size, 0, by omega, rfl, rfl, .inl rfl, ⟨fun j hj => absurd hj (Nat.not_lt_zero j)⟩, O1, ⟨gb_refl _ _⟩⟩
      case round =>
        obtain ⟨m, go, cap, hm, rfl, rfl, hgo, hU, hown, hgb⟩ := hrel
        obtain ⟨W1, hW1e⟩ : ∃ W1, W1 = wr := ⟨_, rfl⟩
        subst hW1e
        have hsz := hgb.out.size
        have T2 := Hf.mk (T1.out.gb hgb.out (by omega))
        by_cases hlt : m < W.length
        · have hcell : W1.cell? ⟨g1, m, none⟩ = some (.string (ofL (W.getD m []))) := T2.out m hlt
          have HV := Hf.mk (fun w => l01Value_any (ofL (W.getD m [])) w)
          cases hk : rdOk (W.getD m [])
          · rw [rdV_no hk] at HV
            obtain ⟨K1, K2⟩ := KN.out (okW_no hlt hk)
            subst K1; subst K2
            clear KY KN
            generalize ofL (W.getD m []) = A at hcell HV
            have BB := Hb.mk (below_gb B1.out hgb.out B1.out.size (Nat.le_refl _))
            go_wp2_with (go_at_call 121; refine (HV.out _).mono ?_; rintro e w2 ⟨rfl, b2⟩; have B2 := Hb.mk (Below.on (B := w.heap.size) (a := w) (by repeat (first | exact BB.out | refine Below.drews ?_ | refine Below.drew ?_ | refine Below.alloc ?_ (by have hq_ := BB.out.size; first | omega | (simp <;> omega)) _ | refine Below.setCell ?_ (by have hq_ := BB.out.size; first | omega | (simp <;> omega)) _)) b2 (by have hq_ := BB.out.size; first | omega | (simp <;> omega))); clear b2)
            go_ret2
            exact RLy.nil (by repeat (first | exact B2.out | refine Below.drews ?_ | refine Below.drew ?_ | refine Below.alloc ?_ (by have hq_ := B2.out.size; first | omega | (simp <;> omega)) _ | refine Below.setCell ?_ (by have hq_ := B2.out.size; first | omega | (simp <;> omega)) _))
          · rw [rdV_yes hk] at HV
            have KU := Hf.mk (hU.out.up hk)
            have KT := Hf.mk (take_up (xs := numW W) (m := m) (by rw [numW_len]; exact hlt) (numW_at hlt))
            have HL := Hf.mk (show (ils ((numW W).take m)).length = m by rw [ils_len, List.length_take, numW_len]; omega)
            generalize ofL (W.getD m []) = A at hcell HV
            generalize rdN (W.getD m []) = x at HV KT
            have BB := Hb.mk (below_gb B1.out hgb.out B1.out.size (Nat.le_refl _))
            have OB := Hf.mk (own_lt hown.out)
            go_wp2_with (first | (go_at_call 121; refine (HV.out _).mono ?_; rintro e w2 ⟨rfl, b2⟩; have S2 := b2.size; have O2 := Hf.mk (cu_below hown.out b2); have G2 := Hf.mk (gb_trans hgb.out (gb_below (g := some w.heap.size) b2)); clear b2) | (at_builtin; refine wpList_append_lies _ rfl _ _ 77 rfl w.heap.size 2 i0 (.int .i64 0) 1 8 Tryd.underlying77 hi0 hz0 hz1 hz2 rfl (by decide) _ m (ils ((numW W).take m)) rfl (cu_below O2.out ((Below.refl _ _).alloc (Nat.le_refl _) _)) ⟨w2.heap.size, 0, none⟩ 1 1 [.int .i64 x] rfl rfl (str_one _ _ _) int_one (by decide) (by unfold maxLen; omega) (by omega) (by first | omega | (simp <;> omega)) _ rfl ?_; intro g3 cap3 w3 o3 hg3 hp3 hl3))
            go_roundw
            case rel =>
              have hs2 : (w2.alloc (.cells #[.int .i64 x] 2)).heap.size = w2.heap.size + 1 := by simp
              refine ⟨m + 1, g3, cap3, by omega, i_ext2 (by omega), rfl, ?_, KU, ⟨?_⟩, ⟨?_⟩⟩
              · rcases hp3 with h | h
                · obtain rfl := Option.some.inj h; exact hgo
                · rw [h, hs2]; exact .inr (by omega)
              · rw [← KT.out]
                unfold ils at o3 ⊢
                rw [List.map_append]
                exact o3
              · refine gb_step (gb_trans G2.out (gb_below (Below.alloc (Below.refl _ _) (Nat.le_refl _) _))) hg3 ?_
                intro k hk
                obtain rfl : go = k := Option.some.inj hk
                exact hgo
            case measure => simp [intOf]; omega
        · obtain rfl : m = W.length := by omega
          obtain ⟨K1, K2⟩ := KY.out (okW_yes hU.out (by omega))
          subst K1; subst K2
          have BB := Hb.mk (below_gb B1.out hgb.out B1.out.size (Nat.le_refl _))
          go_wp2
          go_ret2
          refine ⟨⟨_, rfl, ?_⟩, (by repeat (first | exact BB.out | refine Below.drews ?_ | refine Below.drew ?_ | refine Below.alloc ?_ (by have hq_ := BB.out.size; first | omega | (simp <;> omega)) _ | refine Below.setCell ?_ (by have hq_ := BB.out.size; first | omega | (simp <;> omega)) _))⟩
          have := hown.out
          rw [List.take_of_length_le (by rw [numW_len]; exact Nat.le_refl _)] at this
          rw [ils_len, numW_len]
          exact this
end Go.Proofs.YtcgakdgfmhkpjaaDoor
namespace Go.Proofs.YtcgakdgfmhkpjaaDoor
open Go Go.RowKit
set_option maxRecDepth 100000

/-- What the library's own variable holds. -/
abbrev MlIs (w : World) (m : Int) : Prop := w.cell? ⟨0, 0, none⟩ = some (.int .i64 m)
theorem MlIs.on {w w' : World} {m : Int} (h : MlIs w m) (b : Below w.heap.size w w') : MlIs w' m := Below.keep b h
set_option maxHeartbeats 2000000 in
theorem readText_any {s : ByteArray} {mx : Int} (hs : s.size ≤ 1048576) (w : World) (ht : P10 w) (hv : MlIs w mx) : Calls Tryd.prog 95 #[.string s, .int .i64 64, .func (.func 96) #[] #[]] w (RLy 2 (rlO s.data.toList) (ils (rlX s.data.toList)) w) := by
  obtain ⟨i0, hi0, hz0, hz1, hz2⟩ := info_parts (P := Tryd.prog) (e := 2) (z := .int .i64 0) (size := 1) (bytes := 8) (by kernel_rfl)
  have B0 := Hb.mk (Below.refl w.heap.size w)
  by_cases hn : s.data.toList = noneL
  · have hq := toL_eq hn
    obtain ⟨K1, K2⟩ := rl_none hn
    rw [K1, K2]
    clear hn K1 K2
    go_enter Tryd.func95, Tryd.ntmps95
    go_wp2
    go_ret2
    exact ⟨⟨_, rfl, World.ownsRow_nil _ _ _ _⟩, (by repeat (first | exact Below.refl _ _ | with_reducible assumption | refine Below.drews ?_ | refine Below.drew ?_ | refine Below.alloc ?_ (by simp <;> omega) _ | refine Below.setCell ?_ (by simp <;> omega) _))⟩
  · have hq := toL_ne hn
    have HT := Hf.mk ht
    have KS := Hf.mk (show ∀ w1, MlIs w1 mx → Calls Tryd.prog 115 #[.string s, .string ⟨#[44]⟩, .int .i64 65] w1 (fun e w' => e = .returned (.slice (some ⟨w1.heap.size, 0, none⟩) (wdN 44 65 s).length (min 65 (s.size + 1))) ∧ w' = w1.alloc (.cells (Lib.cellsOf (wdN 44 65 s) (min 65 (s.size + 1))) 9)) from fun w1 h1 => Tryd.strings_SplitN s ⟨#[44]⟩ 65 mx w1 (by omega) h1 (by decide) (by decide) (by decide))
    have KC := Hf.mk (fun (w : World) h j hj => @wdN_cell w 44 65 s 9 h j hj)
    have KL := Hf.mk (fun h => @wdN_len 44 65 s h)
    have KM := Hf.mk (fun h => @wdN_most 44 65 s (by decide) h)
    have KY := Hf.mk (fun h => rl_yes hn h)
    have KN := Hf.mk (fun h => rl_no hn h)
    have hW0 := cutL_ne 44 s.data.toList
    generalize cutL 44 s.data.toList = W at KC KY KN KL KM hW0
    generalize wdN 44 65 s = D at KC KL KM KS
    generalize min 65 (s.size + 1) = N at KC KS
    have hW1 : 0 < W.length := List.length_pos_iff.2 hW0
    clear hn hW0 ht
    generalize rlO s.data.toList = O at KY KN ⊢
    generalize rlX s.data.toList = X at KY KN ⊢
    by_cases h64 : 64 < W.length
    · obtain ⟨K1, K2⟩ := KN.out (okW_long h64)
      subst K1; subst K2
      have hD := KM.out (by omega)
      rw [hD] at KS
      clear KY KN KC KL KM
      go_enter Tryd.func95, Tryd.ntmps95
      go_wp2_with (go_at_call 115; refine (KS.out _ hv).mono ?_; rintro e w1 ⟨rfl, hw⟩; rw [hw]; clear hw w1)
      go_ret2
      exact RLy.nil (by repeat (first | exact Below.refl _ _ | with_reducible assumption | refine Below.drews ?_ | refine Below.drew ?_ | refine Below.alloc ?_ (by simp <;> omega) _ | refine Below.setCell ?_ (by simp <;> omega) _))
    · have hD := KL.out (by omega)
      rw [hD] at KS
      clear KL KM
      go_enter Tryd.func95, Tryd.ntmps95
      go_wp2_with (first | (go_at_call 115; refine (KS.out _ hv).mono ?_; rintro e w1 ⟨rfl, hw⟩; have T1 := Hf.mk (show TRow w1 w.heap.size W from by rw [hw]; intro j hj; exact KC.out w (by omega) j hj); have B1 := Hb.mk (show Below w.heap.size w w1 from by rw [hw]; exact (by repeat (first | exact Below.refl _ _ | with_reducible assumption | refine Below.drews ?_ | refine Below.drew ?_ | refine Below.alloc ?_ (by simp <;> omega) _ | refine Below.setCell ?_ (by simp <;> omega) _))); have hsz1 : w.heap.size < w1.heap.size := (by rw [hw]; simp); clear hw) | (at_make; refine wpList_make_full _ rfl _ _ 77 rfl w1.heap.size 2 i0 _ 1 Tryd.underlying77 hi0 hz0 hz1 .i64 .i64 _ _ W.length rfl rfl rfl rfl (by rw [hz2]; omega) (by unfold maxLen; omega) (Nat.le_refl _) ?_; intro w0 hown0 hgrow0))
      go_loopw [29] (fun i wr => ∃ (m : Nat) (cur : List Value), m ≤ W.length ∧ i = .int .i64 m ∧ Hf (upO W m) ∧ Hf (wr.ownsRow w1.heap.size 2 1 (.slice (some ⟨w1.heap.size, 0, none⟩) W.length W.length) W.length cur) ∧ Hf (∀ j, j < m → cur[j]? = some (.int .i64 ((numW W).getD j 0))) ∧ Hb (Below w1.heap.size w1 wr)) (fun i _ => W.length - (intOf i).toNat)
      case atStart => exact ⟨0, _, by omega, rfl, ⟨fun j hj => absurd hj (Nat.not_lt_zero j)⟩, ⟨hown0⟩, ⟨fun j hj => absurd hj (Nat.not_lt_zero j)⟩, ⟨(Below.refl _ _).grown hgrow0 (Nat.le_refl _) (fun k h => by cases h)⟩⟩
      case round =>
        obtain ⟨m, cur, hm, rfl, hU, hown, hcur, hB⟩ := hrel
        have hszB := hB.out.size
        have HB0 := Hb.mk (Below.on (B := w.heap.size) (a := w) B1.out hB.out B1.out.size)
        by_cases hlt : m < W.length
        · have hcell : wr.cell? ⟨w.heap.size, m, none⟩ = some (.string (ofL (W.getD m []))) := (T1.out.below hB.out) m hlt
          have hlen : cur.length = W.length := by have := hown.out.1; omega
          obtain ⟨old, hold⟩ : ∃ old, cur[m]? = some old := ⟨_, List.getElem?_eq_getElem (by omega)⟩
          have HV := Hf.mk (fun w ht => iRead_any (ofL (W.getD m [])) w ht)
          cases hk : rdOk (W.getD m [])
          · rw [rdV_no hk] at HV
            obtain ⟨K1, K2⟩ := KN.out (okW_no hlt hk)
            subst K1; subst K2
            clear KY KN
            generalize ofL (W.getD m []) = A at hcell HV
            go_wp2_with (go_at_call 96; refine (HV.out _ (HT.out.on (by repeat (first | with_reducible refine Below.setCell ?_ (by first | omega | (simp <;> omega)) _ | with_reducible refine Below.drews ?_ | with_reducible refine Below.drew ?_ | with_reducible refine Below.alloc ?_ (by first | omega | (simp <;> omega)) _ | with_reducible refine Below.on ?_ HB0.out (by first | omega | (simp <;> omega)) | with_reducible exact Below.refl _ _)))).mono ?_; rintro e w2 ⟨rfl, b2⟩; have B2 := Hb.mk (Below.on (B := w.heap.size) (a := w) (by repeat (first | exact HB0.out | refine Below.drews ?_ | refine Below.drew ?_ | refine Below.alloc ?_ (by have hq_ := HB0.out.size; first | omega | (simp <;> omega)) _ | refine Below.setCell ?_ (by have hq_ := HB0.out.size; first | omega | (simp <;> omega)) _)) b2 (by have hq_ := HB0.out.size; first | omega | (simp <;> omega))); clear b2)
            go_ret2
            exact RLy.nil (by repeat (first | exact B2.out | refine Below.drews ?_ | refine Below.drew ?_ | refine Below.alloc ?_ (by have hq_ := B2.out.size; first | omega | (simp <;> omega)) _ | refine Below.setCell ?_ (by have hq_ := B2.out.size; first | omega | (simp <;> omega)) _))
          · rw [rdV_yes hk] at HV
            have KU := Hf.mk (hU.out.up hk)
            have KA := Hf.mk (numW_at hlt)
            generalize ofL (W.getD m []) = A at hcell HV
            generalize rdN (W.getD m []) = x at HV KA
            go_wp2_with (go_at_call 96; refine (HV.out _ (HT.out.on (by repeat (first | with_reducible refine Below.setCell ?_ (by first | omega | (simp <;> omega)) _ | with_reducible refine Below.drews ?_ | with_reducible refine Below.drew ?_ | with_reducible refine Below.alloc ?_ (by first | omega | (simp <;> omega)) _ | with_reducible refine Below.on ?_ HB0.out (by first | omega | (simp <;> omega)) | with_reducible exact Below.refl _ _)))).mono ?_; rintro e w2 ⟨rfl, b2⟩; have HB1 := Hb.mk (Below.on (B := w1.heap.size) (a := w1) hB.out b2 hszB); have HO1 := Hf.mk (cu_below hown.out b2); have hcA : w2.cell? ⟨w1.heap.size, m, none⟩ = some old := (HO1.out.cellAt m (by omega)).trans hold; have hfA : w2.frozen? ⟨w1.heap.size, m, none⟩ = false := HO1.out.frozenAt m; clear b2)
            go_roundw
            case rel =>
              have hst := HO1.out.stored m (.int .i64 x)
              refine ⟨m + 1, _, by omega, i_ext2 (by omega), KU, ⟨hst.1⟩, ⟨?_⟩, ⟨Below.setCell HB1.out (Nat.le_refl _) _⟩⟩
              intro j hj
              by_cases he : j = m
              · subst he; rw [List.getElem?_set_self (by omega), KA.out]
              · rw [List.getElem?_set_ne (by omega)]; exact hcur.out j (by omega)
            case measure => simp [intOf]; omega
        · obtain rfl : m = W.length := by omega
          obtain ⟨K1, K2⟩ := KY.out (okW_yes hU.out (by omega))
          subst K1; subst K2
          have hlen : cur.length = (numW W).length := by have := hown.out.1; rw [numW_len]; omega
          have hcu := Hf.mk (ils_of hlen (fun j hj => hcur.out j (by rw [numW_len] at hj; exact hj)))
          go_wp2
          go_ret2
          refine ⟨⟨_, rfl, ?_⟩, (by repeat (first | exact HB0.out | refine Below.drews ?_ | refine Below.drew ?_ | refine Below.alloc ?_ (by have hq_ := HB0.out.size; first | omega | (simp <;> omega)) _ | refine Below.setCell ?_ (by have hq_ := HB0.out.size; first | omega | (simp <;> omega)) _))⟩
          have := hown.out
          rw [hcu.out] at this
          rw [ils_len, numW_len]
          exact own_lower this B1.out.size
theorem iRl_any {s : ByteArray} {mx : Int} (hs : s.size ≤ 1048576) (w : World) (ht : P10 w) (hv : MlIs w mx) : Calls Tryd.prog 57 #[.string s] w (RLy 2 (rlO s.data.toList) (ils (rlX s.data.toList)) w) := by
  have K := Hf.mk (fun w ht hv => readText_any (s := s) (mx := mx) hs w ht hv)
  generalize rlO s.data.toList = O at K ⊢
  generalize ils (rlX s.data.toList) = X at K ⊢
  have B0 := Hb.mk (Below.refl w.heap.size w)
  go_enter Tryd.func57, Tryd.ntmps57
  go_wp2_with (go_at_call 95; refine (K.out _ (ht.on (by repeat (first | exact Below.refl _ _ | with_reducible assumption | refine Below.drews ?_ | refine Below.drew ?_ | refine Below.alloc ?_ (by simp <;> omega) _ | refine Below.setCell ?_ (by simp <;> omega) _))) (hv.on (by repeat (first | exact Below.refl _ _ | with_reducible assumption | refine Below.drews ?_ | refine Below.drew ?_ | refine Below.alloc ?_ (by simp <;> omega) _ | refine Below.setCell ?_ (by simp <;> omega) _)))).mono ?_; rintro e w1 ⟨⟨v, rfl, o1⟩, b1⟩; have O1 := Hf.mk o1; have B1 := Hb.mk (Below.on (B := w.heap.size) (a := w) (by repeat (first | exact B0.out | refine Below.drews ?_ | refine Below.drew ?_ | refine Below.alloc ?_ (by have hq_ := B0.out.size; first | omega | (simp <;> omega)) _ | refine Below.setCell ?_ (by have hq_ := B0.out.size; first | omega | (simp <;> omega)) _)) b1 (by have hq_ := B0.out.size; first | omega | (simp <;> omega))); clear b1 o1)
  go_ret2
  exact ⟨⟨_, rfl, O1.out⟩, (by repeat (first | exact B1.out | refine Below.drews ?_ | refine Below.drew ?_ | refine Below.alloc ?_ (by have hq_ := B1.out.size; first | omega | (simp <;> omega)) _ | refine Below.setCell ?_ (by have hq_ := B1.out.size; first | omega | (simp <;> omega)) _))⟩
end Go.Proofs.YtcgakdgfmhkpjaaDoor
namespace Go.Proofs.YtcgakdgfmhkpjaaDoor
open Go Go.RowKit
set_option maxRecDepth 100000

def hxd (b : UInt8) : Bool := decide ((48 ≤ b.toNat ∧ b.toNat ≤ 57) ∨ (97 ≤ b.toNat ∧ b.toNat ≤ 102))
def hxv (b : UInt8) : Nat := if b.toNat ≤ 57 then b.toNat - 48 else b.toNat - 97 + 10
def hval (l : List UInt8) : Nat := l.foldl (fun n b => 16 * n + hxv b) 0
theorem hval_up {l : List UInt8} {m : Nat} (h : m < l.length) : hval (l.take (m + 1)) = 16 * hval (l.take m) + hxv (l.getD m 0) := by
  rw [take_next l m h]
  unfold hval
  rw [List.foldl_append]
  rfl
theorem hxv_lt {b : UInt8} (h : hxd b = true) : hxv b < 16 := by
  unfold hxd at h
  rw [decide_eq_true_eq] at h
  unfold hxv
  split <;> omega
def upH (l : List UInt8) (m : Nat) : Prop := ∀ j, j < m → hxd (l.getD j 0) = true
theorem upH.up {l : List UInt8} {m : Nat} (h : upH l m) (h1 : hxd (l.getD m 0) = true) : upH l (m + 1) := fun j hj => by
  by_cases e : j = m
  · subst e; exact h1
  · exact h j (by omega)
theorem hval_pow {l : List UInt8} : ∀ m, m ≤ l.length → upH l m → hval (l.take m) < 16 ^ m := by
  intro m
  induction m with
  | zero => intro _ _; rw [List.take_zero]; decide
  | succ m ih =>
    intro hm h
    have h1 := ih (by omega) (fun j hj => h j (by omega))
    have h2 := hxv_lt (h m (by omega))
    rw [hval_up (by omega), Nat.pow_succ]
    omega
theorem hval_32 {l : List UInt8} {m : Nat} (hl : l.length = 8) (hm : m ≤ 8) (h : upH l m) : hval (l.take m) < 4294967296 := by
  refine Nat.lt_of_lt_of_le (hval_pow m (by omega) h) ?_
  exact Nat.le_trans (Nat.pow_le_pow_right (by decide) hm) (by decide)
/-- A word says a number. -/
def hwOk (l : List UInt8) : Bool := decide (l.length = 8) && (l.all hxd && decide (nrm .f32 (hval l) = hval l))
theorem hwOk_len {l : List UInt8} (h : l.length ≠ 8) : hwOk l = false := by unfold hwOk; rw [decide_eq_false h]; rfl
theorem hwOk_dig {l : List UInt8} {m : Nat} (hm : m < l.length) (h : hxd (l.getD m 0) = false) : hwOk l = false := by
  rw [Bool.eq_false_iff]
  intro e
  unfold hwOk at e
  rw [Bool.and_eq_true, Bool.and_eq_true, List.all_eq_true] at e
  have := e.2.1 _ (show l.getD m 0 ∈ l by rw [List.getD, List.getElem?_eq_getElem hm]; exact List.getElem_mem hm)
  rw [h] at this
  cases this
theorem hwOk_end {l : List UInt8} (hl : l.length = 8) (h : upH l 8) : hwOk l = decide (nrm .f32 (hval l) = hval l) := by
  unfold hwOk
  have : l.all hxd = true := by
    rw [List.all_eq_true]
    intro x hx
    obtain ⟨j, hj, rfl⟩ := List.mem_iff_getElem.1 hx
    have := h j (by omega)
    rwa [List.getD, List.getElem?_eq_getElem hj] at this
  rw [decide_eq_true hl, this]
  rfl
theorem hwOk_fl {l : List UInt8} (h : hwOk l = true) : Fl .f32 (hval l) (hval l) := by
  unfold hwOk at h
  rw [Bool.and_eq_true, Bool.and_eq_true, List.all_eq_true, decide_eq_true_eq, decide_eq_true_eq] at h
  obtain ⟨h1, h2, h3⟩ := h
  have h4 : hval l < 4294967296 := by
    have := hval_32 (l := l) (m := 8) h1 (Nat.le_refl _) (fun j hj => h2 _ (by rw [List.getD, List.getElem?_eq_getElem (by omega)]; exact List.getElem_mem _))
    rwa [List.take_of_length_le (by omega)] at this
  have := Fl.own (k := .f32) (x := hval l) (wf_of_lt .f32 _ (by show _ < 2 ^ 32; omega))
  rwa [h3] at this
/-- Few words, all of which say a number. -/
def okF (W : List (List UInt8)) : Bool := decide (W.length ≤ 256) && W.all hwOk
def numF (W : List (List UInt8)) : List Nat := W.map hval
theorem numF_len (W : List (List UInt8)) : (numF W).length = W.length := by simp [numF]
theorem takeF_up {xs : List Nat} {m : Nat} {x : Nat} (hm : m < xs.length) (hx : xs.getD m 0 = x) : xs.take m ++ [x] = xs.take (m + 1) := by
  rw [List.take_add_one, List.getElem?_eq_getElem hm]
  simp [List.getD, List.getElem?_eq_getElem hm] at hx
  rw [← hx]
  rfl
theorem numF_at {W : List (List UInt8)} {m : Nat} (h : m < W.length) : (numF W).getD m 0 = hval (W.getD m []) := by
  unfold numF
  simp [List.getD, List.getElem?_map, List.getElem?_eq_getElem h]
def upF (W : List (List UInt8)) (m : Nat) : Prop := ∀ j, j < m → hwOk (W.getD j []) = true
theorem upF.up {W : List (List UInt8)} {m : Nat} (h : upF W m) (h1 : hwOk (W.getD m []) = true) : upF W (m + 1) := fun j hj => by
  by_cases e : j = m
  · subst e; exact h1
  · exact h j (by omega)
theorem okF_yes {W : List (List UInt8)} (h : upF W W.length) (h64 : W.length ≤ 256) : okF W = true := by
  unfold okF
  rw [Bool.and_eq_true, List.all_eq_true]
  refine ⟨decide_eq_true h64, fun x hx => ?_⟩
  obtain ⟨j, hj, rfl⟩ := List.mem_iff_getElem.1 hx
  have := h j hj
  rwa [List.getD, List.getElem?_eq_getElem hj] at this
theorem okF_no {W : List (List UInt8)} {m : Nat} (hm : m < W.length) (h : hwOk (W.getD m []) = false) : okF W = false := by
  rw [Bool.eq_false_iff]
  intro e
  unfold okF at e
  rw [Bool.and_eq_true, List.all_eq_true] at e
  have := e.2 _ (show W.getD m [] ∈ W by rw [List.getD, List.getElem?_eq_getElem hm]; exact List.getElem_mem hm)
  rw [h] at this
  cases this
theorem okF_long {W : List (List UInt8)} (h : 256 < W.length) : okF W = false := by
  unfold okF
  rw [decide_eq_false (by omega)]; rfl
/-- What is read. -/
def rnO (l : List UInt8) : Bool := decide (l = noneL) || okF (cutL 44 l)
def rnX (l : List UInt8) : List Nat := if l = noneL then [] else if okF (cutL 44 l) then numF (cutL 44 l) else []
theorem rn_none {l : List UInt8} (h : l = noneL) : rnO l = true ∧ rnX l = [] := by
  unfold rnO rnX
  rw [if_pos h, decide_eq_true h]
  exact ⟨rfl, rfl⟩
theorem rn_no {l : List UInt8} (h : l ≠ noneL) (hk : okF (cutL 44 l) = false) : rnO l = false ∧ rnX l = [] := by
  unfold rnO rnX
  rw [if_neg h, decide_eq_false h, hk]
  exact ⟨rfl, rfl⟩
theorem rn_yes {l : List UInt8} (h : l ≠ noneL) (hk : okF (cutL 44 l) = true) : rnO l = true ∧ rnX l = numF (cutL 44 l) := by
  unfold rnO rnX
  rw [if_neg h, hk]
  exact ⟨by simp, rfl⟩
theorem rnX_len (l : List UInt8) : (rnX l).length ≤ 256 := by
  unfold rnX
  split
  · exact Nat.zero_le _
  · split
    · next h =>
      unfold okF at h
      rw [Bool.and_eq_true] at h
      rw [numF_len]
      exact of_decide_eq_true h.1
    · exact Nat.zero_le _
/-- All of them are told by themselves. -/
def FlW (xs : List Nat) : Prop := ∀ j, j < xs.length → Fl .f32 (xs.getD j 0) (xs.getD j 0)
theorem rnX_fl (l : List UInt8) : FlW (rnX l) := by
  intro j hj
  unfold rnX at hj ⊢
  split at hj
  · simp at hj
  · next h0 =>
    rw [if_neg h0]
    split at hj
    · next h =>
      rw [if_pos h]
      rw [numF_len] at hj
      rw [numF_at hj]
      unfold okF at h
      rw [Bool.and_eq_true, List.all_eq_true] at h
      exact hwOk_fl (h.2 _ (by rw [List.getD, List.getElem?_eq_getElem hj]; exact List.getElem_mem hj))
    · simp at hj
theorem fls_len (xs : List Nat) : (fls xs).length = xs.length := by simp [fls]
theorem RLy.nilF {T : TypeId} {w w' : World} (b : Below w.heap.size w w') : RLy T false (fls []) w (.returned (.tuple #[.slice none 0 0, .bool false])) w' := ⟨⟨_, rfl, World.ownsRow_nil _ _ _ _⟩, b⟩
end Go.Proofs.YtcgakdgfmhkpjaaDoor
namespace Go.Proofs.YtcgakdgfmhkpjaaDoor
open Go Go.RowKit
set_option maxRecDepth 100000
set_option maxHeartbeats 4000000 in
theorem sRn_any {s : ByteArray} (hs : s.size ≤ 1048576) (w : World) : Calls Tryd.prog 78 #[.string s] w (RLy 58 (rnO s.data.toList) (fls (rnX s.data.toList)) w) := by
  obtain ⟨i0, hi0, hz0, hz1, hz2⟩ := info_parts (P := Tryd.prog) (e := 58) (z := .float .f32 0) (size := 1) (bytes := 4) (by kernel_rfl)
  have B0 := Hb.mk (Below.refl w.heap.size w)
  by_cases hn : s.data.toList = noneL
  · have hq := toL_eq hn
    obtain ⟨K1, K2⟩ := rn_none hn
    rw [K1, K2]
    clear hn K1 K2
    go_enter Tryd.func78, Tryd.ntmps78
    go_wp2
    go_ret2
    exact ⟨⟨_, rfl, World.ownsRow_made _ _ _ (Nat.le_refl _) (by decide) rfl⟩, (by repeat (first | exact Below.refl _ _ | with_reducible assumption | refine Below.drews ?_ | refine Below.drew ?_ | refine Below.alloc ?_ (by simp <;> omega) _ | refine Below.setCell ?_ (by simp <;> omega) _))⟩
  · have hq := toL_ne hn
    have KC := Hf.mk (fun w => l01Cut_any (c := 44) hs w)
    have KY := Hf.mk (fun h => rn_yes hn h)
    have KN := Hf.mk (fun h => rn_no hn h)
    have hW0 := cutL_ne 44 s.data.toList
    have hWl : (cutL 44 s.data.toList).length ≤ 1048577 := by have := cutL_count 44 s.data.toList; have := count_len 44 s.data.toList; have : s.data.toList.length = s.size := rfl; omega
    generalize cutL 44 s.data.toList = W at KC KY KN hW0 hWl
    have hW1 : 0 < W.length := List.length_pos_iff.2 hW0
    clear hn hW0
    generalize rnO s.data.toList = O at KY KN ⊢
    generalize rnX s.data.toList = X at KY KN ⊢
    by_cases h256 : 256 < W.length
    · obtain ⟨K1, K2⟩ := KN.out (okF_long h256)
      subst K1; subst K2
      clear KY KN
      go_enter Tryd.func78, Tryd.ntmps78
      go_wp2_with (go_at_call 91; refine (KC.out _).mono ?_; rintro e w1 ⟨v1, rfl, o1, b1⟩; obtain ⟨g1, k1, rfl, hg1, hl1, hk1⟩ := cu_shf o1 hW1; have B1 := Hb.mk (Below.on (B := w.heap.size) (a := w) (by repeat (first | exact B0.out | refine Below.drews ?_ | refine Below.drew ?_ | refine Below.alloc ?_ (by have hq_ := B0.out.size; first | omega | (simp <;> omega)) _ | refine Below.setCell ?_ (by have hq_ := B0.out.size; first | omega | (simp <;> omega)) _)) b1 (by have hq_ := B0.out.size; first | omega | (simp <;> omega))); clear o1 b1)
      go_ret2
      exact RLy.nilF (by repeat (first | exact B1.out | refine Below.drews ?_ | refine Below.drew ?_ | refine Below.alloc ?_ (by have hq_ := B1.out.size; first | omega | (simp <;> omega)) _ | refine Below.setCell ?_ (by have hq_ := B1.out.size; first | omega | (simp <;> omega)) _))
    · go_enter Tryd.func78, Tryd.ntmps78
      go_wp2_with (go_at_call 91; refine (KC.out _).mono ?_; rintro e w1 ⟨v1, rfl, o1, b1⟩; obtain ⟨g1, k1, rfl, hg1, hl1, hk1⟩ := cu_shf o1 hW1; have B1 := Hb.mk (Below.on (B := w.heap.size) (a := w) (by repeat (first | exact B0.out | refine Below.drews ?_ | refine Below.drew ?_ | refine Below.alloc ?_ (by have hq_ := B0.out.size; first | omega | (simp <;> omega)) _ | refine Below.setCell ?_ (by have hq_ := B0.out.size; first | omega | (simp <;> omega)) _)) b1 (by have hq_ := B0.out.size; first | omega | (simp <;> omega))); have T1 := Hf.mk (trow_own o1); have O1 := Hf.mk (show w1.ownsRow w.heap.size 58 1 (.slice (some ⟨w.heap.size, 0, none⟩) 0 0) 0 [] from cu_below (World.ownsRow_made _ _ _ (Nat.le_refl _) (by decide) rfl) b1); have hsz1 := b1.size; clear o1 b1)
      simp at hg1 hsz1
      go_loopw [4, 6] (fun v i wr => ∃ (m go cap : Nat), m ≤ W.length ∧ i = .int .i64 m ∧ v = .slice (some ⟨go, 0, none⟩) m cap ∧ (go = w.heap.size ∨ w1.heap.size ≤ go) ∧ Hf (upF W m) ∧ Hf (wr.ownsRow w.heap.size 58 1 v m (fls ((numF W).take m))) ∧ Hf (w1.grownBy wr (some w.heap.size))) (fun _ i _ => W.length - (intOf i).toNat)
      case atStart => exact ⟨0, w.heap.size, 0, by omega, rfl, rfl, .inl rfl, ⟨fun j hj => absurd hj (Nat.not_lt_zero j)⟩, O1, ⟨gb_refl _ _⟩⟩
      case round =>
        obtain ⟨m, go, cap, hm, rfl, rfl, hgo, hU, hown, hgb⟩ := hrel
        obtain ⟨W1, hW1e⟩ : ∃ W1, W1 = wr := ⟨_, rfl⟩
        subst hW1e
        have hsz := hgb.out.size
        have T2 := Hf.mk (T1.out.gb hgb.out (by omega))
        by_cases hlt : m < W.length
        · have hcell0 : W1.cell? ⟨g1, m, none⟩ = some (.string (ofL (W.getD m []))) := T2.out m hlt
          have KNo := Hf.mk (fun hk => KN.out (okF_no hlt hk))
          have KU := Hf.mk (fun hk => hU.out.up (m := m) hk)
          have KT := Hf.mk (takeF_up (xs := numF W) (m := m) (by rw [numF_len]; exact hlt) (numF_at hlt))
          have HL := Hf.mk (show (fls ((numF W).take m)).length = m by rw [fls_len, List.length_take, numF_len]; omega)
          have BB := Hb.mk (below_gb B1.out hgb.out B1.out.size (Nat.le_refl _))
          have OB := Hf.mk (own_lt hown.out)
          obtain ⟨l, hl⟩ : ∃ l, l = W.getD m [] := ⟨_, rfl⟩
          rw [← hl] at hcell0 KNo KU KT
          obtain ⟨A, hA⟩ : ∃ A, A = ofL l := ⟨_, rfl⟩
          have hcell : W1.cell? ⟨g1, m, none⟩ = some (.string A) := by rw [hA]; exact hcell0
          have HA : Hf (A.data.toList = l) := ⟨by rw [hA]⟩
          have hAl := Hf.mk (show A.size = l.length by rw [hA, ofL_size])
          clear hl hA hcell0
          by_cases h8 : A.size = 8
          · have hl8 := Hf.mk (show l.length = 8 by rw [← hAl.out]; exact h8)
            have hd8 : ((A.size : Int) != 8) = false := by rw [h8]; rfl
            have H8 := Hf.mk h8
            clear h8
            go_wp2
            go_loopw [7, 8] (fun n k w' => ∃ q : Nat, q ≤ 8 ∧ k = .int .i64 q ∧ n = .int .i64 (hval (l.take q) : Nat) ∧ Hf (upH l q) ∧ Drew W1 w') (fun _ k _ => 8 - (intOf k).toNat)
            case atStart => exact ⟨0, by omega, rfl, rfl, ⟨fun j hj => absurd hj (Nat.not_lt_zero j)⟩, (by repeat (first | exact Drew.refl _ | refine Drew.more ?_))⟩
            case round =>
              obtain ⟨q, hq, rfl, rfl, hH, nd, rfl⟩ := hrel
              have hv := hval_32 hl8.out hq hH.out
              obtain ⟨X, hX⟩ : ∃ X, X = hval (l.take q) := ⟨_, rfl⟩
              rw [← hX] at hv ⊢
              have HX := Hf.mk hX
              clear hX
              by_cases hq8 : q < 8
              · have hlt8 : q < A.size := by rw [H8.out]; exact hq8
                have hb : (A[q]'hlt8).toNat < 256 := UInt8.toNat_lt _
                have hb2 : (A.data[q]'hlt8).toNat < 256 := hb
                have HB := Hf.mk (show (l.getD q 0).toNat = (A[q]'hlt8).toNat by rw [← HA.out, ← byt_d, ← byt_at A q hlt8])
                by_cases c1 : (A[q]'hlt8).toNat < 48
                · have c1' : (A.data[q]'hlt8).toNat < 48 := c1
                  obtain ⟨K1, K2⟩ := KNo.out (hwOk_dig (m := q) (by rw [hl8.out]; exact hq8) (by unfold hxd; rw [HB.out]; exact decide_eq_false (by omega)))
                  subst K1; subst K2
                  clear KY KN KNo KU KT
                  go_wp2
                  go_ret2
                  exact RLy.nilF (by repeat (first | exact BB.out | refine Below.drews ?_ | refine Below.drew ?_ | refine Below.alloc ?_ (by have hq_ := BB.out.size; first | omega | (simp <;> omega)) _ | refine Below.setCell ?_ (by have hq_ := BB.out.size; first | omega | (simp <;> omega)) _))
                · have c1' : ¬ (A.data[q]'hlt8).toNat < 48 := c1
                  by_cases c2 : (A[q]'hlt8).toNat ≤ 57
                  · have c2' : (A.data[q]'hlt8).toNat ≤ 57 := c2
                    have KD := Hf.mk (show hxd (l.getD q 0) = true by unfold hxd; rw [HB.out]; exact decide_eq_true (by omega))
                    have KH := Hf.mk (show hval (l.take (q + 1)) = 16 * X + ((A[q]'hlt8).toNat - 48) by rw [hval_up (by rw [hl8.out]; exact hq8), ← HX.out]; unfold hxv; rw [HB.out]; split <;> omega)
                    go_wp2
                    go_roundw
                    case rel => exact ⟨q + 1, by omega, i_ext2 (by omega), i_ext2 (by rw [KH.out]; omega), ⟨hH.out.up KD.out⟩, (by repeat (first | exact Drew.refl _ | refine Drew.more ?_))⟩
                    case measure => simp [intOf]; omega
                  · have c2' : ¬ (A.data[q]'hlt8).toNat ≤ 57 := c2
                    by_cases c3 : (A[q]'hlt8).toNat < 97
                    · have c3' : (A.data[q]'hlt8).toNat < 97 := c3
                      obtain ⟨K1, K2⟩ := KNo.out (hwOk_dig (m := q) (by rw [hl8.out]; exact hq8) (by unfold hxd; rw [HB.out]; exact decide_eq_false (by omega)))
                      subst K1; subst K2
                      clear KY KN KNo KU KT
                      go_wp2
                      go_ret2
                      exact RLy.nilF (by repeat (first | exact BB.out | refine Below.drews ?_ | refine Below.drew ?_ | refine Below.alloc ?_ (by have hq_ := BB.out.size; first | omega | (simp <;> omega)) _ | refine Below.setCell ?_ (by have hq_ := BB.out.size; first | omega | (simp <;> omega)) _))
                    · have c3' : ¬ (A.data[q]'hlt8).toNat < 97 := c3
                      by_cases c4 : (A[q]'hlt8).toNat ≤ 102
                      · have c4' : (A.data[q]'hlt8).toNat ≤ 102 := c4
                        have KD := Hf.mk (show hxd (l.getD q 0) = true by unfold hxd; rw [HB.out]; exact decide_eq_true (by omega))
                        have KH := Hf.mk (show hval (l.take (q + 1)) = 16 * X + ((A[q]'hlt8).toNat - 97 + 10) by rw [hval_up (by rw [hl8.out]; exact hq8), ← HX.out]; unfold hxv; rw [HB.out]; split <;> omega)
                        go_wp2
                        go_roundw
                        case rel => exact ⟨q + 1, by omega, i_ext2 (by omega), i_ext2 (by rw [KH.out]; omega), ⟨hH.out.up KD.out⟩, (by repeat (first | exact Drew.refl _ | refine Drew.more ?_))⟩
                        case measure => simp [intOf]; omega
                      · have c4' : ¬ (A.data[q]'hlt8).toNat ≤ 102 := c4
                        obtain ⟨K1, K2⟩ := KNo.out (hwOk_dig (m := q) (by rw [hl8.out]; exact hq8) (by unfold hxd; rw [HB.out]; exact decide_eq_false (by omega)))
                        subst K1; subst K2
                        clear KY KN KNo KU KT
                        go_wp2
                        go_ret2
                        exact RLy.nilF (by repeat (first | exact BB.out | refine Below.drews ?_ | refine Below.drew ?_ | refine Below.alloc ?_ (by have hq_ := BB.out.size; first | omega | (simp <;> omega)) _ | refine Below.setCell ?_ (by have hq_ := BB.out.size; first | omega | (simp <;> omega)) _))
              · obtain rfl : q = 8 := by omega
                have hX8 : X = hval l := by rw [HX.out, List.take_of_length_le (by rw [hl8.out]; exact Nat.le_refl _)]
                have HE := Hf.mk (hwOk_end hl8.out hH.out)
                rw [← hX8] at HE KT
                have HFr := Hf.mk (show ∀ w, Calls Tryd.prog 113 #[.int .i64 (X : Int)] w (RT (.float .f32 X) w) from fun w => by have := l01From_any (n := (X : Int)) (by omega) (by omega) w; rw [Int.toNat_natCast] at this; exact this)
                have HBt := Hf.mk (fun w => l01Bits_any (Fl.own (k := .f32) (x := X) (wf_of_lt .f32 _ (by show _ < 2 ^ 32; omega))) w)
                clear hX8 HX
                by_cases hc : nrm .f32 X = X
                · rw [hc] at HBt
                  have hk := HE.out.trans (decide_eq_true hc)
                  have KU2 := Hf.mk (KU.out hk)
                  clear HE hc
                  go_wp2_with (first | (go_at_call 113; refine (HFr.out _).mono ?_; rintro e w' ⟨rfl, n1, rfl⟩) | (go_at_call 114; refine (HBt.out _).mono ?_; rintro e w' ⟨rfl, n2, rfl⟩) | (at_builtin; refine wpList_append_lies _ rfl _ _ 34 rfl w.heap.size 58 i0 (.float .f32 0) 1 4 Tryd.underlying34 hi0 hz0 hz1 hz2 rfl (by decide) _ m (fls ((numF W).take m)) rfl (cu_below hown.out (by repeat (first | exact Below.refl _ _ | with_reducible assumption | refine Below.drews ?_ | refine Below.drew ?_ | refine Below.alloc ?_ (by simp <;> omega) _ | refine Below.setCell ?_ (by simp <;> omega) _))) ⟨W1.heap.size, 0, none⟩ 1 1 [.float .f32 X] rfl rfl (str_one _ _ _) flt_one (by decide) (by unfold maxLen; omega) (by omega) (by first | omega | (simp <;> omega)) W1.heap.size.succ (by simp) ?_; intro g3 cap3 w3 o3 hg3 hp3 hl3; have HG3 := Hf.mk (gb_step (gb_trans hgb.out (gb_below (w := W1) (g := some w.heap.size) (by repeat (first | exact Below.refl _ _ | with_reducible assumption | refine Below.drews ?_ | refine Below.drew ?_ | refine Below.alloc ?_ (by simp <;> omega) _ | refine Below.setCell ?_ (by simp <;> omega) _)))) hg3 (fun k hk => by obtain rfl : go = k := Option.some.inj hk; exact hgo)); clear hg3))
                  go_roundw
                  case rel =>
                    refine ⟨m + 1, g3, cap3, by omega, i_ext2 (by omega), rfl, ?_, KU2, ⟨?_⟩, HG3⟩
                    · rcases hp3 with h | h
                      · obtain rfl := Option.some.inj h; exact hgo
                      · rw [h]; exact .inr (by omega)
                    · rw [← KT.out]
                      unfold fls at o3 ⊢
                      rw [List.map_append]
                      exact o3
                  case measure => simp [intOf]; omega
                · have hk := HE.out.trans (decide_eq_false hc)
                  obtain ⟨K1, K2⟩ := KNo.out hk
                  subst K1; subst K2
                  have hne : (((nrm .f32 X : Nat) : Int) != (X : Int)) = true := by rw [bne_iff_ne]; omega
                  generalize nrm .f32 X = Y at HBt hne
                  clear KY KN KNo KU KT HE hk hc
                  go_wp2_with (first | (go_at_call 113; refine (HFr.out _).mono ?_; rintro e w' ⟨rfl, n1, rfl⟩) | (go_at_call 114; refine (HBt.out _).mono ?_; rintro e w' ⟨rfl, n2, rfl⟩))
                  go_ret2
                  exact RLy.nilF (by repeat (first | exact BB.out | refine Below.drews ?_ | refine Below.drew ?_ | refine Below.alloc ?_ (by have hq_ := BB.out.size; first | omega | (simp <;> omega)) _ | refine Below.setCell ?_ (by have hq_ := BB.out.size; first | omega | (simp <;> omega)) _))
          · obtain ⟨K1, K2⟩ := KNo.out (hwOk_len (by rw [← hAl.out]; exact h8))
            subst K1; subst K2
            have hd8 : ((A.size : Int) != 8) = true := by rw [bne_iff_ne]; omega
            clear KY KN KNo KU KT h8
            go_wp2
            go_ret2
            exact RLy.nilF (by repeat (first | exact BB.out | refine Below.drews ?_ | refine Below.drew ?_ | refine Below.alloc ?_ (by have hq_ := BB.out.size; first | omega | (simp <;> omega)) _ | refine Below.setCell ?_ (by have hq_ := BB.out.size; first | omega | (simp <;> omega)) _))
        · obtain rfl : m = W.length := by omega
          obtain ⟨K1, K2⟩ := KY.out (okF_yes hU.out (by omega))
          subst K1; subst K2
          have BB := Hb.mk (below_gb B1.out hgb.out B1.out.size (Nat.le_refl _))
          go_wp2
          go_ret2
          refine ⟨⟨_, rfl, ?_⟩, (by repeat (first | exact BB.out | refine Below.drews ?_ | refine Below.drew ?_ | refine Below.alloc ?_ (by have hq_ := BB.out.size; first | omega | (simp <;> omega)) _ | refine Below.setCell ?_ (by have hq_ := BB.out.size; first | omega | (simp <;> omega)) _))⟩
          have := hown.out
          rw [List.take_of_length_le (by rw [numF_len]; exact Nat.le_refl _)] at this
          rw [fls_len, numF_len]
          exact this
end Go.Proofs.YtcgakdgfmhkpjaaDoor
namespace Go.Proofs.YtcgakdgfmhkpjaaDoor
open Go Go.RowKit
set_option maxRecDepth 100000

theorem hexDigit_no {r : Int} (h : r < 48 ∨ (57 < r ∧ r < 97) ∨ 102 < r) (w : World) : Calls Tryd.prog 116 #[.int .i32 r] w (fun e w' => e = .returned (.tuple #[.int .i64 0, .bool false]) ∧ w' = w) := by
  have KI := Hf.mk (fun w => isDigit_any r w)
  rw [decide_eq_false (by omega)] at KI
  by_cases h1 : 97 ≤ r
  · have h2 : 102 < r := by omega
    go_enter Tryd.func116, Tryd.ntmps116
    go_wp2_with (go_at_call 124; refine (KI.out _).mono ?_; rintro e w1 ⟨rfl, rfl⟩)
    go_ret2
    exact ⟨rfl, rfl⟩
  · go_enter Tryd.func116, Tryd.ntmps116
    go_wp2_with (go_at_call 124; refine (KI.out _).mono ?_; rintro e w1 ⟨rfl, rfl⟩)
    go_ret2
    exact ⟨rfl, rfl⟩
theorem hexDigit_dec {r : Int} (h : 48 ≤ r ∧ r ≤ 57) (w : World) : Calls Tryd.prog 116 #[.int .i32 r] w (fun e w' => e = .returned (.tuple #[.int .i64 (r - 48), .bool true]) ∧ w' = w) := by
  have KI := Hf.mk (fun w => isDigit_any r w)
  rw [decide_eq_true h] at KI
  go_enter Tryd.func116, Tryd.ntmps116
  go_wp2_with (go_at_call 124; refine (KI.out _).mono ?_; rintro e w1 ⟨rfl, rfl⟩)
  go_ret2
  exact ⟨rfl, rfl⟩
theorem hexDigit_hex {r : Int} (h : 97 ≤ r ∧ r ≤ 102) (w : World) : Calls Tryd.prog 116 #[.int .i32 r] w (fun e w' => e = .returned (.tuple #[.int .i64 (r - 97 + 10), .bool true]) ∧ w' = w) := by
  have KI := Hf.mk (fun w => isDigit_any r w)
  rw [decide_eq_false (by omega)] at KI
  go_enter Tryd.func116, Tryd.ntmps116
  go_wp2_with (go_at_call 124; refine (KI.out _).mono ?_; rintro e w1 ⟨rfl, rfl⟩)
  go_ret2
  exact ⟨rfl, rfl⟩
/-- 'returns a number and whether the word says it' -/
def RW (l : List UInt8) (w : World) (e : Ending) (w' : World) : Prop := ∃ x, e = .returned (.tuple #[.float .f32 x, .bool (hwOk l)]) ∧ (hwOk l = true → x = hval l) ∧ Below w.heap.size w w'
theorem RW.no {l : List UInt8} {w w' : World} {x : Nat} (h : hwOk l = false) (b : Below w.heap.size w w') : RW l w (.returned (.tuple #[.float .f32 x, .bool false])) w' := ⟨x, by rw [h], (by intro e; rw [h] at e; cases e), b⟩
theorem RW.yes {l : List UInt8} {w w' : World} {x : Nat} (h : hwOk l = true) (hx : x = hval l) (b : Below w.heap.size w w') : RW l w (.returned (.tuple #[.float .f32 x, .bool true])) w' := ⟨x, by rw [h], fun _ => hx, b⟩
theorem RW.out_no {l : List UInt8} {w w' : World} {e : Ending} (hk : hwOk l = false) (h : RW l w e w') : ∃ x, e = .returned (.tuple #[.float .f32 x, .bool false]) ∧ Below w.heap.size w w' := by
  obtain ⟨x, he, _, hb⟩ := h
  rw [hk] at he
  exact ⟨x, he, hb⟩
theorem RW.out_yes {l : List UInt8} {w w' : World} {e : Ending} (hk : hwOk l = true) (h : RW l w e w') : RS (.tuple #[.float .f32 (hval l), .bool true]) w e w' := by
  obtain ⟨x, he, hx, hb⟩ := h
  rw [hk, hx hk] at he
  exact ⟨he, hb⟩
set_option maxHeartbeats 2000000 in
theorem iWord_any (z : ByteArray) (w : World) : Calls Tryd.prog 80 #[.string z] w (RW z.data.toList w) := by
  obtain ⟨l, hl⟩ : ∃ l, l = z.data.toList := ⟨_, rfl⟩
  have HA := Hf.mk hl.symm
  rw [← hl]
  have hAl := Hf.mk (show z.size = l.length by rw [hl]; rfl)
  clear hl
  have KB := Hf.mk (fun p => (Below.refl _ w).alloc (Nat.le_refl _) _ : ∀ p, Below w.heap.size w (w.iter z p))
  by_cases h8 : z.size = 8
  · have hl8 := Hf.mk (show l.length = 8 by rw [← hAl.out]; exact h8)
    have hd8 : ((z.size : Int) != 8) = false := by rw [h8]; rfl
    have H8 := Hf.mk h8
    clear h8
    go_enter Tryd.func80, Tryd.ntmps80
    go_wp2
    go_loopw [4] (fun n w' => ∃ m : Nat, m ≤ 8 ∧ n = .int .i64 (hval (l.take m) : Nat) ∧ Hf (upH l m) ∧ w' = w.iter z m) (fun _ w' => z.size - w'.iterPos w.heap.size)
    case atStart => exact ⟨0, by omega, rfl, ⟨fun j hj => absurd hj (Nat.not_lt_zero j)⟩, rfl⟩
    case round =>
      obtain ⟨m, hm, rfl, hH, rfl⟩ := hrel
      have hv := hval_32 hl8.out hm hH.out
      obtain ⟨X, hX⟩ : ∃ X, X = hval (l.take m) := ⟨_, rfl⟩
      rw [← hX] at hv ⊢
      have HX := Hf.mk hX
      clear hX
      by_cases hm8 : m < 8
      · have hlt : m < z.size := by rw [H8.out]; exact hm8
        have HB := Hf.mk (show (l.getD m 0).toNat = (z[m]'hlt).toNat by rw [← HA.out, ← byt_d, ← byt_at z m hlt])
        have KD := Hf.mk (fun (h : hxd (l.getD m 0) = false) => hwOk_dig (l := l) (m := m) (by rw [hl8.out]; exact hm8) h)
        by_cases hh : 128 ≤ (z[m]'hlt).toNat
        · have hnx : ∀ ty, (Instr.next (.pointer (some ⟨w.heap.size, 0, none⟩)) true ty).run Tryd.prog (w.iter z m) = _ := fun ty => run_next_any w z m ty hlt
          obtain ⟨g, _⟩ := decode_high z m hlt hh
          have K := Hf.mk (KD.out (by unfold hxd; rw [HB.out]; exact decide_eq_false (by omega)))
          have KIn := Hf.mk (fun {x : Int} (hx : x < 48 ∨ (57 < x ∧ x < 97) ∨ 102 < x) w => hexDigit_no hx w)
          go_wp2_with (go_at_call 116; refine (KIn.out (by omega) _).mono ?_; rintro e w1 ⟨rfl, rfl⟩)
          go_ret2
          exact RW.no K.out (KB.out _)
        · have hnx : ∀ ty, (Instr.next (.pointer (some ⟨w.heap.size, 0, none⟩)) true ty).run Tryd.prog (w.iter z m) = _ := fun ty => run_next_ascii w z m ty hlt (by omega)
          by_cases c1 : 48 ≤ (z[m]'hlt).toNat ∧ (z[m]'hlt).toNat ≤ 57
          · have KH := Hf.mk (show hval (l.take (m + 1)) = 16 * X + ((z[m]'hlt).toNat - 48) by rw [hval_up (by rw [hl8.out]; exact hm8), ← HX.out]; unfold hxv; rw [HB.out]; split <;> omega)
            have KY := Hf.mk (show hxd (l.getD m 0) = true by unfold hxd; rw [HB.out]; exact decide_eq_true (by omega))
            have KIn := Hf.mk (fun {x : Int} (hx : 48 ≤ x ∧ x ≤ 57) w => hexDigit_dec hx w)
            obtain ⟨c1a, c1b⟩ := c1
            go_wp2_with (go_at_call 116; refine (KIn.out (by omega) _).mono ?_; rintro e w1 ⟨rfl, rfl⟩)
            go_roundw
            case rel => exact ⟨m + 1, by omega, i_ext2 (by rw [KH.out]; omega), ⟨hH.out.up KY.out⟩, rfl⟩
            case measure => simp; omega
          · by_cases c2 : 97 ≤ (z[m]'hlt).toNat ∧ (z[m]'hlt).toNat ≤ 102
            · have KH := Hf.mk (show hval (l.take (m + 1)) = 16 * X + ((z[m]'hlt).toNat - 97 + 10) by rw [hval_up (by rw [hl8.out]; exact hm8), ← HX.out]; unfold hxv; rw [HB.out]; split <;> omega)
              have KY := Hf.mk (show hxd (l.getD m 0) = true by unfold hxd; rw [HB.out]; exact decide_eq_true (by omega))
              have KIn := Hf.mk (fun {x : Int} (hx : 97 ≤ x ∧ x ≤ 102) w => hexDigit_hex hx w)
              obtain ⟨c2a, c2b⟩ := c2
              go_wp2_with (go_at_call 116; refine (KIn.out (by omega) _).mono ?_; rintro e w1 ⟨rfl, rfl⟩)
              go_roundw
              case rel => exact ⟨m + 1, by omega, i_ext2 (by rw [KH.out]; omega), ⟨hH.out.up KY.out⟩, rfl⟩
              case measure => simp; omega
            · have K := Hf.mk (KD.out (by unfold hxd; rw [HB.out]; exact decide_eq_false (by omega)))
              have KIn := Hf.mk (fun {x : Int} (hx : x < 48 ∨ (57 < x ∧ x < 97) ∨ 102 < x) w => hexDigit_no hx w)
              have cc : (z[m]'hlt).toNat < 48 ∨ (57 < (z[m]'hlt).toNat ∧ (z[m]'hlt).toNat < 97) ∨ 102 < (z[m]'hlt).toNat := by omega
              clear c1 c2
              go_wp2_with (go_at_call 116; refine (KIn.out (by omega) _).mono ?_; rintro e w1 ⟨rfl, rfl⟩)
              go_ret2
              exact RW.no K.out (KB.out _)
      · have hm2 : m = z.size := by rw [H8.out]; omega
        subst hm2
        have hnx : ∀ ty, (Instr.next (.pointer (some ⟨w.heap.size, 0, none⟩)) true ty).run Tryd.prog (w.iter z z.size) = _ := fun ty => run_next_end w z z.size ty (by omega)
        have hX8 := Hf.mk (show X = hval l by rw [HX.out, List.take_of_length_le (by rw [hAl.out]; exact Nat.le_refl _)])
        have HE := Hf.mk (hwOk_end hl8.out (by rw [← H8.out]; exact hH.out))
        rw [← hX8.out] at HE
        have HFr := Hf.mk (show ∀ w, Calls Tryd.prog 117 #[.int .i64 (X : Int)] w (RT (.tuple #[.float .f32 X, .bool true]) w) from fun w => by have := iFromBits_yes (n := (X : Int)) (by omega) (by omega) w; rw [Int.toNat_natCast] at this; exact this)
        have HBt := Hf.mk (fun w => bitsOf_any (Fl.own (k := .f32) (x := X) (wf_of_lt .f32 _ (by show _ < 2 ^ 32; omega))) w)
        have hm8' : ¬ z.size < z.size := by omega
        clear hm8 hm HX
        by_cases hc : nrm .f32 X = X
        · rw [hc] at HBt
          have hk := Hf.mk (HE.out.trans (decide_eq_true hc))
          clear HE hc
          go_wp2_with (first | (go_at_call 117; refine (HFr.out _).mono ?_; rintro e w' ⟨rfl, n1, rfl⟩) | (go_at_call 111; refine (HBt.out _).mono ?_; rintro e w' ⟨rfl, n2, rfl⟩))
          go_ret2
          exact RW.yes hk.out hX8.out (by repeat (first | exact KB.out _ | refine Below.drews ?_ | refine Below.drew ?_))
        · have hk := Hf.mk (HE.out.trans (decide_eq_false hc))
          have hne : (((nrm .f32 X : Nat) : Int) == (X : Int)) = false := by rw [beq_eq_false_iff_ne]; omega
          generalize nrm .f32 X = Y at HBt hne
          clear HE hc
          go_wp2_with (first | (go_at_call 117; refine (HFr.out _).mono ?_; rintro e w' ⟨rfl, n1, rfl⟩) | (go_at_call 111; refine (HBt.out _).mono ?_; rintro e w' ⟨rfl, n2, rfl⟩))
          go_ret2
          exact RW.no hk.out (by repeat (first | exact KB.out _ | refine Below.drews ?_ | refine Below.drew ?_))
  · have hd8 : ((z.size : Int) != 8) = true := by rw [bne_iff_ne]; omega
    have K := Hf.mk (hwOk_len (l := l) (by rw [← hAl.out]; exact h8))
    clear h8
    go_enter Tryd.func80, Tryd.ntmps80
    go_wp2
    go_ret2
    exact RW.no K.out (by repeat (first | exact Below.refl _ _ | with_reducible assumption | refine Below.drews ?_ | refine Below.drew ?_ | refine Below.alloc ?_ (by simp <;> omega) _ | refine Below.setCell ?_ (by simp <;> omega) _))
set_option maxHeartbeats 2000000 in
theorem readTextF_any {s : ByteArray} {mx : Int} (hs : s.size ≤ 1048576) (w : World) (hv : MlIs w mx) : Calls Tryd.prog 79 #[.string s, .int .i64 256, .func (.func 80) #[] #[]] w (RLy 58 (rnO s.data.toList) (fls (rnX s.data.toList)) w) := by
  obtain ⟨i0, hi0, hz0, hz1, hz2⟩ := info_parts (P := Tryd.prog) (e := 58) (z := .float .f32 0) (size := 1) (bytes := 4) (by kernel_rfl)
  have B0 := Hb.mk (Below.refl w.heap.size w)
  by_cases hn : s.data.toList = noneL
  · have hq := toL_eq hn
    obtain ⟨K1, K2⟩ := rn_none hn
    rw [K1, K2]
    clear hn K1 K2
    go_enter Tryd.func79, Tryd.ntmps79
    go_wp2
    go_ret2
    exact ⟨⟨_, rfl, World.ownsRow_nil _ _ _ _⟩, (by repeat (first | exact Below.refl _ _ | with_reducible assumption | refine Below.drews ?_ | refine Below.drew ?_ | refine Below.alloc ?_ (by simp <;> omega) _ | refine Below.setCell ?_ (by simp <;> omega) _))⟩
  · have hq := toL_ne hn
    have KS := Hf.mk (show ∀ w1, MlIs w1 mx → Calls Tryd.prog 115 #[.string s, .string ⟨#[44]⟩, .int .i64 257] w1 (fun e w' => e = .returned (.slice (some ⟨w1.heap.size, 0, none⟩) (wdN 44 257 s).length (min 257 (s.size + 1))) ∧ w' = w1.alloc (.cells (Lib.cellsOf (wdN 44 257 s) (min 257 (s.size + 1))) 9)) from fun w1 h1 => Tryd.strings_SplitN s ⟨#[44]⟩ 257 mx w1 (by omega) h1 (by decide) (by decide) (by decide))
    have KC := Hf.mk (fun (w : World) h j hj => @wdN_cell w 44 257 s 9 h j hj)
    have KL := Hf.mk (fun h => @wdN_len 44 257 s h)
    have KM := Hf.mk (fun h => @wdN_most 44 257 s (by decide) h)
    have KY := Hf.mk (fun h => rn_yes hn h)
    have KN := Hf.mk (fun h => rn_no hn h)
    have hW0 := cutL_ne 44 s.data.toList
    generalize cutL 44 s.data.toList = W at KC KY KN KL KM hW0
    generalize wdN 44 257 s = D at KC KL KM KS
    generalize min 257 (s.size + 1) = N at KC KS
    have hW1 : 0 < W.length := List.length_pos_iff.2 hW0
    clear hn hW0
    generalize rnO s.data.toList = O at KY KN ⊢
    generalize rnX s.data.toList = X at KY KN ⊢
    by_cases h256 : 256 < W.length
    · obtain ⟨K1, K2⟩ := KN.out (okF_long h256)
      subst K1; subst K2
      have hD := KM.out (by omega)
      rw [hD] at KS
      clear KY KN KC KL KM
      go_enter Tryd.func79, Tryd.ntmps79
      go_wp2_with (go_at_call 115; refine (KS.out _ hv).mono ?_; rintro e w1 ⟨rfl, hw⟩; rw [hw]; clear hw w1)
      go_ret2
      exact RLy.nilF (by repeat (first | exact Below.refl _ _ | with_reducible assumption | refine Below.drews ?_ | refine Below.drew ?_ | refine Below.alloc ?_ (by simp <;> omega) _ | refine Below.setCell ?_ (by simp <;> omega) _))
    · have hD := KL.out (by omega)
      rw [hD] at KS
      clear KL KM
      go_enter Tryd.func79, Tryd.ntmps79
      go_wp2_with (first | (go_at_call 115; refine (KS.out _ hv).mono ?_; rintro e w1 ⟨rfl, hw⟩; have T1 := Hf.mk (show TRow w1 w.heap.size W from by rw [hw]; intro j hj; exact KC.out w (by omega) j hj); have B1 := Hb.mk (show Below w.heap.size w w1 from by rw [hw]; exact (by repeat (first | exact Below.refl _ _ | with_reducible assumption | refine Below.drews ?_ | refine Below.drew ?_ | refine Below.alloc ?_ (by simp <;> omega) _ | refine Below.setCell ?_ (by simp <;> omega) _))); have hsz1 : w.heap.size < w1.heap.size := (by rw [hw]; simp); clear hw) | (at_make; refine wpList_make_full _ rfl _ _ 34 rfl w1.heap.size 58 i0 _ 1 Tryd.underlying34 hi0 hz0 hz1 .i64 .i64 _ _ W.length rfl rfl rfl rfl (by rw [hz2]; omega) (by unfold maxLen; omega) (Nat.le_refl _) ?_; intro w0 hown0 hgrow0))
      go_loopw [29] (fun i wr => ∃ (m : Nat) (cur : List Value), m ≤ W.length ∧ i = .int .i64 m ∧ Hf (upF W m) ∧ Hf (wr.ownsRow w1.heap.size 58 1 (.slice (some ⟨w1.heap.size, 0, none⟩) W.length W.length) W.length cur) ∧ Hf (∀ j, j < m → cur[j]? = some (.float .f32 ((numF W).getD j 0))) ∧ Hb (Below w1.heap.size w1 wr)) (fun i _ => W.length - (intOf i).toNat)
      case atStart => exact ⟨0, _, by omega, rfl, ⟨fun j hj => absurd hj (Nat.not_lt_zero j)⟩, ⟨hown0⟩, ⟨fun j hj => absurd hj (Nat.not_lt_zero j)⟩, ⟨(Below.refl _ _).grown hgrow0 (Nat.le_refl _) (fun k h => by cases h)⟩⟩
      case round =>
        obtain ⟨m, cur, hm, rfl, hU, hown, hcur, hB⟩ := hrel
        have hszB := hB.out.size
        have HB0 := Hb.mk (Below.on (B := w.heap.size) (a := w) B1.out hB.out B1.out.size)
        by_cases hlt : m < W.length
        · have hcell : wr.cell? ⟨w.heap.size, m, none⟩ = some (.string (ofL (W.getD m []))) := (T1.out.below hB.out) m hlt
          have hlen : cur.length = W.length := by have := hown.out.1; omega
          obtain ⟨old, hold⟩ : ∃ old, cur[m]? = some old := ⟨_, List.getElem?_eq_getElem (by omega)⟩
          have HV := Hf.mk (fun w => iWord_any (ofL (W.getD m [])) w)
          cases hk : hwOk (W.getD m [])
          · have HV := Hf.mk (fun w => (HV.out w).mono fun e w' h => RW.out_no (l := W.getD m []) hk h)
            obtain ⟨K1, K2⟩ := KN.out (okF_no hlt hk)
            subst K1; subst K2
            clear KY KN
            generalize ofL (W.getD m []) = A at hcell HV
            go_wp2_with (go_at_call 80; refine (HV.out _).mono ?_; rintro e w2 ⟨x, rfl, b2⟩; have B2 := Hb.mk (Below.on (B := w.heap.size) (a := w) (by repeat (first | exact HB0.out | refine Below.drews ?_ | refine Below.drew ?_ | refine Below.alloc ?_ (by have hq_ := HB0.out.size; first | omega | (simp <;> omega)) _ | refine Below.setCell ?_ (by have hq_ := HB0.out.size; first | omega | (simp <;> omega)) _)) b2 (by have hq_ := HB0.out.size; first | omega | (simp <;> omega))); clear b2)
            go_ret2
            exact RLy.nilF (by repeat (first | exact B2.out | refine Below.drews ?_ | refine Below.drew ?_ | refine Below.alloc ?_ (by have hq_ := B2.out.size; first | omega | (simp <;> omega)) _ | refine Below.setCell ?_ (by have hq_ := B2.out.size; first | omega | (simp <;> omega)) _))
          · have HV := Hf.mk (fun w => (HV.out w).mono fun e w' h => RW.out_yes (l := W.getD m []) hk h)
            have KU := Hf.mk (hU.out.up hk)
            have KA := Hf.mk (numF_at hlt)
            generalize ofL (W.getD m []) = A at hcell HV
            generalize hval (W.getD m []) = x at HV KA
            go_wp2_with (go_at_call 80; refine (HV.out _).mono ?_; rintro e w2 ⟨rfl, b2⟩; have HB1 := Hb.mk (Below.on (B := w1.heap.size) (a := w1) hB.out b2 hszB); have HO1 := Hf.mk (cu_below hown.out b2); have hcA : w2.cell? ⟨w1.heap.size, m, none⟩ = some old := (HO1.out.cellAt m (by omega)).trans hold; have hfA : w2.frozen? ⟨w1.heap.size, m, none⟩ = false := HO1.out.frozenAt m; have hsto : ∀ v md, (store ⟨w1.heap.size, m, none⟩ (.float .f32 v) md).run Tryd.prog w2 = .ok () (w2.setCell ⟨w1.heap.size, m, none⟩ (.float .f32 v)) := (fun v md => (run_store _ _ _ _ _ rfl).trans (by simp [hcA, hfA])); clear b2)
            go_roundw
            case rel =>
              have hst := HO1.out.stored m (.float .f32 x)
              refine ⟨m + 1, _, by omega, i_ext2 (by omega), KU, ⟨hst.1⟩, ⟨?_⟩, ⟨Below.setCell HB1.out (Nat.le_refl _) _⟩⟩
              intro j hj
              by_cases he : j = m
              · subst he; rw [List.getElem?_set_self (by omega), KA.out]
              · rw [List.getElem?_set_ne (by omega)]; exact hcur.out j (by omega)
            case measure => simp [intOf]; omega
        · obtain rfl : m = W.length := by omega
          obtain ⟨K1, K2⟩ := KY.out (okF_yes hU.out (by omega))
          subst K1; subst K2
          have hlen : cur.length = (numF W).length := by have := hown.out.1; rw [numF_len]; omega
          have hcu := Hf.mk (fls_of hlen (fun j hj => hcur.out j (by rw [numF_len] at hj; exact hj)))
          go_wp2
          go_ret2
          refine ⟨⟨_, rfl, ?_⟩, (by repeat (first | exact HB0.out | refine Below.drews ?_ | refine Below.drew ?_ | refine Below.alloc ?_ (by have hq_ := HB0.out.size; first | omega | (simp <;> omega)) _ | refine Below.setCell ?_ (by have hq_ := HB0.out.size; first | omega | (simp <;> omega)) _))⟩
          have := hown.out
          rw [hcu.out] at this
          rw [fls_len, numF_len]
          exact own_lower this B1.out.size
theorem iRn_any {s : ByteArray} {mx : Int} (hs : s.size ≤ 1048576) (w : World) (hv : MlIs w mx) : Calls Tryd.prog 46 #[.string s] w (RLy 58 (rnO s.data.toList) (fls (rnX s.data.toList)) w) := by
  have K := Hf.mk (fun w hv => readTextF_any (s := s) (mx := mx) hs w hv)
  generalize rnO s.data.toList = O at K ⊢
  generalize fls (rnX s.data.toList) = X at K ⊢
  have B0 := Hb.mk (Below.refl w.heap.size w)
  go_enter Tryd.func46, Tryd.ntmps46
  go_wp2_with (go_at_call 79; refine (K.out _ (hv.on (by repeat (first | exact Below.refl _ _ | with_reducible assumption | refine Below.drews ?_ | refine Below.drew ?_ | refine Below.alloc ?_ (by simp <;> omega) _ | refine Below.setCell ?_ (by simp <;> omega) _)))).mono ?_; rintro e w1 ⟨⟨v, rfl, o1⟩, b1⟩; have O1 := Hf.mk o1; have B1 := Hb.mk (Below.on (B := w.heap.size) (a := w) (by repeat (first | exact B0.out | refine Below.drews ?_ | refine Below.drew ?_ | refine Below.alloc ?_ (by have hq_ := B0.out.size; first | omega | (simp <;> omega)) _ | refine Below.setCell ?_ (by have hq_ := B0.out.size; first | omega | (simp <;> omega)) _)) b1 (by have hq_ := B0.out.size; first | omega | (simp <;> omega))); clear b1 o1)
  go_ret2
  exact ⟨⟨_, rfl, O1.out⟩, (by repeat (first | exact B1.out | refine Below.drews ?_ | refine Below.drew ?_ | refine Below.alloc ?_ (by have hq_ := B1.out.size; first | omega | (simp <;> omega)) _ | refine Below.setCell ?_ (by have hq_ := B1.out.size; first | omega | (simp <;> omega)) _))⟩
end Go.Proofs.YtcgakdgfmhkpjaaDoor
namespace Go.Proofs.YtcgakdgfmhkpjaaDoor
open Go Go.RowKit
set_option maxRecDepth 100000

theorem told_own {w : World} {base g n cap : Nat} {e : TypeId} {xs : List Nat} (h : w.ownsRow base e 1 (.slice (some ⟨g, 0, none⟩) n cap) n (fls xs)) (hf : FlW xs) : Told w g n (fun j => xs.getD j 0) := by
  have hl : n = xs.length := by have := h.1; rw [fls_len] at this; omega
  intro j hj
  refine ⟨xs.getD j 0, ?_, hf j (by omega)⟩
  rw [h.cellAt j (by omega)]
  have hj2 : j < xs.length := by omega
  simp [fls, List.getElem?_map, List.getD, List.getElem?_eq_getElem hj2]
theorem own_form {w : World} {base n : Nat} {e : TypeId} {v : Value} {ys : List Value} (h : w.ownsRow base e 1 v n ys) : (v = .slice none 0 0 ∧ n = 0) ∨ ∃ g cap, v = .slice (some ⟨g, 0, none⟩) n cap := by
  rcases h.2 with h | ⟨g, cap, cur, hv, _⟩
  · exact .inl h
  · exact .inr ⟨g, cap, hv⟩
theorem eqF_zero {a b : Option Addr} {k1 k2 : Nat} (w : World) : Calls Tryd.prog 54 #[.slice a 0 k1, .slice b 0 k2] w (RB true w) := by
  go_enter Tryd.func54, Tryd.ntmps54
  go_wp2
  go_loopw [5] (fun i wr => i = .int .i64 0 ∧ Drew w wr) (fun _ _ => 0)
  case atStart => exact ⟨rfl, (by repeat (first | exact Drew.refl _ | refine Drew.more ?_))⟩
  case round =>
    obtain ⟨rfl, q, rfl⟩ := hrel
    go_wp2
    go_ret
    exact RB.any rfl (by repeat (first | exact Drew.refl _ | refine Drew.more ?_))
theorem eqF_own {b1 b2 n m : Nat} {T1 T2 : TypeId} {v1 v2 : Value} {xs : List Nat} (w : World) (h1 : w.ownsRow b1 T1 1 v1 n (fls xs)) (h2 : w.ownsRow b2 T2 1 v2 m (fls xs)) (hf : FlW xs) (hl : xs.length ≤ 1048576) : Calls Tryd.prog 54 #[v1, v2] w (RB true w) := by
  have e1 : n = xs.length := by have := h1.1; rw [fls_len] at this; omega
  have e2 : m = xs.length := by have := h2.1; rw [fls_len] at this; omega
  have hnm : n = m := by omega
  clear e2
  subst hnm
  rcases own_form h1 with ⟨rfl, h0⟩ | ⟨g1, k1, rfl⟩
  · subst h0
    rcases own_form h2 with ⟨rfl, _⟩ | ⟨g2, k2, rfl⟩
    · exact eqF_zero w
    · exact eqF_zero w
  · rcases own_form h2 with ⟨rfl, h0⟩ | ⟨g2, k2, rfl⟩
    · subst h0
      exact eqF_zero w
    · exact eqFT_any w (told_own h1 hf) (told_own h2 hf) (by omega)
/-- 'these are marks' -/
def QF (w : World) (v : Value) (n : Nat) (k : Int) : Prop := (v = .slice none 0 0 ∧ n = 0) ∨ ∃ g cap, v = .slice (some ⟨g, 0, none⟩) n cap ∧ Told w g n (sqI k)
theorem QF.below {w w' : World} {v : Value} {n : Nat} {k : Int} (h : QF w v n k) (b : Below w.heap.size w w') : QF w' v n k := by
  rcases h with h | ⟨g, cap, h1, h2⟩
  · exact .inl h
  · exact .inr ⟨g, cap, h1, h2.below b⟩
theorem markF_own {n base : Nat} {v : Value} {cur : List Value} {k : Int} (w : World) (ho : w.ownsRow base 58 1 v n cur) (hl : n ≤ 1048576) (hk0 : 0 ≤ k) (hk1 : k ≤ 2097152) : Calls Tryd.prog 58 #[v, .int .i64 k] w (fun e w' => e = .returned (.int .i64 (k + (n : Int))) ∧ QF w' v n k ∧ w.grownBy w' v.ownBlock) := by
  rcases own_form ho with ⟨rfl, h0⟩ | ⟨g, cap, rfl⟩
  · subst h0
    refine (markF_nil w).mono ?_
    rintro e w' ⟨rfl, q, rfl⟩
    exact ⟨by simp, .inl ⟨rfl, rfl⟩, gb_drew _ _ _⟩
  · refine (markF_any (k := k) w ho hl hk0 hk1).mono ?_
    rintro e w' ⟨rfl, h1, h2⟩
    exact ⟨rfl, .inr ⟨g, cap, rfl, h1⟩, h2⟩
theorem heldF_own {n : Nat} {v : Value} {k : Int} (w : World) (h : QF w v n k) (hl : n ≤ 1048576) (hk0 : 0 ≤ k) (hk1 : k ≤ 2097152) : Calls Tryd.prog 59 #[v, .int .i64 k] w (RI .i64 (k + (n : Int)) w) := by
  rcases h with ⟨rfl, h0⟩ | ⟨g, cap, rfl, h1⟩
  · subst h0
    refine (heldF_nil w).mono ?_
    rintro e w' ⟨rfl, q, rfl⟩
    exact ⟨by simp, q, rfl⟩
  · exact heldF_any w h1 hl hk0 hk1
end Go.Proofs.YtcgakdgfmhkpjaaDoor
