/-
ReadList: the program and its model.
ReadList: the program.
-/
import Derived.Test.YtcgakdgfmhkpjaaDoorRdd
import Derived.Test.YtcgakdgfmhkpjaaDoorSpn
import Derived.Test.YtcgakdgfmhkpjaaDoorCou
import Derived.Test.YtcgakdgfmhkpjaaDoorTxt
import Derived.Test.YtcgakdgfmhkpjaaDoorLri
import Derived.Deep.AppendLies
namespace Go.Proofs.YtcgakdgfmhkpjaaDoor
open Go Go.RowKit
set_option maxRecDepth 100000

abbrev noneL : List UInt8 := [110, 111, 110, 101]
/-- Few words, all of which say a number. -/
def okW (W : List (List UInt8)) : Bool := decide (W.length ≤ 64) && W.all rdOk
def numW (W : List (List UInt8)) : List Int := W.map rdN
theorem numW_len (W : List (List UInt8)) : (numW W).length = W.length := by simp [numW]
theorem take_up {xs : List Int} {m : Nat} {x : Int} (hm : m < xs.length) (hx : xs.getD m 0 = x) : xs.take m ++ [x] = xs.take (m + 1) := by
  rw [List.take_add_one, List.getElem?_eq_getElem hm]
  simp [List.getD, List.getElem?_eq_getElem hm] at hx
  rw [← hx]
  rfl
theorem numW_at {W : List (List UInt8)} {m : Nat} (h : m < W.length) : (numW W).getD m 0 = rdN (W.getD m []) := by
  unfold numW
  simp [List.getD, List.getElem?_map, List.getElem?_eq_getElem h]
def upO (W : List (List UInt8)) (m : Nat) : Prop := ∀ j, j < m → rdOk (W.getD j []) = true
theorem upO.up {W : List (List UInt8)} {m : Nat} (h : upO W m) (h1 : rdOk (W.getD m []) = true) : upO W (m + 1) := fun j hj => by
  by_cases e : j = m
  · subst e; exact h1
  · exact h j (by omega)
theorem okW_yes {W : List (List UInt8)} (h : upO W W.length) (h64 : W.length ≤ 64) : okW W = true := by
  unfold okW
  rw [Bool.and_eq_true, List.all_eq_true]
  refine ⟨decide_eq_true h64, fun x hx => ?_⟩
  obtain ⟨j, hj, rfl⟩ := List.mem_iff_getElem.1 hx
  have := h j hj
  rwa [List.getD, List.getElem?_eq_getElem hj] at this
theorem okW_no {W : List (List UInt8)} {m : Nat} (hm : m < W.length) (h : rdOk (W.getD m []) = false) : okW W = false := by
  rw [Bool.eq_false_iff]
  intro e
  unfold okW at e
  rw [Bool.and_eq_true, List.all_eq_true] at e
  have := e.2 _ (show W.getD m [] ∈ W by rw [List.getD, List.getElem?_eq_getElem hm]; exact List.getElem_mem hm)
  rw [h] at this
  cases this
theorem okW_long {W : List (List UInt8)} (h : 64 < W.length) : okW W = false := by
  unfold okW
  rw [decide_eq_false (by omega)]; rfl
/-- What is read. -/
def rlO (l : List UInt8) : Bool := decide (l = noneL) || okW (cutL 44 l)
def rlX (l : List UInt8) : List Int := if l = noneL then [] else if okW (cutL 44 l) then numW (cutL 44 l) else []
theorem rl_none {l : List UInt8} (h : l = noneL) : rlO l = true ∧ rlX l = [] := by
  unfold rlO rlX
  rw [if_pos h, decide_eq_true h]
  exact ⟨rfl, rfl⟩
theorem rl_no {l : List UInt8} (h : l ≠ noneL) (hk : okW (cutL 44 l) = false) : rlO l = false ∧ rlX l = [] := by
  unfold rlO rlX
  rw [if_neg h, decide_eq_false h, hk]
  exact ⟨rfl, rfl⟩
theorem rl_yes {l : List UInt8} (h : l ≠ noneL) (hk : okW (cutL 44 l) = true) : rlO l = true ∧ rlX l = numW (cutL 44 l) := by
  unfold rlO rlX
  rw [if_neg h, hk]
  exact ⟨by simp, rfl⟩
theorem rlX_len (l : List UInt8) : (rlX l).length ≤ 64 := by
  unfold rlX
  split
  · exact Nat.zero_le _
  · split
    · next h =>
      unfold okW at h
      rw [Bool.and_eq_true] at h
      rw [numW_len]
      exact of_decide_eq_true h.1
    · exact Nat.zero_le _
/-- Blocks kept but one. -/
theorem gb_below {w w' : World} {g : Option Nat} (b : Below w.heap.size w w') : w.grownBy w' g := ⟨b.os, b.tape, b.output, b.size, fun k hk _ => b.block k hk⟩
theorem gb_step {w1 wr w3 : World} {b : Nat} {u : Option Nat} (h : w1.grownBy wr (some b)) (hg : wr.grownBy w3 u) (hu : ∀ k, u = some k → k = b ∨ w1.heap.size ≤ k) : w1.grownBy w3 (some b) := by
  refine ⟨hg.os.trans h.os, hg.tape.trans h.tape, hg.output.trans h.output, Nat.le_trans h.size hg.size, fun k hk hne => ?_⟩
  have h2 : some k ≠ u := by
    intro e
    rcases hu k e.symm with rfl | h3
    · exact hne rfl
    · omega
  rw [hg.block k (Nat.lt_of_lt_of_le hk h.size) h2]
  exact h.block k hk hne
theorem TRow.gb {w w' : World} {g b : Nat} {L : List (List UInt8)} (h : TRow w g L) (hg : w.grownBy w' (some b)) (hne : g ≠ b) : TRow w' g L := fun j hj => by
  have hc := h j hj
  rw [World.cell?_of_block (w := w) (hg.block _ (block_lt_of_cell hc) (fun e => hne (Option.some.inj e)))]
  exact hc
theorem rdV_yes {l : List UInt8} (h : rdOk l = true) : rdV (ofL l) = .tuple #[.int .i64 (rdN l), .bool true] := by
  show Value.tuple #[.int .i64 (if rdOk l then rdN l else 0), .bool (rdOk l)] = _
  rw [h]; rfl
theorem rdV_no {l : List UInt8} (h : rdOk l = false) : rdV (ofL l) = .tuple #[.int .i64 0, .bool false] := by
  show Value.tuple #[.int .i64 (if rdOk l then rdN l else 0), .bool (rdOk l)] = _
  rw [h]; rfl
theorem toL_ne {s : ByteArray} {l : List UInt8} (h : s.data.toList ≠ l) : (s.toList == l) = false := by rw [Lib.toList_data, beq_eq_false_iff_ne]; exact h
theorem toL_eq {s : ByteArray} {l : List UInt8} (h : s.data.toList = l) : (s.toList == l) = true := by rw [Lib.toList_data, beq_iff_eq]; exact h
theorem int_one {k : Int} : ∀ u ∈ [Value.int .i64 k], u.oneCell' = true := by
  intro u hu
  simp at hu
  subst hu
  rfl
set_option maxHeartbeats 2000000 in
theorem sRl_any {s : ByteArray} (hs : s.size ≤ 1048576) (w : World) : Calls Tryd.prog 92 #[.string s] w (RLy 2 (rlO s.data.toList) (ils (rlX s.data.toList)) w) := by
  obtain ⟨i0, hi0, hz0, hz1, hz2⟩ := info_parts (P := Tryd.prog) (e := 2) (z := .int .i64 0) (size := 1) (bytes := 8) (by kernel_rfl)
  have B0 := Hb.mk (Below.refl w.heap.size w)
  by_cases hn : s.data.toList = noneL
  · have hq := toL_eq hn
    obtain ⟨K1, K2⟩ := rl_none hn
    rw [K1, K2]
    clear hn K1 K2
    go_enter Tryd.func92, Tryd.ntmps92
    go_wp2
    go_ret2
    exact ⟨⟨_, rfl, World.ownsRow_made _ _ _ (Nat.le_refl _) (by decide) rfl⟩, (by repeat (first | exact Below.refl _ _ | with_reducible assumption | refine Below.drews ?_ | refine Below.drew ?_ | refine Below.alloc ?_ (by simp <;> omega) _ | refine Below.setCell ?_ (by simp <;> omega) _))⟩
  · have hq := toL_ne hn
    have KC := Hf.mk (fun w => l01Cut_any (c := 44) hs w)
    have KY := Hf.mk (fun h => rl_yes hn h)
    have KN := Hf.mk (fun h => rl_no hn h)
    have hW0 := cutL_ne 44 s.data.toList
    have hWl : (cutL 44 s.data.toList).length ≤ 1048577 := by have := cutL_count 44 s.data.toList; have := count_len 44 s.data.toList; have : s.data.toList.length = s.size := rfl; omega
    generalize cutL 44 s.data.toList = W at KC KY KN hW0 hWl
    have hW1 : 0 < W.length := List.length_pos_iff.2 hW0
    clear hn hW0
    generalize rlO s.data.toList = O at KY KN ⊢
    generalize rlX s.data.toList = X at KY KN ⊢
    by_cases h64 : 64 < W.length
    · obtain ⟨K1, K2⟩ := KN.out (okW_long h64)
      subst K1; subst K2
      clear KY KN
      go_enter Tryd.func92, Tryd.ntmps92
      go_wp2_with (go_at_call 91; refine (KC.out _).mono ?_; rintro e w1 ⟨v1, rfl, o1, b1⟩; obtain ⟨g1, k1, rfl, hg1, hl1, hk1⟩ := cu_shf o1 hW1; have B1 := Hb.mk (Below.on (B := w.heap.size) (a := w) (by repeat (first | exact B0.out | refine Below.drews ?_ | refine Below.drew ?_ | refine Below.alloc ?_ (by have hq_ := B0.out.size; first | omega | (simp <;> omega)) _ | refine Below.setCell ?_ (by have hq_ := B0.out.size; first | omega | (simp <;> omega)) _)) b1 (by have hq_ := B0.out.size; first | omega | (simp <;> omega))); clear o1 b1)
      go_ret2
      exact RLy.nil (by repeat (first | exact B1.out | refine Below.drews ?_ | refine Below.drew ?_ | refine Below.alloc ?_ (by have hq_ := B1.out.size; first | omega | (simp <;> omega)) _ | refine Below.setCell ?_ (by have hq_ := B1.out.size; first | omega | (simp <;> omega)) _))
    · go_enter Tryd.func92, Tryd.ntmps92
      go_wp2_with (go_at_call 91; refine (KC.out _).mono ?_; rintro e w1 ⟨v1, rfl, o1, b1⟩; obtain ⟨g1, k1, rfl, hg1, hl1, hk1⟩ := cu_shf o1 hW1; have B1 := Hb.mk (Below.on (B := w.heap.size) (a := w) (by repeat (first | exact B0.out | refine Below.drews ?_ | refine Below.drew ?_ | refine Below.alloc ?_ (by have hq_ := B0.out.size; first | omega | (simp <;> omega)) _ | refine Below.setCell ?_ (by have hq_ := B0.out.size; first | omega | (simp <;> omega)) _)) b1 (by have hq_ := B0.out.size; first | omega | (simp <;> omega))); have T1 := Hf.mk (trow_own o1); have O1 := Hf.mk (show w1.ownsRow w.heap.size 2 1 (.slice (some ⟨w.heap.size, 0, none⟩) 0 0) 0 [] from cu_below (World.ownsRow_made _ _ _ (Nat.le_refl _) (by decide) rfl) b1); have hsz1 := b1.size; clear o1 b1)
      simp at hg1 hsz1
      go_loopw [4, 6] (fun v i wr => ∃ (m go cap : Nat), m ≤ W.length ∧ i = .int .i64 m ∧ v = .slice (some ⟨go, 0, none⟩) m cap ∧ (go = w.heap.size ∨ w1.heap.size ≤ go) ∧ Hf (upO W m) ∧ Hf (wr.ownsRow w.heap.size 2 1 v m (ils ((numW W).take m))) ∧ Hf (w1.grownBy wr (some w.heap.size))) (fun _ i _ => W.length - (intOf i).toNat)
      case atStart => exact ⟨0, w.heap.size, 0, by omega, rfl, rfl, .inl rfl, ⟨fun j hj => absurd hj (Nat.not_lt_zero j)⟩, O1, ⟨gb_refl _ _⟩⟩
      case round =>
        obtain ⟨m, go, cap, hm, rfl, rfl, hgo, hU, hown, hgb⟩ := hrel
        obtain ⟨W1, hW1e⟩ : ∃ W1, W1 = wr := ⟨_, rfl⟩
        subst hW1e
        have hsz := hgb.out.size
        have T2 := Hf.mk (T1.out.gb hgb.out (by omega))
        by_cases hlt : m < W.length
        · have hcell : W1.cell? ⟨g1, m, none⟩ = some (.string (ofL (W.getD m []))) := T2.out m hlt
          have HV := Hf.mk (fun w => l01Value_any (ofL (W.getD m [])) w)
          cases hk : rdOk (W.getD m [])
          · rw [rdV_no hk] at HV
            obtain ⟨K1, K2⟩ := KN.out (okW_no hlt hk)
            subst K1; subst K2
            clear KY KN
            generalize ofL (W.getD m []) = A at hcell HV
            have BB := Hb.mk (below_gb B1.out hgb.out B1.out.size (Nat.le_refl _))
            go_wp2_with (go_at_call 121; refine (HV.out _).mono ?_; rintro e w2 ⟨rfl, b2⟩; have B2 := Hb.mk (Below.on (B := w.heap.size) (a := w) (by repeat (first | exact BB.out | refine Below.drews ?_ | refine Below.drew ?_ | refine Below.alloc ?_ (by have hq_ := BB.out.size; first | omega | (simp <;> omega)) _ | refine Below.setCell ?_ (by have hq_ := BB.out.size; first | omega | (simp <;> omega)) _)) b2 (by have hq_ := BB.out.size; first | omega | (simp <;> omega))); clear b2)
            go_ret2
            exact RLy.nil (by repeat (first | exact B2.out | refine Below.drews ?_ | refine Below.drew ?_ | refine Below.alloc ?_ (by have hq_ := B2.out.size; first | omega | (simp <;> omega)) _ | refine Below.setCell ?_ (by have hq_ := B2.out.size; first | omega | (simp <;> omega)) _))
          · rw [rdV_yes hk] at HV
            have KU := Hf.mk (hU.out.up hk)
            have KT := Hf.mk (take_up (xs := numW W) (m := m) (by rw [numW_len]; exact hlt) (numW_at hlt))
            have HL := Hf.mk (show (ils ((numW W).take m)).length = m by rw [ils_len, List.length_take, numW_len]; omega)
            generalize ofL (W.getD m []) = A at hcell HV
            generalize rdN (W.getD m []) = x at HV KT
            have BB := Hb.mk (below_gb B1.out hgb.out B1.out.size (Nat.le_refl _))
            have OB := Hf.mk (own_lt hown.out)
            go_wp2_with (first | (go_at_call 121; refine (HV.out _).mono ?_; rintro e w2 ⟨rfl, b2⟩; have S2 := b2.size; have O2 := Hf.mk (cu_below hown.out b2); have G2 := Hf.mk (gb_trans hgb.out (gb_below (g := some w.heap.size) b2)); clear b2) | (at_builtin; refine wpList_append_lies _ rfl _ _ 77 rfl w.heap.size 2 i0 (.int .i64 0) 1 8 Tryd.underlying77 hi0 hz0 hz1 hz2 rfl (by decide) _ m (ils ((numW W).take m)) rfl (cu_below O2.out ((Below.refl _ _).alloc (Nat.le_refl _) _)) ⟨w2.heap.size, 0, none⟩ 1 1 [.int .i64 x] rfl rfl (str_one _ _ _) int_one (by decide) (by unfold maxLen; omega) (by omega) (by first | omega | (simp <;> omega)) _ rfl ?_; intro g3 cap3 w3 o3 hg3 hp3 hl3))
            go_roundw
            case rel =>
              have hs2 : (w2.alloc (.cells #[.int .i64 x] 2)).heap.size = w2.heap.size + 1 := by simp
              refine ⟨m + 1, g3, cap3, by omega, i_ext2 (by omega), rfl, ?_, KU, ⟨?_⟩, ⟨?_⟩⟩
              · rcases hp3 with h | h
                · obtain rfl := Option.some.inj h; exact hgo
                · rw [h, hs2]; exact .inr (by omega)
              · rw [← KT.out]
                unfold ils at o3 ⊢
                rw [List.map_append]
                exact o3
              · refine gb_step (gb_trans G2.out (gb_below (Below.alloc (Below.refl _ _) (Nat.le_refl _) _))) hg3 ?_
                intro k hk
                obtain rfl : go = k := Option.some.inj hk
                exact hgo
            case measure => simp [intOf]; omega
        · obtain rfl : m = W.length := by omega
          obtain ⟨K1, K2⟩ := KY.out (okW_yes hU.out (by omega))
          subst K1; subst K2
          have BB := Hb.mk (below_gb B1.out hgb.out B1.out.size (Nat.le_refl _))
          go_wp2
          go_ret2
          refine ⟨⟨_, rfl, ?_⟩, (by repeat (first | exact BB.out | refine Below.drews ?_ | refine Below.drew ?_ | refine Below.alloc ?_ (by have hq_ := BB.out.size; first | omega | (simp <;> omega)) _ | refine Below.setCell ?_ (by have hq_ := BB.out.size; first | omega | (simp <;> omega)) _))⟩
          have := hown.out
          rw [List.take_of_length_le (by rw [numW_len]; exact Nat.le_refl _)] at this
          rw [ils_len, numW_len]
          exact this
end Go.Proofs.YtcgakdgfmhkpjaaDoor
namespace Go.Proofs.YtcgakdgfmhkpjaaDoor
open Go Go.RowKit
set_option maxRecDepth 100000

/-- What the library's own variable holds. -/
abbrev MlIs (w : World) (m : Int) : Prop := w.cell? ⟨0, 0, none⟩ = some (.int .i64 m)
theorem MlIs.on {w w' : World} {m : Int} (h : MlIs w m) (b : Below w.heap.size w w') : MlIs w' m := Below.keep b h
set_option maxHeartbeats 2000000 in
theorem readText_any {s : ByteArray} {mx : Int} (hs : s.size ≤ 1048576) (w : World) (ht : P10 w) (hv : MlIs w mx) : Calls Tryd.prog 95 #[.string s, .int .i64 64, .func (.func 96) #[] #[]] w (RLy 2 (rlO s.data.toList) (ils (rlX s.data.toList)) w) := by
  obtain ⟨i0, hi0, hz0, hz1, hz2⟩ := info_parts (P := Tryd.prog) (e := 2) (z := .int .i64 0) (size := 1) (bytes := 8) (by kernel_rfl)
  have B0 := Hb.mk (Below.refl w.heap.size w)
  by_cases hn : s.data.toList = noneL
  · have hq := toL_eq hn
    obtain ⟨K1, K2⟩ := rl_none hn
    rw [K1, K2]
    clear hn K1 K2
    go_enter Tryd.func95, Tryd.ntmps95
    go_wp2
    go_ret2
    exact ⟨⟨_, rfl, World.ownsRow_nil _ _ _ _⟩, (by repeat (first | exact Below.refl _ _ | with_reducible assumption | refine Below.drews ?_ | refine Below.drew ?_ | refine Below.alloc ?_ (by simp <;> omega) _ | refine Below.setCell ?_ (by simp <;> omega) _))⟩
  · have hq := toL_ne hn
    have HT := Hf.mk ht
    have KS := Hf.mk (show ∀ w1, MlIs w1 mx → Calls Tryd.prog 115 #[.string s, .string ⟨#[44]⟩, .int .i64 65] w1 (fun e w' => e = .returned (.slice (some ⟨w1.heap.size, 0, none⟩) (wdN 44 65 s).length (min 65 (s.size + 1))) ∧ w' = w1.alloc (.cells (Lib.cellsOf (wdN 44 65 s) (min 65 (s.size + 1))) 9)) from fun w1 h1 => Tryd.strings_SplitN s ⟨#[44]⟩ 65 mx w1 (by omega) h1 (by decide) (by decide) (by decide))
    have KC := Hf.mk (fun (w : World) h j hj => @wdN_cell w 44 65 s 9 h j hj)
    have KL := Hf.mk (fun h => @wdN_len 44 65 s h)
    have KM := Hf.mk (fun h => @wdN_most 44 65 s (by decide) h)
    have KY := Hf.mk (fun h => rl_yes hn h)
    have KN := Hf.mk (fun h => rl_no hn h)
    have hW0 := cutL_ne 44 s.data.toList
    generalize cutL 44 s.data.toList = W at KC KY KN KL KM hW0
    generalize wdN 44 65 s = D at KC KL KM KS
    generalize min 65 (s.size + 1) = N at KC KS
    have hW1 : 0 < W.length := List.length_pos_iff.2 hW0
    clear hn hW0 ht
    generalize rlO s.data.toList = O at KY KN ⊢
    generalize rlX s.data.toList = X at KY KN ⊢
    by_cases h64 : 64 < W.length
    · obtain ⟨K1, K2⟩ := KN.out (okW_long h64)
      subst K1; subst K2
      have hD := KM.out (by omega)
      rw [hD] at KS
      clear KY KN KC KL KM
      go_enter Tryd.func95, Tryd.ntmps95
      go_wp2_with (go_at_call 115; refine (KS.out _ hv).mono ?_; rintro e w1 ⟨rfl, hw⟩; rw [hw]; clear hw w1)
      go_ret2
      exact RLy.nil (by repeat (first | exact Below.refl _ _ | with_reducible assumption | refine Below.drews ?_ | refine Below.drew ?_ | refine Below.alloc ?_ (by simp <;> omega) _ | refine Below.setCell ?_ (by simp <;> omega) _))
    · have hD := KL.out (by omega)
      rw [hD] at KS
      clear KL KM
      go_enter Tryd.func95, Tryd.ntmps95
      go_wp2_with (first | (go_at_call 115; refine (KS.out _ hv).mono ?_; rintro e w1 ⟨rfl, hw⟩; have T1 := Hf.mk (show TRow w1 w.heap.size W from by rw [hw]; intro j hj; exact KC.out w (by omega) j hj); have B1 := Hb.mk (show Below w.heap.size w w1 from by rw [hw]; exact (by repeat (first | exact Below.refl _ _ | with_reducible assumption | refine Below.drews ?_ | refine Below.drew ?_ | refine Below.alloc ?_ (by simp <;> omega) _ | refine Below.setCell ?_ (by simp <;> omega) _))); have hsz1 : w.heap.size < w1.heap.size := (by rw [hw]; simp); clear hw) | (at_make; refine wpList_make_full _ rfl _ _ 77 rfl w1.heap.size 2 i0 _ 1 Tryd.underlying77 hi0 hz0 hz1 .i64 .i64 _ _ W.length rfl rfl rfl rfl (by rw [hz2]; omega) (by unfold maxLen; omega) (Nat.le_refl _) ?_; intro w0 hown0 hgrow0))
      go_loopw [29] (fun i wr => ∃ (m : Nat) (cur : List Value), m ≤ W.length ∧ i = .int .i64 m ∧ Hf (upO W m) ∧ Hf (wr.ownsRow w1.heap.size 2 1 (.slice (some ⟨w1.heap.size, 0, none⟩) W.length W.length) W.length cur) ∧ Hf (∀ j, j < m → cur[j]? = some (.int .i64 ((numW W).getD j 0))) ∧ Hb (Below w1.heap.size w1 wr)) (fun i _ => W.length - (intOf i).toNat)
      case atStart => exact ⟨0, _, by omega, rfl, ⟨fun j hj => absurd hj (Nat.not_lt_zero j)⟩, ⟨hown0⟩, ⟨fun j hj => absurd hj (Nat.not_lt_zero j)⟩, ⟨(Below.refl _ _).grown hgrow0 (Nat.le_refl _) (fun k h => by cases h)⟩⟩
      case round =>
        obtain ⟨m, cur, hm, rfl, hU, hown, hcur, hB⟩ := hrel
        have hszB := hB.out.size
        have HB0 := Hb.mk (Below.on (B := w.heap.size) (a := w) B1.out hB.out B1.out.size)
        by_cases hlt : m < W.length
        · have hcell : wr.cell? ⟨w.heap.size, m, none⟩ = some (.string (ofL (W.getD m []))) := (T1.out.below hB.out) m hlt
          have hlen : cur.length = W.length := by have := hown.out.1; omega
          obtain ⟨old, hold⟩ : ∃ old, cur[m]? = some old := ⟨_, List.getElem?_eq_getElem (by omega)⟩
          have HV := Hf.mk (fun w ht => iRead_any (ofL (W.getD m [])) w ht)
          cases hk : rdOk (W.getD m [])
          · rw [rdV_no hk] at HV
            obtain ⟨K1, K2⟩ := KN.out (okW_no hlt hk)
            subst K1; subst K2
            clear KY KN
            generalize ofL (W.getD m []) = A at hcell HV
            go_wp2_with (go_at_call 96; refine (HV.out _ (HT.out.on (by repeat (first | with_reducible refine Below.setCell ?_ (by first | omega | (simp <;> omega)) _ | with_reducible refine Below.drews ?_ | with_reducible refine Below.drew ?_ | with_reducible refine Below.alloc ?_ (by first | omega | (simp <;> omega)) _ | with_reducible refine Below.on ?_ HB0.out (by first | omega | (simp <;> omega)) | with_reducible exact Below.refl _ _)))).mono ?_; rintro e w2 ⟨rfl, b2⟩; have B2 := Hb.mk (Below.on (B := w.heap.size) (a := w) (by repeat (first | exact HB0.out | refine Below.drews ?_ | refine Below.drew ?_ | refine Below.alloc ?_ (by have hq_ := HB0.out.size; first | omega | (simp <;> omega)) _ | refine Below.setCell ?_ (by have hq_ := HB0.out.size; first | omega | (simp <;> omega)) _)) b2 (by have hq_ := HB0.out.size; first | omega | (simp <;> omega))); clear b2)
            go_ret2
            exact RLy.nil (by repeat (first | exact B2.out | refine Below.drews ?_ | refine Below.drew ?_ | refine Below.alloc ?_ (by have hq_ := B2.out.size; first | omega | (simp <;> omega)) _ | refine Below.setCell ?_ (by have hq_ := B2.out.size; first | omega | (simp <;> omega)) _))
          · rw [rdV_yes hk] at HV
            have KU := Hf.mk (hU.out.up hk)
            have KA := Hf.mk (numW_at hlt)
            generalize ofL (W.getD m []) = A at hcell HV
            generalize rdN (W.getD m []) = x at HV KA
            go_wp2_with (go_at_call 96; refine (HV.out _ (HT.out.on (by repeat (first | with_reducible refine Below.setCell ?_ (by first | omega | (simp <;> omega)) _ | with_reducible refine Below.drews ?_ | with_reducible refine Below.drew ?_ | with_reducible refine Below.alloc ?_ (by first | omega | (simp <;> omega)) _ | with_reducible refine Below.on ?_ HB0.out (by first | omega | (simp <;> omega)) | with_reducible exact Below.refl _ _)))).mono ?_; rintro e w2 ⟨rfl, b2⟩; have HB1 := Hb.mk (Below.on (B := w1.heap.size) (a := w1) hB.out b2 hszB); have HO1 := Hf.mk (cu_below hown.out b2); have hcA : w2.cell? ⟨w1.heap.size, m, none⟩ = some old := (HO1.out.cellAt m (by omega)).trans hold; have hfA : w2.frozen? ⟨w1.heap.size, m, none⟩ = false := HO1.out.frozenAt m; clear b2)
            go_roundw
            case rel =>
              have hst := HO1.out.stored m (.int .i64 x)
              refine ⟨m + 1, _, by omega, i_ext2 (by omega), KU, ⟨hst.1⟩, ⟨?_⟩, ⟨Below.setCell HB1.out (Nat.le_refl _) _⟩⟩
              intro j hj
              by_cases he : j = m
              · subst he; rw [List.getElem?_set_self (by omega), KA.out]
              · rw [List.getElem?_set_ne (by omega)]; exact hcur.out j (by omega)
            case measure => simp [intOf]; omega
        · obtain rfl : m = W.length := by omega
          obtain ⟨K1, K2⟩ := KY.out (okW_yes hU.out (by omega))
          subst K1; subst K2
          have hlen : cur.length = (numW W).length := by have := hown.out.1; rw [numW_len]; omega
          have hcu := Hf.mk (ils_of hlen (fun j hj => hcur.out j (by rw [numW_len] at hj; exact hj)))
          go_wp2
          go_ret2
          refine ⟨⟨_, rfl, ?_⟩, (by repeat (first | exact HB0.out | refine Below.drews ?_ | refine Below.drew ?_ | refine Below.alloc ?_ (by have hq_ := HB0.out.size; first | omega | (simp <;> omega)) _ | refine Below.setCell ?_ (by have hq_ := HB0.out.size; first | omega | (simp <;> omega)) _))⟩
          have := hown.out
          rw [hcu.out] at this
          rw [ils_len, numW_len]
          exact own_lower this B1.out.size
theorem iRl_any {s : ByteArray} {mx : Int} (hs : s.size ≤ 1048576) (w : World) (ht : P10 w) (hv : MlIs w mx) : Calls Tryd.prog 57 #[.string s] w (RLy 2 (rlO s.data.toList) (ils (rlX s.data.toList)) w) := by
  have K := Hf.mk (fun w ht hv => readText_any (s := s) (mx := mx) hs w ht hv)
  generalize rlO s.data.toList = O at K ⊢
  generalize ils (rlX s.data.toList) = X at K ⊢
  have B0 := Hb.mk (Below.refl w.heap.size w)
  go_enter Tryd.func57, Tryd.ntmps57
  go_wp2_with (go_at_call 95; refine (K.out _ (ht.on (by repeat (first | exact Below.refl _ _ | with_reducible assumption | refine Below.drews ?_ | refine Below.drew ?_ | refine Below.alloc ?_ (by simp <;> omega) _ | refine Below.setCell ?_ (by simp <;> omega) _))) (hv.on (by repeat (first | exact Below.refl _ _ | with_reducible assumption | refine Below.drews ?_ | refine Below.drew ?_ | refine Below.alloc ?_ (by simp <;> omega) _ | refine Below.setCell ?_ (by simp <;> omega) _)))).mono ?_; rintro e w1 ⟨⟨v, rfl, o1⟩, b1⟩; have O1 := Hf.mk o1; have B1 := Hb.mk (Below.on (B := w.heap.size) (a := w) (by repeat (first | exact B0.out | refine Below.drews ?_ | refine Below.drew ?_ | refine Below.alloc ?_ (by have hq_ := B0.out.size; first | omega | (simp <;> omega)) _ | refine Below.setCell ?_ (by have hq_ := B0.out.size; first | omega | (simp <;> omega)) _)) b1 (by have hq_ := B0.out.size; first | omega | (simp <;> omega))); clear b1 o1)
  go_ret2
  exact ⟨⟨_, rfl, O1.out⟩, (by repeat (first | exact B1.out | refine Below.drews ?_ | refine Below.drew ?_ | refine Below.alloc ?_ (by have hq_ := B1.out.size; first | omega | (simp <;> omega)) _ | refine Below.setCell ?_ (by have hq_ := B1.out.size; first | omega | (simp <;> omega)) _))⟩
end Go.Proofs.YtcgakdgfmhkpjaaDoor
