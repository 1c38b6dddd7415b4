/-
ReadNumbers: the model.
-/
import Derived.Test.YthanhmchgidjlaaDoorHxw
namespace Go.Proofs.YthanhmchgidjlaaDoor
open Go Go.RowKit
set_option maxRecDepth 100000
set_option maxHeartbeats 4000000 in
theorem sRn_any {s : ByteArray} (hs : s.size ≤ 1048576) (w : World) : Calls Tryd.prog 44 #[.string s] w (RLy 51 (rnO s.data.toList) (fls (rnX s.data.toList)) w) := by
  obtain ⟨i0, hi0, hz0, hz1, hz2⟩ := info_parts (P := Tryd.prog) (e := 51) (z := .float .f32 0) (size := 1) (bytes := 4) (by kernel_rfl)
  have B0 := Hb.mk (Below.refl w.heap.size w)
  by_cases hn : s.data.toList = noneL
  · have hq := toL_eq hn
    obtain ⟨K1, K2⟩ := rn_none hn
    rw [K1, K2]
    clear hn K1 K2
    go_enter Tryd.func44, Tryd.ntmps44
    go_wp2
    go_ret2
    exact ⟨⟨_, rfl, World.ownsRow_made _ _ _ (Nat.le_refl _) (by decide) rfl⟩, (by repeat (first | exact Below.refl _ _ | with_reducible assumption | refine Below.drews ?_ | refine Below.drew ?_ | refine Below.alloc ?_ (by simp <;> omega) _ | refine Below.setCell ?_ (by simp <;> omega) _))⟩
  · have hq := toL_ne hn
    have KC := Hf.mk (fun w => l01Cut_any (c := 44) hs w)
    have KY := Hf.mk (fun h => rn_yes hn h)
    have KN := Hf.mk (fun h => rn_no hn h)
    have hW0 := cutL_ne 44 s.data.toList
    have hWl : (cutL 44 s.data.toList).length ≤ 1048577 := by have := cutL_count 44 s.data.toList; have := count_len 44 s.data.toList; have : s.data.toList.length = s.size := rfl; omega
    generalize cutL 44 s.data.toList = W at KC KY KN hW0 hWl
    have hW1 : 0 < W.length := List.length_pos_iff.2 hW0
    clear hn hW0
    generalize rnO s.data.toList = O at KY KN ⊢
    generalize rnX s.data.toList = X at KY KN ⊢
    by_cases h256 : 256 < W.length
    · obtain ⟨K1, K2⟩ := KN.out (okF_long h256)
      subst K1; subst K2
      clear KY KN
      go_enter Tryd.func44, Tryd.ntmps44
      go_wp2_with (go_at_call 51; refine (KC.out _).mono ?_; rintro e w1 ⟨v1, rfl, o1, b1⟩; obtain ⟨g1, k1, rfl, hg1, hl1, hk1⟩ := cu_shf o1 hW1; have B1 := Hb.mk (Below.on (B := w.heap.size) (a := w) (by repeat (first | exact B0.out | refine Below.drews ?_ | refine Below.drew ?_ | refine Below.alloc ?_ (by have hq_ := B0.out.size; first | omega | (simp <;> omega)) _ | refine Below.setCell ?_ (by have hq_ := B0.out.size; first | omega | (simp <;> omega)) _)) b1 (by have hq_ := B0.out.size; first | omega | (simp <;> omega))); clear o1 b1)
      go_ret2
      exact RLy.nilF (by repeat (first | exact B1.out | refine Below.drews ?_ | refine Below.drew ?_ | refine Below.alloc ?_ (by have hq_ := B1.out.size; first | omega | (simp <;> omega)) _ | refine Below.setCell ?_ (by have hq_ := B1.out.size; first | omega | (simp <;> omega)) _))
    · go_enter Tryd.func44, Tryd.ntmps44
      go_wp2_with (go_at_call 51; refine (KC.out _).mono ?_; rintro e w1 ⟨v1, rfl, o1, b1⟩; obtain ⟨g1, k1, rfl, hg1, hl1, hk1⟩ := cu_shf o1 hW1; have B1 := Hb.mk (Below.on (B := w.heap.size) (a := w) (by repeat (first | exact B0.out | refine Below.drews ?_ | refine Below.drew ?_ | refine Below.alloc ?_ (by have hq_ := B0.out.size; first | omega | (simp <;> omega)) _ | refine Below.setCell ?_ (by have hq_ := B0.out.size; first | omega | (simp <;> omega)) _)) b1 (by have hq_ := B0.out.size; first | omega | (simp <;> omega))); have T1 := Hf.mk (trow_own o1); have O1 := Hf.mk (show w1.ownsRow w.heap.size 51 1 (.slice (some ⟨w.heap.size, 0, none⟩) 0 0) 0 [] from cu_below (World.ownsRow_made _ _ _ (Nat.le_refl _) (by decide) rfl) b1); have hsz1 := b1.size; clear o1 b1)
      simp at hg1 hsz1
      go_loopw [4, 6] (fun v i wr => ∃ (m go cap : Nat), m ≤ W.length ∧ i = .int .i64 m ∧ v = .slice (some ⟨go, 0, none⟩) m cap ∧ (go = w.heap.size ∨ w1.heap.size ≤ go) ∧ Hf (upF W m) ∧ Hf (wr.ownsRow w.heap.size 51 1 v m (fls ((numF W).take m))) ∧ Hf (w1.grownBy wr (some w.heap.size))) (fun _ i _ => W.length - (intOf i).toNat)
      case atStart => exact ⟨0, w.heap.size, 0, by omega, rfl, rfl, .inl rfl, ⟨fun j hj => absurd hj (Nat.not_lt_zero j)⟩, O1, ⟨gb_refl _ _⟩⟩
      case round =>
        obtain ⟨m, go, cap, hm, rfl, rfl, hgo, hU, hown, hgb⟩ := hrel
        obtain ⟨W1, hW1e⟩ : ∃ W1, W1 = wr := ⟨_, rfl⟩
        subst hW1e
        have hsz := hgb.out.size
        have T2 := Hf.mk (T1.out.gb hgb.out (by omega))
        by_cases hlt : m < W.length
        · have hcell0 : W1.cell? ⟨g1, m, none⟩ = some (.string (ofL (W.getD m []))) := T2.out m hlt
          have KNo := Hf.mk (fun hk => KN.out (okF_no hlt hk))
          have KU := Hf.mk (fun hk => hU.out.up (m := m) hk)
          have KT := Hf.mk (takeF_up (xs := numF W) (m := m) (by rw [numF_len]; exact hlt) (numF_at hlt))
          have HL := Hf.mk (show (fls ((numF W).take m)).length = m by rw [fls_len, List.length_take, numF_len]; omega)
          have BB := Hb.mk (below_gb B1.out hgb.out B1.out.size (Nat.le_refl _))
          have OB := Hf.mk (own_lt hown.out)
          obtain ⟨l, hl⟩ : ∃ l, l = W.getD m [] := ⟨_, rfl⟩
          rw [← hl] at hcell0 KNo KU KT
          obtain ⟨A, hA⟩ : ∃ A, A = ofL l := ⟨_, rfl⟩
          have hcell : W1.cell? ⟨g1, m, none⟩ = some (.string A) := by rw [hA]; exact hcell0
          have HA : Hf (A.data.toList = l) := ⟨by rw [hA]⟩
          have hAl := Hf.mk (show A.size = l.length by rw [hA, ofL_size])
          clear hl hA hcell0
          by_cases h8 : A.size = 8
          · have hl8 := Hf.mk (show l.length = 8 by rw [← hAl.out]; exact h8)
            have hd8 : ((A.size : Int) != 8) = false := by rw [h8]; rfl
            have H8 := Hf.mk h8
            clear h8
            go_wp2
            go_loopw [7, 8] (fun n k w' => ∃ q : Nat, q ≤ 8 ∧ k = .int .i64 q ∧ n = .int .i64 (hval (l.take q) : Nat) ∧ Hf (upH l q) ∧ Drew W1 w') (fun _ k _ => 8 - (intOf k).toNat)
            case atStart => exact ⟨0, by omega, rfl, rfl, ⟨fun j hj => absurd hj (Nat.not_lt_zero j)⟩, (by repeat (first | exact Drew.refl _ | refine Drew.more ?_))⟩
            case round =>
              obtain ⟨q, hq, rfl, rfl, hH, nd, rfl⟩ := hrel
              have hv := hval_32 hl8.out hq hH.out
              obtain ⟨X, hX⟩ : ∃ X, X = hval (l.take q) := ⟨_, rfl⟩
              rw [← hX] at hv ⊢
              have HX := Hf.mk hX
              clear hX
              by_cases hq8 : q < 8
              · have hlt8 : q < A.size := by rw [H8.out]; exact hq8
                have hb : (A[q]'hlt8).toNat < 256 := UInt8.toNat_lt _
                have hb2 : (A.data[q]'hlt8).toNat < 256 := hb
                have HB := Hf.mk (show (l.getD q 0).toNat = (A[q]'hlt8).toNat by rw [← HA.out, ← byt_d, ← byt_at A q hlt8])
                by_cases c1 : (A[q]'hlt8).toNat < 48
                · have c1' : (A.data[q]'hlt8).toNat < 48 := c1
                  obtain ⟨K1, K2⟩ := KNo.out (hwOk_dig (m := q) (by rw [hl8.out]; exact hq8) (by unfold hxd; rw [HB.out]; exact decide_eq_false (by omega)))
                  subst K1; subst K2
                  clear KY KN KNo KU KT
                  go_wp2
                  go_ret2
                  exact RLy.nilF (by repeat (first | exact BB.out | refine Below.drews ?_ | refine Below.drew ?_ | refine Below.alloc ?_ (by have hq_ := BB.out.size; first | omega | (simp <;> omega)) _ | refine Below.setCell ?_ (by have hq_ := BB.out.size; first | omega | (simp <;> omega)) _))
                · have c1' : ¬ (A.data[q]'hlt8).toNat < 48 := c1
                  by_cases c2 : (A[q]'hlt8).toNat ≤ 57
                  · have c2' : (A.data[q]'hlt8).toNat ≤ 57 := c2
                    have KD := Hf.mk (show hxd (l.getD q 0) = true by unfold hxd; rw [HB.out]; exact decide_eq_true (by omega))
                    have KH := Hf.mk (show hval (l.take (q + 1)) = 16 * X + ((A[q]'hlt8).toNat - 48) by rw [hval_up (by rw [hl8.out]; exact hq8), ← HX.out]; unfold hxv; rw [HB.out]; split <;> omega)
                    go_wp2
                    go_roundw
                    case rel => exact ⟨q + 1, by omega, i_ext2 (by omega), i_ext2 (by rw [KH.out]; omega), ⟨hH.out.up KD.out⟩, (by repeat (first | exact Drew.refl _ | refine Drew.more ?_))⟩
                    case measure => simp [intOf]; omega
                  · have c2' : ¬ (A.data[q]'hlt8).toNat ≤ 57 := c2
                    by_cases c3 : (A[q]'hlt8).toNat < 97
                    · have c3' : (A.data[q]'hlt8).toNat < 97 := c3
                      obtain ⟨K1, K2⟩ := KNo.out (hwOk_dig (m := q) (by rw [hl8.out]; exact hq8) (by unfold hxd; rw [HB.out]; exact decide_eq_false (by omega)))
                      subst K1; subst K2
                      clear KY KN KNo KU KT
                      go_wp2
                      go_ret2
                      exact RLy.nilF (by repeat (first | exact BB.out | refine Below.drews ?_ | refine Below.drew ?_ | refine Below.alloc ?_ (by have hq_ := BB.out.size; first | omega | (simp <;> omega)) _ | refine Below.setCell ?_ (by have hq_ := BB.out.size; first | omega | (simp <;> omega)) _))
                    · have c3' : ¬ (A.data[q]'hlt8).toNat < 97 := c3
                      by_cases c4 : (A[q]'hlt8).toNat ≤ 102
                      · have c4' : (A.data[q]'hlt8).toNat ≤ 102 := c4
                        have KD := Hf.mk (show hxd (l.getD q 0) = true by unfold hxd; rw [HB.out]; exact decide_eq_true (by omega))
                        have KH := Hf.mk (show hval (l.take (q + 1)) = 16 * X + ((A[q]'hlt8).toNat - 97 + 10) by rw [hval_up (by rw [hl8.out]; exact hq8), ← HX.out]; unfold hxv; rw [HB.out]; split <;> omega)
                        go_wp2
                        go_roundw
                        case rel => exact ⟨q + 1, by omega, i_ext2 (by omega), i_ext2 (by rw [KH.out]; omega), ⟨hH.out.up KD.out⟩, (by repeat (first | exact Drew.refl _ | refine Drew.more ?_))⟩
                        case measure => simp [intOf]; omega
                      · have c4' : ¬ (A.data[q]'hlt8).toNat ≤ 102 := c4
                        obtain ⟨K1, K2⟩ := KNo.out (hwOk_dig (m := q) (by rw [hl8.out]; exact hq8) (by unfold hxd; rw [HB.out]; exact decide_eq_false (by omega)))
                        subst K1; subst K2
                        clear KY KN KNo KU KT
                        go_wp2
                        go_ret2
                        exact RLy.nilF (by repeat (first | exact BB.out | refine Below.drews ?_ | refine Below.drew ?_ | refine Below.alloc ?_ (by have hq_ := BB.out.size; first | omega | (simp <;> omega)) _ | refine Below.setCell ?_ (by have hq_ := BB.out.size; first | omega | (simp <;> omega)) _))
              · obtain rfl : q = 8 := by omega
                have hX8 : X = hval l := by rw [HX.out, List.take_of_length_le (by rw [hl8.out]; exact Nat.le_refl _)]
                have HE := Hf.mk (hwOk_end hl8.out hH.out)
                rw [← hX8] at HE KT
                have HFr := Hf.mk (show ∀ w, Calls Tryd.prog 56 #[.int .i64 (X : Int)] w (RT (.float .f32 X) w) from fun w => by have := l01From_any (n := (X : Int)) (by omega) (by omega) w; rw [Int.toNat_natCast] at this; exact this)
                have HBt := Hf.mk (fun w => l01Bits_any (Fl.own (k := .f32) (x := X) (wf_of_lt .f32 _ (by show _ < 2 ^ 32; omega))) w)
                clear hX8 HX
                by_cases hc : nrm .f32 X = X
                · rw [hc] at HBt
                  have hk := HE.out.trans (decide_eq_true hc)
                  have KU2 := Hf.mk (KU.out hk)
                  clear HE hc
                  go_wp2_with (first | (go_at_call 56; refine (HFr.out _).mono ?_; rintro e w' ⟨rfl, n1, rfl⟩) | (go_at_call 57; refine (HBt.out _).mono ?_; rintro e w' ⟨rfl, n2, rfl⟩) | (at_builtin; refine wpList_append_lies _ rfl _ _ 36 rfl w.heap.size 51 i0 (.float .f32 0) 1 4 Tryd.underlying36 hi0 hz0 hz1 hz2 rfl (by decide) _ m (fls ((numF W).take m)) rfl (cu_below hown.out (by repeat (first | exact Below.refl _ _ | with_reducible assumption | refine Below.drews ?_ | refine Below.drew ?_ | refine Below.alloc ?_ (by simp <;> omega) _ | refine Below.setCell ?_ (by simp <;> omega) _))) ⟨W1.heap.size, 0, none⟩ 1 1 [.float .f32 X] rfl rfl (str_one _ _ _) flt_one (by decide) (by unfold maxLen; omega) (by omega) (by first | omega | (simp <;> omega)) W1.heap.size.succ (by simp) ?_; intro g3 cap3 w3 o3 hg3 hp3 hl3; have HG3 := Hf.mk (gb_step (gb_trans hgb.out (gb_below (w := W1) (g := some w.heap.size) (by repeat (first | exact Below.refl _ _ | with_reducible assumption | refine Below.drews ?_ | refine Below.drew ?_ | refine Below.alloc ?_ (by simp <;> omega) _ | refine Below.setCell ?_ (by simp <;> omega) _)))) hg3 (fun k hk => by obtain rfl : go = k := Option.some.inj hk; exact hgo)); clear hg3))
                  go_roundw
                  case rel =>
                    refine ⟨m + 1, g3, cap3, by omega, i_ext2 (by omega), rfl, ?_, KU2, ⟨?_⟩, HG3⟩
                    · rcases hp3 with h | h
                      · obtain rfl := Option.some.inj h; exact hgo
                      · rw [h]; exact .inr (by omega)
                    · rw [← KT.out]
                      unfold fls at o3 ⊢
                      rw [List.map_append]
                      exact o3
                  case measure => simp [intOf]; omega
                · have hk := HE.out.trans (decide_eq_false hc)
                  obtain ⟨K1, K2⟩ := KNo.out hk
                  subst K1; subst K2
                  have hne : (((nrm .f32 X : Nat) : Int) != (X : Int)) = true := by rw [bne_iff_ne]; omega
                  generalize nrm .f32 X = Y at HBt hne
                  clear KY KN KNo KU KT HE hk hc
                  go_wp2_with (first | (go_at_call 56; refine (HFr.out _).mono ?_; rintro e w' ⟨rfl, n1, rfl⟩) | (go_at_call 57; refine (HBt.out _).mono ?_; rintro e w' ⟨rfl, n2, rfl⟩))
                  go_ret2
                  exact RLy.nilF (by repeat (first | exact BB.out | refine Below.drews ?_ | refine Below.drew ?_ | refine Below.alloc ?_ (by have hq_ := BB.out.size; first | omega | (simp <;> omega)) _ | refine Below.setCell ?_ (by have hq_ := BB.out.size; first | omega | (simp <;> omega)) _))
          · obtain ⟨K1, K2⟩ := KNo.out (hwOk_len (by rw [← hAl.out]; exact h8))
            subst K1; subst K2
            have hd8 : ((A.size : Int) != 8) = true := by rw [bne_iff_ne]; omega
            clear KY KN KNo KU KT h8
            go_wp2
            go_ret2
            exact RLy.nilF (by repeat (first | exact BB.out | refine Below.drews ?_ | refine Below.drew ?_ | refine Below.alloc ?_ (by have hq_ := BB.out.size; first | omega | (simp <;> omega)) _ | refine Below.setCell ?_ (by have hq_ := BB.out.size; first | omega | (simp <;> omega)) _))
        · obtain rfl : m = W.length := by omega
          obtain ⟨K1, K2⟩ := KY.out (okF_yes hU.out (by omega))
          subst K1; subst K2
          have BB := Hb.mk (below_gb B1.out hgb.out B1.out.size (Nat.le_refl _))
          go_wp2
          go_ret2
          refine ⟨⟨_, rfl, ?_⟩, (by repeat (first | exact BB.out | refine Below.drews ?_ | refine Below.drew ?_ | refine Below.alloc ?_ (by have hq_ := BB.out.size; first | omega | (simp <;> omega)) _ | refine Below.setCell ?_ (by have hq_ := BB.out.size; first | omega | (simp <;> omega)) _))⟩
          have := hown.out
          rw [List.take_of_length_le (by rw [numF_len]; exact Nat.le_refl _)] at this
          rw [fls_len, numF_len]
          exact this
end Go.Proofs.YthanhmchgidjlaaDoor
