/-
ReadComplex of the model and of the program: lists.
-/
import Derived.Test.YthambmgibelpkaaDoorCqs
namespace Go.Proofs.YthambmgibelpkaaDoor
open Go Go.RowKit
set_option maxRecDepth 100000
theorem cx_one {x y : Nat} : ∀ u ∈ [Value.complex .f32 x y], u.oneCell' = true := by
  intro u hu
  simp at hu
  subst hu
  rfl
theorem cxs_of {cur : List Value} {X : List (Nat × Nat)} (hl : cur.length = X.length) (h : ∀ j, j < X.length → cur[j]? = some (.complex .f32 (X.getD j (0, 0)).1 (X.getD j (0, 0)).2)) : cur = cxs X := by
  refine List.ext_getElem? fun j => ?_
  by_cases hj : j < X.length
  · rw [h j hj]
    simp [cxs, List.getD, List.getElem?_eq_getElem hj]
  · rw [List.getElem?_eq_none (by omega), List.getElem?_eq_none (by rw [cxs_len]; omega)]
set_option maxHeartbeats 500000 in
theorem sRc_any {s : ByteArray} (hs : s.size ≤ 1048576) (w : World) : Calls Tryd.prog 9 #[.string s] w (RLy 29 (rcO s.data.toList) (cxs (rcX s.data.toList)) w) := by
  obtain ⟨i0, hi0, hz0, hz1, hz2⟩ := info_parts (P := Tryd.prog) (e := 29) (z := .complex .f32 0 0) (size := 1) (bytes := 8) (by kernel_rfl)
  have B0 := Hb.mk (Below.refl w.heap.size w)
  by_cases hn : s.data.toList = noneL
  · have hq := toL_eq hn
    obtain ⟨K1, K2⟩ := rc_none hn
    rw [K1, K2]
    clear hn K1 K2
    go_enter Tryd.func9, Tryd.ntmps9
    go_wp2
    go_ret2
    exact ⟨⟨_, rfl, World.ownsRow_made _ _ _ (Nat.le_refl _) (by decide) rfl⟩, (by repeat (first | exact Below.refl _ _ | with_reducible assumption | refine Below.drews ?_ | refine Below.drew ?_ | refine Below.alloc ?_ (by simp <;> omega) _ | refine Below.setCell ?_ (by simp <;> omega) _))⟩
  · have hq := toL_ne hn
    have KC := Hf.mk (fun w => l01Cut_any (c := 44) hs w)
    have KY := Hf.mk (fun h => rc_yes hn h)
    have KN := Hf.mk (fun h => rc_no hn h)
    have hW0 := cutL_ne 44 s.data.toList
    have hWl : (cutL 44 s.data.toList).length ≤ 1048577 := by have := cutL_count 44 s.data.toList; have := count_len 44 s.data.toList; have : s.data.toList.length = s.size := rfl; omega
    generalize cutL 44 s.data.toList = W at KC KY KN hW0 hWl
    have hW1 : 0 < W.length := List.length_pos_iff.2 hW0
    clear hn hW0
    generalize rcO s.data.toList = O at KY KN ⊢
    generalize rcX s.data.toList = X at KY KN ⊢
    by_cases h256 : 256 < W.length
    · obtain ⟨K1, K2⟩ := KN.out (okC_long h256)
      subst K1; subst K2
      clear KY KN
      go_enter Tryd.func9, Tryd.ntmps9
      go_wp2_with (go_at_call 13; refine (KC.out _).mono ?_; rintro e w1 ⟨v1, rfl, o1, b1⟩; obtain ⟨g1, k1, rfl, hg1, hl1, hk1⟩ := cu_shf o1 hW1; have B1 := Hb.mk (Below.on (B := w.heap.size) (a := w) (by repeat (first | exact B0.out | refine Below.drews ?_ | refine Below.drew ?_ | refine Below.alloc ?_ (by have hq_ := B0.out.size; first | omega | (simp <;> omega)) _ | refine Below.setCell ?_ (by have hq_ := B0.out.size; first | omega | (simp <;> omega)) _)) b1 (by have hq_ := B0.out.size; first | omega | (simp <;> omega))); clear o1 b1)
      go_ret2
      exact RLy.nilC (by repeat (first | exact B1.out | refine Below.drews ?_ | refine Below.drew ?_ | refine Below.alloc ?_ (by have hq_ := B1.out.size; first | omega | (simp <;> omega)) _ | refine Below.setCell ?_ (by have hq_ := B1.out.size; first | omega | (simp <;> omega)) _))
    · go_enter Tryd.func9, Tryd.ntmps9
      go_wp2_with (go_at_call 13; refine (KC.out _).mono ?_; rintro e w1 ⟨v1, rfl, o1, b1⟩; obtain ⟨g1, k1, rfl, hg1, hl1, hk1⟩ := cu_shf o1 hW1; have B1 := Hb.mk (Below.on (B := w.heap.size) (a := w) (by repeat (first | exact B0.out | refine Below.drews ?_ | refine Below.drew ?_ | refine Below.alloc ?_ (by have hq_ := B0.out.size; first | omega | (simp <;> omega)) _ | refine Below.setCell ?_ (by have hq_ := B0.out.size; first | omega | (simp <;> omega)) _)) b1 (by have hq_ := B0.out.size; first | omega | (simp <;> omega))); have T1 := Hf.mk (trow_own o1); have O1 := Hf.mk (show w1.ownsRow w.heap.size 29 1 (.slice (some ⟨w.heap.size, 0, none⟩) 0 0) 0 [] from cu_below (World.ownsRow_made _ _ _ (Nat.le_refl _) (by decide) rfl) b1); have hsz1 := b1.size; clear o1 b1)
      simp at hg1 hsz1
      go_loopw [4, 6] (fun v i wr => ∃ (m go cap : Nat), m ≤ W.length ∧ i = .int .i64 m ∧ v = .slice (some ⟨go, 0, none⟩) m cap ∧ (go = w.heap.size ∨ w1.heap.size ≤ go) ∧ Hf (upC W m) ∧ Hf (wr.ownsRow w.heap.size 29 1 v m (cxs ((numC W).take m))) ∧ Hf (w1.grownBy wr (some w.heap.size))) (fun _ i _ => W.length - (intOf i).toNat)
      case atStart => exact ⟨0, w.heap.size, 0, by omega, rfl, rfl, .inl rfl, ⟨fun j hj => absurd hj (Nat.not_lt_zero j)⟩, O1, ⟨gb_refl _ _⟩⟩
      case round =>
        obtain ⟨m, go, cap, hm, rfl, rfl, hgo, hU, hown, hgb⟩ := hrel
        have hsz := hgb.out.size
        have T2 := Hf.mk (T1.out.gb hgb.out (by omega))
        by_cases hlt : m < W.length
        · have hcell0 : wr.cell? ⟨g1, m, none⟩ = some (.string (ofL (W.getD m []))) := T2.out m hlt
          have KNo := Hf.mk (fun hk => KN.out (okC_no hlt hk))
          have KU := Hf.mk (fun hk => hU.out.up (m := m) hk)
          have KT := Hf.mk (takeC_up (xs := numC W) (m := m) (by rw [numC_len]; exact hlt) (numC_at hlt))
          have HL := Hf.mk (show (cxs ((numC W).take m)).length = m by rw [cxs_len, List.length_take, numC_len]; omega)
          have BB := Hb.mk (below_gb B1.out hgb.out B1.out.size (Nat.le_refl _))
          obtain ⟨l, hl⟩ : ∃ l, l = W.getD m [] := ⟨_, rfl⟩
          rw [← hl] at hcell0 KNo KU KT
          obtain ⟨A, hA⟩ : ∃ A, A = ofL l := ⟨_, rfl⟩
          have hcell : wr.cell? ⟨g1, m, none⟩ = some (.string A) := by rw [hA]; exact hcell0
          have HA : Hf (A.data.toList = l) := ⟨by rw [hA]⟩
          have hAl := Hf.mk (show A.size = l.length by rw [hA, ofL_size])
          clear hl hA hcell0
          by_cases h16 : A.size = 16
          · have hd : ((A.size : Int) != 16) = false := by rw [h16]; rfl
            have h8 : (8 : Int) ≤ (A.size : Int) := by omega
            have H1 := Hf.mk (fun w => l01Digits_any (A := A.extract 0 8) (by simp; omega) w)
            have H2 := Hf.mk (fun w => l01Digits_any (A := A.extract 8 A.size) (by simp; omega) w)
            rw [ext_lo] at H1
            rw [ext_hi A h16] at H2
            rw [HA.out] at H1 H2
            have HC := Hf.mk (cwOk_two (l := l) (by rw [← hAl.out]; exact h16))
            have HP : Hf (cwP l = (hval (l.take 8), hval (l.drop 8))) := ⟨rfl⟩
            clear h16
            cases k1 : hwOk (l.take 8)
            · have G1 := Hf.mk (fun w => (H1.out w).mono fun e w' h => RW.out_no k1 h)
              cases k2 : hwOk (l.drop 8)
              all_goals
                rw [k1, k2] at HC
                obtain ⟨K1, K2⟩ := KNo.out HC.out
                subst K1; subst K2
              · have G2 := Hf.mk (fun w => (H2.out w).mono fun e w' h => RW.out_no k2 h)
                clear H1 H2 k1 k2 KY KN KNo KU KT
                have tk_a : True := trivial; have tk_b : True := trivial
                go_wp2_with (first | (go_at_call 14; clear tk_a; refine (G1.out _).mono ?_; rintro e w2 ⟨x, rfl, b2⟩; have hcell2 : w2.cell? ⟨g1, m, none⟩ = some (.string A) := Below.keep b2 hcell; have B2 := Hb.mk (Below.on (B := w.heap.size) (a := w) (by repeat (first | exact BB.out | refine Below.drews ?_ | refine Below.drew ?_ | refine Below.alloc ?_ (by have hq_ := BB.out.size; first | omega | (simp <;> omega)) _ | refine Below.setCell ?_ (by have hq_ := BB.out.size; first | omega | (simp <;> omega)) _)) b2 (by have hq_ := BB.out.size; first | omega | (simp <;> omega))); clear b2) | (go_at_call 14; clear tk_b; refine (G2.out _).mono ?_; rintro e w3 ⟨y, rfl, b3⟩; have B3 := Hb.mk (Below.on (B := w.heap.size) (a := w) (by repeat (first | exact B2.out | refine Below.drews ?_ | refine Below.drew ?_ | refine Below.alloc ?_ (by have hq_ := B2.out.size; first | omega | (simp <;> omega)) _ | refine Below.setCell ?_ (by have hq_ := B2.out.size; first | omega | (simp <;> omega)) _)) b3 (by have hq_ := B2.out.size; first | omega | (simp <;> omega))); clear b3))
                go_ret2
                exact RLy.nilC (by repeat (first | exact B3.out | refine Below.drews ?_ | refine Below.drew ?_ | refine Below.alloc ?_ (by have hq_ := B3.out.size; first | omega | (simp <;> omega)) _ | refine Below.setCell ?_ (by have hq_ := B3.out.size; first | omega | (simp <;> omega)) _))
              · have G2 := Hf.mk (fun w => (H2.out w).mono fun e w' h => RW.out_yes k2 h)
                clear H1 H2 k1 k2 KY KN KNo KU KT
                have tk_a : True := trivial; have tk_b : True := trivial
                go_wp2_with (first | (go_at_call 14; clear tk_a; refine (G1.out _).mono ?_; rintro e w2 ⟨x, rfl, b2⟩; have hcell2 : w2.cell? ⟨g1, m, none⟩ = some (.string A) := Below.keep b2 hcell; have B2 := Hb.mk (Below.on (B := w.heap.size) (a := w) (by repeat (first | exact BB.out | refine Below.drews ?_ | refine Below.drew ?_ | refine Below.alloc ?_ (by have hq_ := BB.out.size; first | omega | (simp <;> omega)) _ | refine Below.setCell ?_ (by have hq_ := BB.out.size; first | omega | (simp <;> omega)) _)) b2 (by have hq_ := BB.out.size; first | omega | (simp <;> omega))); clear b2) | (go_at_call 14; clear tk_b; refine (G2.out _).mono ?_; rintro e w3 ⟨rfl, b3⟩; have B3 := Hb.mk (Below.on (B := w.heap.size) (a := w) (by repeat (first | exact B2.out | refine Below.drews ?_ | refine Below.drew ?_ | refine Below.alloc ?_ (by have hq_ := B2.out.size; first | omega | (simp <;> omega)) _ | refine Below.setCell ?_ (by have hq_ := B2.out.size; first | omega | (simp <;> omega)) _)) b3 (by have hq_ := B2.out.size; first | omega | (simp <;> omega))); clear b3))
                go_ret2
                exact RLy.nilC (by repeat (first | exact B3.out | refine Below.drews ?_ | refine Below.drew ?_ | refine Below.alloc ?_ (by have hq_ := B3.out.size; first | omega | (simp <;> omega)) _ | refine Below.setCell ?_ (by have hq_ := B3.out.size; first | omega | (simp <;> omega)) _))
            · have G1 := Hf.mk (fun w => (H1.out w).mono fun e w' h => RW.out_yes k1 h)
              cases k2 : hwOk (l.drop 8)
              all_goals
                rw [k1, k2] at HC
              · obtain ⟨K1, K2⟩ := KNo.out HC.out
                subst K1; subst K2
                have G2 := Hf.mk (fun w => (H2.out w).mono fun e w' h => RW.out_no k2 h)
                clear H1 H2 k1 k2 KY KN KNo KU KT
                have tk_a : True := trivial; have tk_b : True := trivial
                go_wp2_with (first | (go_at_call 14; clear tk_a; refine (G1.out _).mono ?_; rintro e w2 ⟨rfl, b2⟩; have hcell2 : w2.cell? ⟨g1, m, none⟩ = some (.string A) := Below.keep b2 hcell; have B2 := Hb.mk (Below.on (B := w.heap.size) (a := w) (by repeat (first | exact BB.out | refine Below.drews ?_ | refine Below.drew ?_ | refine Below.alloc ?_ (by have hq_ := BB.out.size; first | omega | (simp <;> omega)) _ | refine Below.setCell ?_ (by have hq_ := BB.out.size; first | omega | (simp <;> omega)) _)) b2 (by have hq_ := BB.out.size; first | omega | (simp <;> omega))); clear b2) | (go_at_call 14; clear tk_b; refine (G2.out _).mono ?_; rintro e w3 ⟨y, rfl, b3⟩; have B3 := Hb.mk (Below.on (B := w.heap.size) (a := w) (by repeat (first | exact B2.out | refine Below.drews ?_ | refine Below.drew ?_ | refine Below.alloc ?_ (by have hq_ := B2.out.size; first | omega | (simp <;> omega)) _ | refine Below.setCell ?_ (by have hq_ := B2.out.size; first | omega | (simp <;> omega)) _)) b3 (by have hq_ := B2.out.size; first | omega | (simp <;> omega))); clear b3))
                go_ret2
                exact RLy.nilC (by repeat (first | exact B3.out | refine Below.drews ?_ | refine Below.drew ?_ | refine Below.alloc ?_ (by have hq_ := B3.out.size; first | omega | (simp <;> omega)) _ | refine Below.setCell ?_ (by have hq_ := B3.out.size; first | omega | (simp <;> omega)) _))
              · have G2 := Hf.mk (fun w => (H2.out w).mono fun e w' h => RW.out_yes k2 h)
                have KU2 := Hf.mk (KU.out HC.out)
                rw [HP.out] at KT
                clear H1 H2 k1 k2 KN KNo KU HP
                generalize hval (l.take 8) = X1 at *
                generalize hval (l.drop 8) = X2 at *
                have tk_a : True := trivial; have tk_b : True := trivial
                go_wp2_with (first | (go_at_call 14; clear tk_a; refine (G1.out _).mono ?_; rintro e w2 ⟨rfl, b2⟩; have hcell2 : w2.cell? ⟨g1, m, none⟩ = some (.string A) := Below.keep b2 hcell; have S2 := b2.size; have O2 := Hf.mk (cu_below hown.out b2); have G3 := Hf.mk (gb_trans hgb.out (gb_below (g := some w.heap.size) b2)); clear b2) | (go_at_call 14; clear tk_b; refine (G2.out _).mono ?_; rintro e w3 ⟨rfl, b3⟩; have S3 := b3.size; have O3 := Hf.mk (cu_below O2.out b3); have G4 := Hf.mk (gb_trans G3.out (gb_below (g := some w.heap.size) b3)); clear b3) | (at_builtin; refine wpList_append_lies _ rfl _ _ 22 rfl w.heap.size 29 i0 (.complex .f32 0 0) 1 8 Tryd.underlying22 hi0 hz0 hz1 hz2 rfl (by decide) _ m (cxs ((numC W).take m)) rfl (cu_below O3.out (by repeat (first | exact Below.refl _ _ | with_reducible assumption | refine Below.drews ?_ | refine Below.drew ?_ | refine Below.alloc ?_ (by simp <;> omega) _ | refine Below.setCell ?_ (by simp <;> omega) _))) ⟨w3.heap.size, 0, none⟩ 1 1 [.complex .f32 X1 X2] rfl rfl (str_one _ _ _) cx_one (by decide) (by unfold maxLen; omega) (by omega) (by first | omega | (simp <;> omega)) w3.heap.size.succ (by simp) ?_; intro g3 cap3 w4 o3 hg3 hp3 hl3; have HG3 := Hf.mk (gb_step (gb_trans G4.out (gb_below (w := w3) (g := some w.heap.size) (by repeat (first | exact Below.refl _ _ | with_reducible assumption | refine Below.drews ?_ | refine Below.drew ?_ | refine Below.alloc ?_ (by simp <;> omega) _ | refine Below.setCell ?_ (by simp <;> omega) _)))) hg3 (fun k hk => by obtain rfl : go = k := Option.some.inj hk; exact hgo)); clear hg3))
                go_roundw
                case rel =>
                  refine ⟨m + 1, g3, cap3, by omega, i_ext2 (by omega), rfl, ?_, KU2, ⟨?_⟩, HG3⟩
                  · rcases hp3 with h | h
                    · obtain rfl := Option.some.inj h; exact hgo
                    · rw [h]; exact .inr (by omega)
                  · rw [← KT.out]
                    exact o3
                case measure => simp [intOf]; omega
          · obtain ⟨K1, K2⟩ := KNo.out (cwOk_len (by rw [← hAl.out]; exact h16))
            subst K1; subst K2
            have hd : ((A.size : Int) != 16) = true := by rw [bne_iff_ne]; omega
            clear KY KN KNo KU KT h16
            go_wp2
            go_ret2
            exact RLy.nilC (by repeat (first | exact BB.out | refine Below.drews ?_ | refine Below.drew ?_ | refine Below.alloc ?_ (by have hq_ := BB.out.size; first | omega | (simp <;> omega)) _ | refine Below.setCell ?_ (by have hq_ := BB.out.size; first | omega | (simp <;> omega)) _))
        · obtain rfl : m = W.length := by omega
          obtain ⟨K1, K2⟩ := KY.out (okC_yes hU.out (by omega))
          subst K1; subst K2
          have BB := Hb.mk (below_gb B1.out hgb.out B1.out.size (Nat.le_refl _))
          go_wp2
          go_ret2
          refine ⟨⟨_, rfl, ?_⟩, (by repeat (first | exact BB.out | refine Below.drews ?_ | refine Below.drew ?_ | refine Below.alloc ?_ (by have hq_ := BB.out.size; first | omega | (simp <;> omega)) _ | refine Below.setCell ?_ (by have hq_ := BB.out.size; first | omega | (simp <;> omega)) _))⟩
          have := hown.out
          rw [List.take_of_length_le (by rw [numC_len]; exact Nat.le_refl _)] at this
          rw [cxs_len, numC_len]
          exact this
theorem sRclist_any {s : ByteArray} (hs : s.size ≤ 1048576) (w : World) : Calls Tryd.prog 4 #[.string s] w (RLy 29 (rcO s.data.toList) (cxs (rcX s.data.toList)) w) := by
  have K := Hf.mk (fun w => sRc_any (s := s) hs w)
  generalize rcO s.data.toList = O at K ⊢
  generalize cxs (rcX s.data.toList) = X at K ⊢
  have B0 := Hb.mk (Below.refl w.heap.size w)
  go_enter Tryd.func4, Tryd.ntmps4
  go_wp2_with (go_at_call 9; refine (K.out _).mono ?_; rintro e w1 ⟨⟨v, rfl, o1⟩, b1⟩; have O1 := Hf.mk o1; have B1 := Hb.mk (Below.on (B := w.heap.size) (a := w) (by repeat (first | exact B0.out | refine Below.drews ?_ | refine Below.drew ?_ | refine Below.alloc ?_ (by have hq_ := B0.out.size; first | omega | (simp <;> omega)) _ | refine Below.setCell ?_ (by have hq_ := B0.out.size; first | omega | (simp <;> omega)) _)) b1 (by have hq_ := B0.out.size; first | omega | (simp <;> omega))); clear b1 o1)
  go_ret2
  exact ⟨⟨_, rfl, O1.out⟩, (by repeat (first | exact B1.out | refine Below.drews ?_ | refine Below.drew ?_ | refine Below.alloc ?_ (by have hq_ := B1.out.size; first | omega | (simp <;> omega)) _ | refine Below.setCell ?_ (by have hq_ := B1.out.size; first | omega | (simp <;> omega)) _))⟩
set_option maxHeartbeats 500000 in
theorem readTextC_any {s : ByteArray} {mx : Int} (hs : s.size ≤ 1048576) (w : World) (hv : MlIs w mx) : Calls Tryd.prog 10 #[.string s, .int .i64 256, .func (.func 11) #[] #[]] w (RLy 29 (rcO s.data.toList) (cxs (rcX s.data.toList)) w) := by
  obtain ⟨i0, hi0, hz0, hz1, hz2⟩ := info_parts (P := Tryd.prog) (e := 29) (z := .complex .f32 0 0) (size := 1) (bytes := 8) (by kernel_rfl)
  have B0 := Hb.mk (Below.refl w.heap.size w)
  by_cases hn : s.data.toList = noneL
  · have hq := toL_eq hn
    obtain ⟨K1, K2⟩ := rc_none hn
    rw [K1, K2]
    clear hn K1 K2
    go_enter Tryd.func10, Tryd.ntmps10
    go_wp2
    go_ret2
    exact ⟨⟨_, rfl, World.ownsRow_nil _ _ _ _⟩, (by repeat (first | exact Below.refl _ _ | with_reducible assumption | refine Below.drews ?_ | refine Below.drew ?_ | refine Below.alloc ?_ (by simp <;> omega) _ | refine Below.setCell ?_ (by simp <;> omega) _))⟩
  · have hq := toL_ne hn
    have KS := Hf.mk (show ∀ w1, MlIs w1 mx → Calls Tryd.prog 15 #[.string s, .string ⟨#[44]⟩, .int .i64 257] w1 (fun e w' => e = .returned (.slice (some ⟨w1.heap.size, 0, none⟩) (wdN 44 257 s).length (min 257 (s.size + 1))) ∧ w' = w1.alloc (.cells (Lib.cellsOf (wdN 44 257 s) (min 257 (s.size + 1))) 9)) from fun w1 h1 => Tryd.strings_SplitN s ⟨#[44]⟩ 257 mx w1 (by omega) h1 (by decide) (by decide) (by decide))
    have KC := Hf.mk (fun (w : World) h j hj => @wdN_cell w 44 257 s 9 h j hj)
    have KL := Hf.mk (fun h => @wdN_len 44 257 s h)
    have KM := Hf.mk (fun h => @wdN_most 44 257 s (by decide) h)
    have KY := Hf.mk (fun h => rc_yes hn h)
    have KN := Hf.mk (fun h => rc_no hn h)
    have hW0 := cutL_ne 44 s.data.toList
    generalize cutL 44 s.data.toList = W at KC KY KN KL KM hW0
    generalize wdN 44 257 s = D at KC KL KM KS
    generalize min 257 (s.size + 1) = N at KC KS
    have hW1 : 0 < W.length := List.length_pos_iff.2 hW0
    clear hn hW0
    generalize rcO s.data.toList = O at KY KN ⊢
    generalize rcX s.data.toList = X at KY KN ⊢
    by_cases h256 : 256 < W.length
    · obtain ⟨K1, K2⟩ := KN.out (okC_long h256)
      subst K1; subst K2
      have hD := KM.out (by omega)
      rw [hD] at KS
      clear KY KN KC KL KM
      go_enter Tryd.func10, Tryd.ntmps10
      go_wp2_with (go_at_call 15; refine (KS.out _ hv).mono ?_; rintro e w1 ⟨rfl, hw⟩; rw [hw]; clear hw w1)
      go_ret2
      exact RLy.nilC (by repeat (first | exact Below.refl _ _ | with_reducible assumption | refine Below.drews ?_ | refine Below.drew ?_ | refine Below.alloc ?_ (by simp <;> omega) _ | refine Below.setCell ?_ (by simp <;> omega) _))
    · have hD := KL.out (by omega)
      rw [hD] at KS
      clear KL KM
      go_enter Tryd.func10, Tryd.ntmps10
      go_wp2_with (first | (go_at_call 15; refine (KS.out _ hv).mono ?_; rintro e w1 ⟨rfl, hw⟩; have T1 := Hf.mk (show TRow w1 w.heap.size W from by rw [hw]; intro j hj; exact KC.out w (by omega) j hj); have B1 := Hb.mk (show Below w.heap.size w w1 from by rw [hw]; exact (by repeat (first | exact Below.refl _ _ | with_reducible assumption | refine Below.drews ?_ | refine Below.drew ?_ | refine Below.alloc ?_ (by simp <;> omega) _ | refine Below.setCell ?_ (by simp <;> omega) _))); have hsz1 : w.heap.size < w1.heap.size := (by rw [hw]; simp); clear hw) | (at_make; refine wpList_make_full _ rfl _ _ 22 rfl w1.heap.size 29 i0 _ 1 Tryd.underlying22 hi0 hz0 hz1 .i64 .i64 _ _ W.length rfl rfl rfl rfl (by rw [hz2]; omega) (by unfold maxLen; omega) (Nat.le_refl _) ?_; intro w0 hown0 hgrow0))
      go_loopw [29] (fun i wr => ∃ (m : Nat) (cur : List Value), m ≤ W.length ∧ i = .int .i64 m ∧ Hf (upC W m) ∧ Hf (wr.ownsRow w1.heap.size 29 1 (.slice (some ⟨w1.heap.size, 0, none⟩) W.length W.length) W.length cur) ∧ Hf (∀ j, j < m → cur[j]? = some (.complex .f32 ((numC W).getD j (0, 0)).1 ((numC W).getD j (0, 0)).2)) ∧ Hb (Below w1.heap.size w1 wr)) (fun i _ => W.length - (intOf i).toNat)
      case atStart => exact ⟨0, _, by omega, rfl, ⟨fun j hj => absurd hj (Nat.not_lt_zero j)⟩, ⟨hown0⟩, ⟨fun j hj => absurd hj (Nat.not_lt_zero j)⟩, ⟨(Below.refl _ _).grown hgrow0 (Nat.le_refl _) (fun k h => by cases h)⟩⟩
      case round =>
        obtain ⟨m, cur, hm, rfl, hU, hown, hcur, hB⟩ := hrel
        have hszB := hB.out.size
        have HB0 := Hb.mk (Below.on (B := w.heap.size) (a := w) B1.out hB.out B1.out.size)
        by_cases hlt : m < W.length
        · have hcell : wr.cell? ⟨w.heap.size, m, none⟩ = some (.string (ofL (W.getD m []))) := (T1.out.below hB.out) m hlt
          have hlen : cur.length = W.length := by have := hown.out.1; omega
          obtain ⟨old, hold⟩ : ∃ old, cur[m]? = some old := ⟨_, List.getElem?_eq_getElem (by omega)⟩
          have HV := Hf.mk (fun w => iCword_any (ofL (W.getD m [])) w)
          cases hk : cwOk (W.getD m [])
          · have HV := Hf.mk (fun w => (HV.out w).mono fun e w' h => RWc.out_no (l := W.getD m []) hk h)
            obtain ⟨K1, K2⟩ := KN.out (okC_no hlt hk)
            subst K1; subst K2
            clear KY KN
            generalize ofL (W.getD m []) = A at hcell HV
            go_wp2_with (go_at_call 11; refine (HV.out _).mono ?_; rintro e w2 ⟨x, y, rfl, b2⟩; have B2 := Hb.mk (Below.on (B := w.heap.size) (a := w) (by repeat (first | exact HB0.out | refine Below.drews ?_ | refine Below.drew ?_ | refine Below.alloc ?_ (by have hq_ := HB0.out.size; first | omega | (simp <;> omega)) _ | refine Below.setCell ?_ (by have hq_ := HB0.out.size; first | omega | (simp <;> omega)) _)) b2 (by have hq_ := HB0.out.size; first | omega | (simp <;> omega))); clear b2)
            go_ret2
            exact RLy.nilC (by repeat (first | exact B2.out | refine Below.drews ?_ | refine Below.drew ?_ | refine Below.alloc ?_ (by have hq_ := B2.out.size; first | omega | (simp <;> omega)) _ | refine Below.setCell ?_ (by have hq_ := B2.out.size; first | omega | (simp <;> omega)) _))
          · have HV := Hf.mk (fun w => (HV.out w).mono fun e w' h => RWc.out_yes (l := W.getD m []) hk h)
            have KU := Hf.mk (hU.out.up hk)
            have KA := Hf.mk (numC_at hlt)
            generalize ofL (W.getD m []) = A at hcell HV
            generalize cwP (W.getD m []) = x at HV KA
            go_wp2_with (go_at_call 11; refine (HV.out _).mono ?_; rintro e w2 ⟨rfl, b2⟩; have HB1 := Hb.mk (Below.on (B := w1.heap.size) (a := w1) hB.out b2 hszB); have HO1 := Hf.mk (cu_below hown.out b2); have hcA : w2.cell? ⟨w1.heap.size, m, none⟩ = some old := (HO1.out.cellAt m (by omega)).trans hold; have hfA : w2.frozen? ⟨w1.heap.size, m, none⟩ = false := HO1.out.frozenAt m; have hsto : ∀ v u md, (store ⟨w1.heap.size, m, none⟩ (.complex .f32 v u) md).run Tryd.prog w2 = .ok () (w2.setCell ⟨w1.heap.size, m, none⟩ (.complex .f32 v u)) := (fun v u md => (run_store _ _ _ _ _ rfl).trans (by simp [hcA, hfA])); clear b2)
            go_roundw
            case rel =>
              have hst := HO1.out.stored m (.complex .f32 x.1 x.2)
              refine ⟨m + 1, _, by omega, i_ext2 (by omega), KU, ⟨hst.1⟩, ⟨?_⟩, ⟨Below.setCell HB1.out (Nat.le_refl _) _⟩⟩
              intro j hj
              by_cases he : j = m
              · subst he; rw [List.getElem?_set_self (by omega), KA.out]
              · rw [List.getElem?_set_ne (by omega)]; exact hcur.out j (by omega)
            case measure => simp [intOf]; omega
        · obtain rfl : m = W.length := by omega
          obtain ⟨K1, K2⟩ := KY.out (okC_yes hU.out (by omega))
          subst K1; subst K2
          have hlen : cur.length = (numC W).length := by have := hown.out.1; rw [numC_len]; omega
          have hcu := Hf.mk (cxs_of hlen (fun j hj => hcur.out j (by rw [numC_len] at hj; exact hj)))
          go_wp2
          go_ret2
          refine ⟨⟨_, rfl, ?_⟩, (by repeat (first | exact HB0.out | refine Below.drews ?_ | refine Below.drew ?_ | refine Below.alloc ?_ (by have hq_ := HB0.out.size; first | omega | (simp <;> omega)) _ | refine Below.setCell ?_ (by have hq_ := HB0.out.size; first | omega | (simp <;> omega)) _))⟩
          have := hown.out
          rw [hcu.out] at this
          rw [cxs_len, numC_len]
          exact own_lower this B1.out.size
theorem iRc_any {s : ByteArray} {mx : Int} (hs : s.size ≤ 1048576) (w : World) (hv : MlIs w mx) : Calls Tryd.prog 5 #[.string s] w (RLy 29 (rcO s.data.toList) (cxs (rcX s.data.toList)) w) := by
  have K := Hf.mk (fun w hv => readTextC_any (s := s) (mx := mx) hs w hv)
  generalize rcO s.data.toList = O at K ⊢
  generalize cxs (rcX s.data.toList) = X at K ⊢
  have B0 := Hb.mk (Below.refl w.heap.size w)
  go_enter Tryd.func5, Tryd.ntmps5
  go_wp2_with (go_at_call 10; refine (K.out _ (hv.on (by repeat (first | exact Below.refl _ _ | with_reducible assumption | refine Below.drews ?_ | refine Below.drew ?_ | refine Below.alloc ?_ (by simp <;> omega) _ | refine Below.setCell ?_ (by simp <;> omega) _)))).mono ?_; rintro e w1 ⟨⟨v, rfl, o1⟩, b1⟩; have O1 := Hf.mk o1; have B1 := Hb.mk (Below.on (B := w.heap.size) (a := w) (by repeat (first | exact B0.out | refine Below.drews ?_ | refine Below.drew ?_ | refine Below.alloc ?_ (by have hq_ := B0.out.size; first | omega | (simp <;> omega)) _ | refine Below.setCell ?_ (by have hq_ := B0.out.size; first | omega | (simp <;> omega)) _)) b1 (by have hq_ := B0.out.size; first | omega | (simp <;> omega))); clear b1 o1)
  go_ret2
  exact ⟨⟨_, rfl, O1.out⟩, (by repeat (first | exact B1.out | refine Below.drews ?_ | refine Below.drew ?_ | refine Below.alloc ?_ (by have hq_ := B1.out.size; first | omega | (simp <;> omega)) _ | refine Below.setCell ?_ (by have hq_ := B1.out.size; first | omega | (simp <;> omega)) _))⟩
end Go.Proofs.YthambmgibelpkaaDoor
