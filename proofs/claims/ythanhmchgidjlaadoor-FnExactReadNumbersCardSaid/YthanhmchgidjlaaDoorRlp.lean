/-
ReadList: the program.
-/
import Derived.Test.YthanhmchgidjlaaDoorRli
namespace Go.Proofs.YthanhmchgidjlaaDoor
open Go Go.RowKit
set_option maxRecDepth 100000

/-- What the library's own variable holds. -/
abbrev MlIs (w : World) (m : Int) : Prop := w.cell? ⟨4, 0, none⟩ = some (.int .i64 m)
theorem MlIs.on {w w' : World} {m : Int} (h : MlIs w m) (b : Below w.heap.size w w') : MlIs w' m := Below.keep b h
set_option maxHeartbeats 2000000 in
theorem readText_any {s : ByteArray} {mx : Int} (hs : s.size ≤ 1048576) (w : World) (ht : P10 w) (hv : MlIs w mx) : Calls Tryd.prog 38 #[.string s, .int .i64 64, .func (.func 12) #[] #[]] w (RLy 2 (rlO s.data.toList) (ils (rlX s.data.toList)) w) := by
  obtain ⟨i0, hi0, hz0, hz1, hz2⟩ := info_parts (P := Tryd.prog) (e := 2) (z := .int .i64 0) (size := 1) (bytes := 8) (by kernel_rfl)
  have B0 := Hb.mk (Below.refl w.heap.size w)
  by_cases hn : s.data.toList = noneL
  · have hq := toL_eq hn
    obtain ⟨K1, K2⟩ := rl_none hn
    rw [K1, K2]
    clear hn K1 K2
    go_enter Tryd.func38, Tryd.ntmps38
    go_wp2
    go_ret2
    exact ⟨⟨_, rfl, World.ownsRow_nil _ _ _ _⟩, (by repeat (first | exact Below.refl _ _ | with_reducible assumption | refine Below.drews ?_ | refine Below.drew ?_ | refine Below.alloc ?_ (by simp <;> omega) _ | refine Below.setCell ?_ (by simp <;> omega) _))⟩
  · have hq := toL_ne hn
    have HT := Hf.mk ht
    have KS := Hf.mk (show ∀ w1, MlIs w1 mx → Calls Tryd.prog 52 #[.string s, .string ⟨#[44]⟩, .int .i64 65] w1 (fun e w' => e = .returned (.slice (some ⟨w1.heap.size, 0, none⟩) (wdN 44 65 s).length (min 65 (s.size + 1))) ∧ w' = w1.alloc (.cells (Lib.cellsOf (wdN 44 65 s) (min 65 (s.size + 1))) 9)) from fun w1 h1 => Tryd.strings_SplitN s ⟨#[44]⟩ 65 mx w1 (by omega) h1 (by decide) (by decide) (by decide))
    have KC := Hf.mk (fun (w : World) h j hj => @wdN_cell w 44 65 s 9 h j hj)
    have KL := Hf.mk (fun h => @wdN_len 44 65 s h)
    have KM := Hf.mk (fun h => @wdN_most 44 65 s (by decide) h)
    have KY := Hf.mk (fun h => rl_yes hn h)
    have KN := Hf.mk (fun h => rl_no hn h)
    have hW0 := cutL_ne 44 s.data.toList
    generalize cutL 44 s.data.toList = W at KC KY KN KL KM hW0
    generalize wdN 44 65 s = D at KC KL KM KS
    generalize min 65 (s.size + 1) = N at KC KS
    have hW1 : 0 < W.length := List.length_pos_iff.2 hW0
    clear hn hW0 ht
    generalize rlO s.data.toList = O at KY KN ⊢
    generalize rlX s.data.toList = X at KY KN ⊢
    by_cases h64 : 64 < W.length
    · obtain ⟨K1, K2⟩ := KN.out (okW_long h64)
      subst K1; subst K2
      have hD := KM.out (by omega)
      rw [hD] at KS
      clear KY KN KC KL KM
      go_enter Tryd.func38, Tryd.ntmps38
      go_wp2_with (go_at_call 52; refine (KS.out _ hv).mono ?_; rintro e w1 ⟨rfl, hw⟩; rw [hw]; clear hw w1)
      go_ret2
      exact RLy.nil (by repeat (first | exact Below.refl _ _ | with_reducible assumption | refine Below.drews ?_ | refine Below.drew ?_ | refine Below.alloc ?_ (by simp <;> omega) _ | refine Below.setCell ?_ (by simp <;> omega) _))
    · have hD := KL.out (by omega)
      rw [hD] at KS
      clear KL KM
      go_enter Tryd.func38, Tryd.ntmps38
      go_wp2_with (first | (go_at_call 52; refine (KS.out _ hv).mono ?_; rintro e w1 ⟨rfl, hw⟩; have T1 := Hf.mk (show TRow w1 w.heap.size W from by rw [hw]; intro j hj; exact KC.out w (by omega) j hj); have B1 := Hb.mk (show Below w.heap.size w w1 from by rw [hw]; exact (by repeat (first | exact Below.refl _ _ | with_reducible assumption | refine Below.drews ?_ | refine Below.drew ?_ | refine Below.alloc ?_ (by simp <;> omega) _ | refine Below.setCell ?_ (by simp <;> omega) _))); have hsz1 : w.heap.size < w1.heap.size := (by rw [hw]; simp); clear hw) | (at_make; refine wpList_make_full _ rfl _ _ 27 rfl w1.heap.size 2 i0 _ 1 Tryd.underlying27 hi0 hz0 hz1 .i64 .i64 _ _ W.length rfl rfl rfl rfl (by rw [hz2]; omega) (by unfold maxLen; omega) (Nat.le_refl _) ?_; intro w0 hown0 hgrow0))
      go_loopw [29] (fun i wr => ∃ (m : Nat) (cur : List Value), m ≤ W.length ∧ i = .int .i64 m ∧ Hf (upO W m) ∧ Hf (wr.ownsRow w1.heap.size 2 1 (.slice (some ⟨w1.heap.size, 0, none⟩) W.length W.length) W.length cur) ∧ Hf (∀ j, j < m → cur[j]? = some (.int .i64 ((numW W).getD j 0))) ∧ Hb (Below w1.heap.size w1 wr)) (fun i _ => W.length - (intOf i).toNat)
      case atStart => exact ⟨0, _, by omega, rfl, ⟨fun j hj => absurd hj (Nat.not_lt_zero j)⟩, ⟨hown0⟩, ⟨fun j hj => absurd hj (Nat.not_lt_zero j)⟩, ⟨(Below.refl _ _).grown hgrow0 (Nat.le_refl _) (fun k h => by cases h)⟩⟩
      case round =>
        obtain ⟨m, cur, hm, rfl, hU, hown, hcur, hB⟩ := hrel
        have hszB := hB.out.size
        have HB0 := Hb.mk (Below.on (B := w.heap.size) (a := w) B1.out hB.out B1.out.size)
        by_cases hlt : m < W.length
        · have hcell : wr.cell? ⟨w.heap.size, m, none⟩ = some (.string (ofL (W.getD m []))) := (T1.out.below hB.out) m hlt
          have hlen : cur.length = W.length := by have := hown.out.1; omega
          obtain ⟨old, hold⟩ : ∃ old, cur[m]? = some old := ⟨_, List.getElem?_eq_getElem (by omega)⟩
          have HV := Hf.mk (fun w ht => iRead_any (ofL (W.getD m [])) w ht)
          cases hk : rdOk (W.getD m [])
          · rw [rdV_no hk] at HV
            obtain ⟨K1, K2⟩ := KN.out (okW_no hlt hk)
            subst K1; subst K2
            clear KY KN
            generalize ofL (W.getD m []) = A at hcell HV
            go_wp2_with (go_at_call 12; refine (HV.out _ (HT.out.on (by repeat (first | with_reducible refine Below.setCell ?_ (by first | omega | (simp <;> omega)) _ | with_reducible refine Below.drews ?_ | with_reducible refine Below.drew ?_ | with_reducible refine Below.alloc ?_ (by first | omega | (simp <;> omega)) _ | with_reducible refine Below.on ?_ HB0.out (by first | omega | (simp <;> omega)) | with_reducible exact Below.refl _ _)))).mono ?_; rintro e w2 ⟨rfl, b2⟩; have B2 := Hb.mk (Below.on (B := w.heap.size) (a := w) (by repeat (first | exact HB0.out | refine Below.drews ?_ | refine Below.drew ?_ | refine Below.alloc ?_ (by have hq_ := HB0.out.size; first | omega | (simp <;> omega)) _ | refine Below.setCell ?_ (by have hq_ := HB0.out.size; first | omega | (simp <;> omega)) _)) b2 (by have hq_ := HB0.out.size; first | omega | (simp <;> omega))); clear b2)
            go_ret2
            exact RLy.nil (by repeat (first | exact B2.out | refine Below.drews ?_ | refine Below.drew ?_ | refine Below.alloc ?_ (by have hq_ := B2.out.size; first | omega | (simp <;> omega)) _ | refine Below.setCell ?_ (by have hq_ := B2.out.size; first | omega | (simp <;> omega)) _))
          · rw [rdV_yes hk] at HV
            have KU := Hf.mk (hU.out.up hk)
            have KA := Hf.mk (numW_at hlt)
            generalize ofL (W.getD m []) = A at hcell HV
            generalize rdN (W.getD m []) = x at HV KA
            go_wp2_with (go_at_call 12; refine (HV.out _ (HT.out.on (by repeat (first | with_reducible refine Below.setCell ?_ (by first | omega | (simp <;> omega)) _ | with_reducible refine Below.drews ?_ | with_reducible refine Below.drew ?_ | with_reducible refine Below.alloc ?_ (by first | omega | (simp <;> omega)) _ | with_reducible refine Below.on ?_ HB0.out (by first | omega | (simp <;> omega)) | with_reducible exact Below.refl _ _)))).mono ?_; rintro e w2 ⟨rfl, b2⟩; have HB1 := Hb.mk (Below.on (B := w1.heap.size) (a := w1) hB.out b2 hszB); have HO1 := Hf.mk (cu_below hown.out b2); have hcA : w2.cell? ⟨w1.heap.size, m, none⟩ = some old := (HO1.out.cellAt m (by omega)).trans hold; have hfA : w2.frozen? ⟨w1.heap.size, m, none⟩ = false := HO1.out.frozenAt m; clear b2)
            go_roundw
            case rel =>
              have hst := HO1.out.stored m (.int .i64 x)
              refine ⟨m + 1, _, by omega, i_ext2 (by omega), KU, ⟨hst.1⟩, ⟨?_⟩, ⟨Below.setCell HB1.out (Nat.le_refl _) _⟩⟩
              intro j hj
              by_cases he : j = m
              · subst he; rw [List.getElem?_set_self (by omega), KA.out]
              · rw [List.getElem?_set_ne (by omega)]; exact hcur.out j (by omega)
            case measure => simp [intOf]; omega
        · obtain rfl : m = W.length := by omega
          obtain ⟨K1, K2⟩ := KY.out (okW_yes hU.out (by omega))
          subst K1; subst K2
          have hlen : cur.length = (numW W).length := by have := hown.out.1; rw [numW_len]; omega
          have hcu := Hf.mk (ils_of hlen (fun j hj => hcur.out j (by rw [numW_len] at hj; exact hj)))
          go_wp2
          go_ret2
          refine ⟨⟨_, rfl, ?_⟩, (by repeat (first | exact HB0.out | refine Below.drews ?_ | refine Below.drew ?_ | refine Below.alloc ?_ (by have hq_ := HB0.out.size; first | omega | (simp <;> omega)) _ | refine Below.setCell ?_ (by have hq_ := HB0.out.size; first | omega | (simp <;> omega)) _))⟩
          have := hown.out
          rw [hcu.out] at this
          rw [ils_len, numW_len]
          exact own_lower this B1.out.size
theorem iRl_any {s : ByteArray} {mx : Int} (hs : s.size ≤ 1048576) (w : World) (ht : P10 w) (hv : MlIs w mx) : Calls Tryd.prog 18 #[.string s] w (RLy 2 (rlO s.data.toList) (ils (rlX s.data.toList)) w) := by
  have K := Hf.mk (fun w ht hv => readText_any (s := s) (mx := mx) hs w ht hv)
  generalize rlO s.data.toList = O at K ⊢
  generalize ils (rlX s.data.toList) = X at K ⊢
  have B0 := Hb.mk (Below.refl w.heap.size w)
  go_enter Tryd.func18, Tryd.ntmps18
  go_wp2_with (go_at_call 38; refine (K.out _ (ht.on (by repeat (first | exact Below.refl _ _ | with_reducible assumption | refine Below.drews ?_ | refine Below.drew ?_ | refine Below.alloc ?_ (by simp <;> omega) _ | refine Below.setCell ?_ (by simp <;> omega) _))) (hv.on (by repeat (first | exact Below.refl _ _ | with_reducible assumption | refine Below.drews ?_ | refine Below.drew ?_ | refine Below.alloc ?_ (by simp <;> omega) _ | refine Below.setCell ?_ (by simp <;> omega) _)))).mono ?_; rintro e w1 ⟨⟨v, rfl, o1⟩, b1⟩; have O1 := Hf.mk o1; have B1 := Hb.mk (Below.on (B := w.heap.size) (a := w) (by repeat (first | exact B0.out | refine Below.drews ?_ | refine Below.drew ?_ | refine Below.alloc ?_ (by have hq_ := B0.out.size; first | omega | (simp <;> omega)) _ | refine Below.setCell ?_ (by have hq_ := B0.out.size; first | omega | (simp <;> omega)) _)) b1 (by have hq_ := B0.out.size; first | omega | (simp <;> omega))); clear b1 o1)
  go_ret2
  exact ⟨⟨_, rfl, O1.out⟩, (by repeat (first | exact B1.out | refine Below.drews ?_ | refine Below.drew ?_ | refine Below.alloc ?_ (by have hq_ := B1.out.size; first | omega | (simp <;> omega)) _ | refine Below.setCell ?_ (by have hq_ := B1.out.size; first | omega | (simp <;> omega)) _))⟩
theorem sRlist_any {s : ByteArray} (hs : s.size ≤ 1048576) (w : World) : Calls Tryd.prog 17 #[.string s] w (RLy 2 (rlO s.data.toList) (ils (rlX s.data.toList)) w) := by
  have K := Hf.mk (fun w => sRl_any (s := s) hs w)
  generalize rlO s.data.toList = O at K ⊢
  generalize ils (rlX s.data.toList) = X at K ⊢
  have B0 := Hb.mk (Below.refl w.heap.size w)
  go_enter Tryd.func17, Tryd.ntmps17
  go_wp2_with (go_at_call 37; refine (K.out _).mono ?_; rintro e w1 ⟨⟨v, rfl, o1⟩, b1⟩; have O1 := Hf.mk o1; have B1 := Hb.mk (Below.on (B := w.heap.size) (a := w) (by repeat (first | exact B0.out | refine Below.drews ?_ | refine Below.drew ?_ | refine Below.alloc ?_ (by have hq_ := B0.out.size; first | omega | (simp <;> omega)) _ | refine Below.setCell ?_ (by have hq_ := B0.out.size; first | omega | (simp <;> omega)) _)) b1 (by have hq_ := B0.out.size; first | omega | (simp <;> omega))); clear b1 o1)
  go_ret2
  exact ⟨⟨_, rfl, O1.out⟩, (by repeat (first | exact B1.out | refine Below.drews ?_ | refine Below.drew ?_ | refine Below.alloc ?_ (by have hq_ := B1.out.size; first | omega | (simp <;> omega)) _ | refine Below.setCell ?_ (by have hq_ := B1.out.size; first | omega | (simp <;> omega)) _))⟩
end Go.Proofs.YthanhmchgidjlaaDoor
