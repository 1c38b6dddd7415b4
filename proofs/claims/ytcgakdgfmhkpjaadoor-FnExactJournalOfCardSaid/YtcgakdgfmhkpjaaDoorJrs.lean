/-
JournalOf of the model.
-/
import Derived.Test.YtcgakdgfmhkpjaaDoorJrn
namespace Go.Proofs.YtcgakdgfmhkpjaaDoor
open Go Go.RowKit
set_option maxRecDepth 100000

set_option maxHeartbeats 800000 in
theorem l08Journal_any {g cap : Nat} {L : List (List UInt8)} (w : World) (hT : TRow w g L) (hsm : smN L L.length ≤ 16000) : Calls Tryd.prog 62 #[.slice (some ⟨g, 0, none⟩) L.length cap] w (RS (.string (ofL (txN L L.length))) w) := by
  have HT := Hf.mk hT
  have hL3 := sm_ge L L.length
  have hl : L.length ≤ 5334 := by omega
  have HSm := Hf.mk (fun k (hk : k ≤ L.length) => Nat.le_trans (sm_mono L hk) hsm)
  clear hT hL3
  go_enter Tryd.func62, Tryd.ntmps62
  go_wp2
  go_loopw [3, 4, 5] (fun out n i wr => ∃ k : Nat, k ≤ L.length ∧ i = .int .i64 k ∧ n = .int .i64 (ckN L k) ∧ out = .string (ofL (txN L k)) ∧ Hb (Below w.heap.size w wr)) (fun _ _ i _ => L.length - (intOf i).toNat)
  case atStart => exact ⟨0, Nat.zero_le _, rfl, rfl, rfl, ⟨(by repeat (first | exact Below.refl _ _ | with_reducible assumption | refine Below.drews ?_ | refine Below.drew ?_ | refine Below.alloc ?_ (by simp <;> omega) _ | refine Below.setCell ?_ (by simp <;> omega) _))⟩⟩
  case round =>
    obtain ⟨k, hk, rfl, rfl, rfl, hB⟩ := hrel
    by_cases hlt : k < L.length
    · have d0 : wr.cell? ⟨g, k, none⟩ = some (.string (ofL (L.getD k []))) := (HT.out.below hB.out) k hlt
      have h1 := HSm.out (k + 1) (by omega)
      have h2 : smN L (k + 1) = smN L k + ((L.getD k []).length + 3) := rfl
      have h3 := tx_le L k
      have h4 := HSm.out k hk
      have hin := ckN_in L k
      have hck := ckR_in hin.1 hin.2 (L.getD k [])
      have hil := itoa_le hck.1 hck.2
      have HX : Hf (txN L (k + 1) = txN L k ++ enW (ckN L k) (L.getD k [])) := ⟨rfl⟩
      have HC : Hf (ckN L (k + 1) = ckR (ckN L k) (L.getD k [])) := ⟨rfl⟩
      have KC : Hf (∀ w, Calls Tryd.prog 99 #[.int .i64 (ckN L k), .string (ofL (L.getD k []))] w (RI .i64 (ckR (ckN L k) (L.getD k [])) w)) := ⟨fun w => by
        have h := l01Check_any (ofL (L.getD k [])) (by rw [ofL_size]; omega) (ckN L k) hin.1 hin.2 w
        rw [ofL_size] at h
        exact h⟩
      have KD := Hf.mk (fun w => l01Dec_any (n := ckR (ckN L k) (L.getD k [])) (by omega) (by omega) w)
      have hll : (L.getD k []).length ≤ 16000 := by omega
      have htl : (txN L k).length ≤ 130000 := by omega
      have HE : Hf (txN L k ++ enW (ckN L k) (L.getD k []) = txN L k ++ (Lib.itoa (ckR (ckN L k) (L.getD k [])) ++ 32 :: L.getD k [] ++ [10])) := ⟨rfl⟩
      generalize L.getD k [] = l at *
      generalize ckN L k = c at *
      generalize ckR c l = c2 at *
      generalize txN L k = t at *
      clear h1 h2 h3 h4 hck hin
      obtain ⟨A, hA⟩ : ∃ A, A = ofL t := ⟨_, rfl⟩
      obtain ⟨D, hD⟩ : ∃ D, D = (⟨(Lib.itoa c2).toArray⟩ : ByteArray) := ⟨_, rfl⟩
      obtain ⟨E, hE⟩ : ∃ E, E = ofL l := ⟨_, rfl⟩
      have hAs : A.size ≤ 130000 := by rw [hA, ofL_size]; exact htl
      have hDs : D.size ≤ 21 := by rw [hD]; have := ofL_size (Lib.itoa c2); unfold ofL at this; omega
      have hEs : E.size ≤ 16000 := by rw [hE, ofL_size]; exact hll
      have HK : Hf (A ++ (D ++ ⟨#[32]⟩ ++ E ++ ⟨#[10]⟩) = ofL (txN L (k + 1))) := ⟨by
        rw [HX.out, HE.out, hA, hD, hE]
        show ofL t ++ (ofL (Lib.itoa c2) ++ ofL [32] ++ ofL l ++ ofL [10]) = _
        rw [ofL_app, ofL_app, ofL_app, ofL_app]
        simp⟩
      rw [← hE] at d0 KC
      rw [← hD] at KD
      rw [← hA]
      clear hA hD hE HX HE
      have hone : (⟨#[32]⟩ : ByteArray).size = 1 := rfl
      have hone2 : (⟨#[10]⟩ : ByteArray).size = 1 := rfl
      have s1 : (D ++ ⟨#[32]⟩).size ≤ 22 := by rw [ByteArray.size_append]; omega
      have s2 : (D ++ ⟨#[32]⟩ ++ E).size ≤ 16022 := by rw [ByteArray.size_append]; omega
      have s3 : (D ++ ⟨#[32]⟩ ++ E ++ ⟨#[10]⟩).size ≤ 16023 := by rw [ByteArray.size_append]; omega
      have hadd1 : ∀ w, (Op.stringOp .add D ⟨#[32]⟩).run Tryd.prog w = .ok (.string (D ++ ⟨#[32]⟩)) w := fun w => run_string_add_sum w D ⟨#[32]⟩ (by omega)
      have hadd2 : ∀ w, (Op.stringOp .add (D ++ ⟨#[32]⟩) E).run Tryd.prog w = .ok (.string (D ++ ⟨#[32]⟩ ++ E)) w := fun w => run_string_add_sum w _ E (by omega)
      have hadd3 : ∀ w, (Op.stringOp .add (D ++ ⟨#[32]⟩ ++ E) ⟨#[10]⟩).run Tryd.prog w = .ok (.string (D ++ ⟨#[32]⟩ ++ E ++ ⟨#[10]⟩)) w := fun w => run_string_add_sum w _ ⟨#[10]⟩ (by omega)
      have hadd4 : ∀ w, (Op.stringOp .add A (D ++ ⟨#[32]⟩ ++ E ++ ⟨#[10]⟩)).run Tryd.prog w = .ok (.string (A ++ (D ++ ⟨#[32]⟩ ++ E ++ ⟨#[10]⟩))) w := fun w => run_string_add_sum w A _ (by omega)
      clear hone hone2
      go_wp2_with (go_at_call 99; refine (KC.out _).mono ?_; rintro e w' ⟨rfl, n1, rfl⟩)
      go_region_with (go_at_call 100; refine (KD.out _).mono ?_; rintro e w2 ⟨rfl, b2⟩; have d1 : w2.cell? ⟨g, k, none⟩ = some (.string E) := Below.keep b2 d0; have B2 := Hb.mk (Below.on (B := w.heap.size) (a := w) (by repeat (first | exact hB.out | refine Below.drews ?_ | refine Below.drew ?_ | refine Below.alloc ?_ (by have hq_ := hB.out.size; first | omega | (simp <;> omega)) _ | refine Below.setCell ?_ (by have hq_ := hB.out.size; first | omega | (simp <;> omega)) _)) b2 (by have hq_ := hB.out.size; first | omega | (simp <;> omega))); clear b2)
      all_goals
        go_wp2
        go_roundw
        case rel => exact ⟨k + 1, by omega, i_ext2 (by omega), by rw [HC.out], by rw [← HK.out], ⟨(by repeat (first | exact B2.out | refine Below.drews ?_ | refine Below.drew ?_ | refine Below.alloc ?_ (by have hq_ := B2.out.size; first | omega | (simp <;> omega)) _ | refine Below.setCell ?_ (by have hq_ := B2.out.size; first | omega | (simp <;> omega)) _))⟩⟩
        case measure => simp [intOf]; omega
    · obtain rfl : k = L.length := by omega
      go_wp2
      go_ret
      exact ⟨rfl, (by repeat (first | exact hB.out | refine Below.drews ?_ | refine Below.drew ?_ | refine Below.alloc ?_ (by have hq_ := hB.out.size; first | omega | (simp <;> omega)) _ | refine Below.setCell ?_ (by have hq_ := hB.out.size; first | omega | (simp <;> omega)) _))⟩
/-- 'a text and a bool' -/
abbrev jrT (t : List UInt8) (ok : Bool) : Value := .tuple #[.string (ofL t), .bool ok]
set_option maxHeartbeats 800000 in
theorem sJr_any {g cap : Nat} {L : List (List UInt8)} (w : World) (hT : TRow w g L) (hl : L.length ≤ 1048576) (hm : ∀ k, k < L.length → (L.getD k []).length ≤ 1048576) : Calls Tryd.prog 31 #[.slice (some ⟨g, 0, none⟩) L.length cap] w (RS (jrT (jTx L) (jOk L)) w) := by
  have HT := Hf.mk hT
  have HM := Hf.mk hm
  clear hT hm
  go_enter Tryd.func31, Tryd.ntmps31
  go_wp2
  go_loopw [4, 5] (fun t i wr => ∃ k : Nat, k ≤ L.length ∧ i = .int .i64 k ∧ t = .int .i64 (smN L k : Nat) ∧ smN L k ≤ 16000 ∧ Hf (∀ j, j < k → noNl (L.getD j []) = true) ∧ Drew w wr) (fun _ i _ => L.length - (intOf i).toNat)
  case atStart => exact ⟨0, Nat.zero_le _, rfl, rfl, Nat.zero_le _, ⟨fun j hj => absurd hj (Nat.not_lt_zero j)⟩, (by repeat (first | exact Drew.refl _ | refine Drew.more ?_))⟩
  case round =>
    obtain ⟨k, hk, rfl, rfl, hsm, hnl, q, rfl⟩ := hrel
    have hD2 : ∀ (W : World) (n : Nat) (x : Addr), (W.drewN n).cell? x = W.cell? x := fun _ _ _ => rfl
    by_cases hlt : k < L.length
    · have d0 : w.cell? ⟨g, k, none⟩ = some (.string (ofL (L.getD k []))) := HT.out k hlt
      have hml := HM.out k hlt
      have HS : Hf (smN L (k + 1) = smN L k + ((L.getD k []).length + 3)) := ⟨rfl⟩
      have HLo := Hf.mk (fun (h : 16000 < smN L (k + 1)) => jOk_long (L := L) (k := k + 1) (by omega) (Nat.lt_of_lt_of_le h (sm_le L (k + 1))))
      have HNo := Hf.mk (fun (h : noNl (L.getD k []) = false) => jOk_nl hlt h)
      have HUp := Hf.mk (fun (h : noNl (L.getD k []) = true) => show ∀ j, j < k + 1 → noNl (L.getD j []) = true from fun j hj => by
        by_cases e : j < k
        · exact hnl.out j e
        · obtain rfl : j = k := by omega
          exact h)
      generalize L.getD k [] = l at *
      generalize smN L k = T at *
      by_cases hbig : 16000 < T + (l.length + 3)
      · have hbi : (16000 : Int) < (T : Int) + ((l.length : Int) + 3) := by omega
        have HV := Hf.mk (HLo.out (by rw [HS.out]; omega))
        go_wp2
        go_ret2
        rw [jTx_no HV.out, HV.out]
        exact ⟨rfl, (by repeat (first | exact Below.refl _ _ | with_reducible assumption | refine Below.drews ?_ | refine Below.drew ?_ | refine Below.alloc ?_ (by simp <;> omega) _ | refine Below.setCell ?_ (by simp <;> omega) _))⟩
      · have hbi : ¬ (16000 : Int) < (T : Int) + ((l.length : Int) + 3) := by omega
        go_wp2
        go_loopw [6] (fun v wi => ∃ m : Nat, m ≤ l.length ∧ v = .int .i64 m ∧ Hf (∀ j, j < m → l[j]? ≠ some 10) ∧ Drew w wi) (fun v _ => l.length - (intOf v).toNat)
        case atStart => exact ⟨0, Nat.zero_le _, rfl, ⟨fun j hj => absurd hj (Nat.not_lt_zero j)⟩, (by repeat (first | exact Drew.refl _ | refine Drew.more ?_))⟩
        case round =>
          obtain ⟨m, hm, rfl, hno, q2, rfl⟩ := hrel
          by_cases hml2 : m < l.length
          · by_cases h10 : l[m]? = some 10
            · have HV := Hf.mk (HNo.out (nl_at h10))
              have hb : (((((⟨l.toArray⟩ : ByteArray)[m]'(by simpa [ByteArray.size] using hml2)).toNat : Int) == 10)) = true := by
                rw [byte_at]
                rw [List.getElem?_eq_getElem hml2] at h10
                have : l.getD m 0 = 10 := by simpa [List.getD, List.getElem?_eq_getElem hml2] using h10
                show (((l.getD m 0).toNat : Int) == 10) = true
                rw [this]
                rfl
              clear h10
              go_wp2
              go_ret2
              rw [jTx_no HV.out, HV.out]
              exact ⟨rfl, (by repeat (first | exact Below.refl _ _ | with_reducible assumption | refine Below.drews ?_ | refine Below.drew ?_ | refine Below.alloc ?_ (by simp <;> omega) _ | refine Below.setCell ?_ (by simp <;> omega) _))⟩
            · have HN := Hf.mk h10
              have hb : (((((⟨l.toArray⟩ : ByteArray)[m]'(by simpa [ByteArray.size] using hml2)).toNat : Int) == 10)) = false := by
                rw [byte_at]
                have : l.getD m 0 ≠ 10 := fun e => h10 (by rw [List.getElem?_eq_getElem hml2]; simpa [List.getD, List.getElem?_eq_getElem hml2] using e)
                have h2 : ((l.getD m 0).toNat : Int) ≠ 10 := fun e => this (UInt8.toNat_inj.1 (by show _ = 10; omega))
                simpa using h2
              clear h10
              go_wp2
              go_roundw
              case rel =>
                refine ⟨m + 1, by omega, i_ext2 (by omega), ⟨fun j hj => ?_⟩, (by repeat (first | exact Drew.refl _ | refine Drew.more ?_))⟩
                by_cases e : j < m
                · exact hno.out j e
                · obtain rfl : j = m := by omega
                  exact HN.out
              case measure => simp [intOf]; omega
          · obtain rfl : m = l.length := by omega
            have HG := Hf.mk (HUp.out (nl_no hno.out))
            go_wp2
            go_roundw
            case rel => exact ⟨k + 1, by omega, i_ext2 (by omega), i_ext2 (by rw [HS.out]; omega), by rw [HS.out]; omega, HG, (by repeat (first | exact Drew.refl _ | refine Drew.more ?_))⟩
            case measure => simp [intOf]; omega
    · obtain rfl : k = L.length := by omega
      have KJ := Hf.mk (fun w hT => l08Journal_any (g := g) (cap := cap) (L := L) w hT hsm)
      have h3 := tx_le L L.length
      have h4 := sm_ge L L.length
      by_cases hbig : 16000 < (txN L L.length).length
      · have HV := Hf.mk (jOk_long (Nat.le_refl _) hbig)
        generalize htt : txN L L.length = t at *
        clear htt
        go_wp2_with (go_at_call 62; refine (KJ.out _ (HT.out.below (by repeat (first | exact Below.refl _ _ | with_reducible assumption | refine Below.drews ?_ | refine Below.drew ?_ | refine Below.alloc ?_ (by simp <;> omega) _ | refine Below.setCell ?_ (by simp <;> omega) _)))).mono ?_; rintro e w2 ⟨rfl, b2⟩; have B2 : Hb (Below w.heap.size w w2) := ⟨⟨b2.os, b2.tape, b2.output, b2.size, b2.block⟩⟩; clear b2)
        go_ret2
        rw [jTx_no HV.out, HV.out]
        exact ⟨rfl, (by repeat (first | exact B2.out | refine Below.drews ?_ | refine Below.drew ?_ | refine Below.alloc ?_ (by have hq_ := B2.out.size; first | omega | (simp <;> omega)) _ | refine Below.setCell ?_ (by have hq_ := B2.out.size; first | omega | (simp <;> omega)) _))⟩
      · have HV := Hf.mk (jOk_yes hnl.out (by omega))
        have HX := Hf.mk (jTx_yes HV.out)
        generalize htt : txN L L.length = t at *
        clear htt
        go_wp2_with (go_at_call 62; refine (KJ.out _ (HT.out.below (by repeat (first | exact Below.refl _ _ | with_reducible assumption | refine Below.drews ?_ | refine Below.drew ?_ | refine Below.alloc ?_ (by simp <;> omega) _ | refine Below.setCell ?_ (by simp <;> omega) _)))).mono ?_; rintro e w2 ⟨rfl, b2⟩; have B2 : Hb (Below w.heap.size w w2) := ⟨⟨b2.os, b2.tape, b2.output, b2.size, b2.block⟩⟩; clear b2)
        go_ret2
        rw [HX.out, HV.out]
        exact ⟨rfl, (by repeat (first | exact B2.out | refine Below.drews ?_ | refine Below.drew ?_ | refine Below.alloc ?_ (by have hq_ := B2.out.size; first | omega | (simp <;> omega)) _ | refine Below.setCell ?_ (by have hq_ := B2.out.size; first | omega | (simp <;> omega)) _))⟩
end Go.Proofs.YtcgakdgfmhkpjaaDoor
