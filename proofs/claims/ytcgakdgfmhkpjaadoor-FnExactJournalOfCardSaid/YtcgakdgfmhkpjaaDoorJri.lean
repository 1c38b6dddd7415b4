/-
JournalOf of the program: a strings.Builder that lines are written to.
-/
import Derived.Test.YtcgakdgfmhkpjaaDoorJrs
import Derived.Test.YtcgakdgfmhkpjaaDoorRje
import Derived.Test.YtcgakdgfmhkpjaaDoorShf
namespace Go.Proofs.YtcgakdgfmhkpjaaDoor
open Go Go.RowKit
set_option maxRecDepth 100000

theorem bld_below {T e : TypeId} {B b : Nat} {p : Value} {bs : List Value} {w w' : World} (h : Lib.BuilderAt T e B b p bs w) (hb : Below w.heap.size w w') : Lib.BuilderAt T e B b p bs w' := by
  have hl := h.lt
  obtain ⟨h1, v, h2, h3, h4⟩ := h
  exact ⟨h1, v, (hb.block _ hl).trans h2, cu_below h3 hb, h4⟩
theorem isb_below {T e : TypeId} {B b : Nat} {bs : List Value} {w w' : World} (h : Lib.IsBuilder T e B b bs w) (hb : Below w.heap.size w w') : Lib.IsBuilder T e B b bs w' := h.imp (fun h => bld_below h hb) (fun h => bld_below h hb)
theorem byte_app (a b : List UInt8) : Lib.byteCells a ++ Lib.strCells (ofL b) = Lib.byteCells (a ++ b) := by simp [Lib.byteCells, Lib.strCells]
theorem bwrite_any {B b : Nat} {bs : List Value} {s : ByteArray} (w : World) (h : Lib.IsBuilder 91 5 B b bs w) (hlen : bs.length + s.size ≤ 140737488355328) (hBw : B ≤ w.heap.size) :
    Calls Tryd.prog 66 #[.pointer (some ⟨b, 0, none⟩), .string s] w (fun e w' => e = .returned (.tuple #[.int .i64 s.size, .nilIface]) ∧ Lib.IsBuilder 91 5 B b (bs ++ Lib.strCells s) w' ∧ Below B w w') :=
  (Any.Builder_WriteString (ρ := Tryd.lays156_ren) { Tryd.lays156 with } Tryd.Builder_Extra_156 B b bs s w h hlen hBw).mono fun e w' hh => ⟨hh.1, .inr hh.2.1, hh.2.2⟩
set_option maxHeartbeats 800000 in
theorem iJr_any {g cap : Nat} {L : List (List UInt8)} (w : World) (hT : TRow w g L) (hl : L.length ≤ 1048576) (hm : ∀ k, k < L.length → (L.getD k []).length ≤ 1048576) (ht : P10 w) : Calls Tryd.prog 33 #[.slice (some ⟨g, 0, none⟩) L.length cap] w (RS (jrT (jTx L) (jOk L)) w) := by
  have HT := Hf.mk hT
  have HM := Hf.mk hm
  have HP := Hf.mk ht
  have HB0 := Hf.mk (Lib.fresh_isBuilder 91 5 w)
  clear hT hm ht
  go_enter Tryd.func33, Tryd.ntmps33
  go_wp2
  go_loopw [5, 12] (fun c i wr => ∃ k : Nat, k ≤ L.length ∧ i = .int .i64 k ∧ c = .int .i64 (ckN L k) ∧ (txN L k).length ≤ 16000 ∧ Hf (∀ j, j < k → noNl (L.getD j []) = true) ∧ Hf (Lib.IsBuilder 91 5 w.heap.size w.heap.size (Lib.byteCells (txN L k)) wr) ∧ Hb (Below w.heap.size w wr)) (fun _ i _ => L.length - (intOf i).toNat)
  case atStart => exact ⟨0, Nat.zero_le _, rfl, rfl, Nat.zero_le _, ⟨fun j hj => absurd hj (Nat.not_lt_zero j)⟩, HB0, ⟨(by repeat (first | exact Below.refl _ _ | with_reducible assumption | refine Below.drews ?_ | refine Below.drew ?_ | refine Below.alloc ?_ (by simp <;> omega) _ | refine Below.setCell ?_ (by simp <;> omega) _))⟩⟩
  case round =>
    obtain ⟨k, hk, rfl, rfl, htl, hnl, hbd, hB⟩ := hrel
    have hsz := hB.out.size
    by_cases hlt : k < L.length
    · have d0 : wr.cell? ⟨g, k, none⟩ = some (.string (ofL (L.getD k []))) := (HT.out.below hB.out) k hlt
      have hml := HM.out k hlt
      have hin := ckN_in L k
      have hel := enW_le hin.1 hin.2 (L.getD k [])
      have KE : Hf (∀ w, P10 w → Calls Tryd.prog 63 #[.int .i64 (ckN L k), .string (ofL (L.getD k []))] w (RS (.tuple #[.string (ofL (enW (ckN L k) (L.getD k []))), .int .i64 (ckN L (k + 1))]) w)) := ⟨fun w ht => entryOf_any (l := L.getD k []) (c := ckN L k) hml hin.1 hin.2 w ht⟩
      have KC : Hf (∀ w, Calls Tryd.prog 64 #[.string (ofL (L.getD k [])), .string ⟨#[10]⟩] w (fun e w' => e = .returned (.bool (!noNl (L.getD k []))) ∧ w' = w)) := ⟨fun w => by
        have h := Tryd.strings_Contains_one (ofL (L.getD k [])) 10 w
        rw [show (ofL (L.getD k [])).data.toList = L.getD k [] from rfl, nl_index] at h
        exact h⟩
      have HX : Hf (txN L (k + 1) = txN L k ++ enW (ckN L k) (L.getD k [])) := ⟨rfl⟩
      have HNo := Hf.mk (fun (h : noNl (L.getD k []) = false) => jOk_nl hlt h)
      have HLo := Hf.mk (fun (h : 16000 < (txN L (k + 1)).length) => jOk_long (L := L) (k := k + 1) (by omega) h)
      have HUp := Hf.mk (fun (h : noNl (L.getD k []) = true) => show ∀ j, j < k + 1 → noNl (L.getD j []) = true from fun j hj => by
        by_cases e : j < k
        · exact hnl.out j e
        · obtain rfl : j = k := by omega
          exact h)
      have KW : Hf (∀ w', Lib.IsBuilder 91 5 w.heap.size w.heap.size (Lib.byteCells (txN L k)) w' → w.heap.size ≤ w'.heap.size → Calls Tryd.prog 66 #[.pointer (some ⟨w.heap.size, 0, none⟩), .string (ofL (enW (ckN L k) (L.getD k [])))] w' (fun e w2 => e = .returned (.tuple #[.int .i64 (enW (ckN L k) (L.getD k [])).length, .nilIface]) ∧ Lib.IsBuilder 91 5 w.heap.size w.heap.size (Lib.byteCells (txN L (k + 1))) w2 ∧ Below w.heap.size w' w2)) := ⟨fun w' h hs => by
        have h2 := bwrite_any (s := ofL (enW (ckN L k) (L.getD k []))) w' h (by rw [Lib.byteCells_length, ofL_size]; omega) hs
        rw [byte_app, ofL_size, ← HX.out] at h2
        exact h2⟩
      have KN : Hf (∀ w', Lib.IsBuilder 91 5 w.heap.size w.heap.size (Lib.byteCells (txN L k)) w' → Calls Tryd.prog 65 #[.pointer (some ⟨w.heap.size, 0, none⟩)] w' (fun e w2 => e = .returned (.int .i64 ((txN L k).length : Int)) ∧ w2 = w')) := ⟨fun w' h => by
        have h2 := Tryd.Builder_Len w.heap.size w.heap.size _ w' h
        rw [Lib.byteCells_length] at h2
        exact h2⟩
      have HXl : Hf ((txN L (k + 1)).length = (txN L k).length + (enW (ckN L k) (L.getD k [])).length) := ⟨by rw [HX.out, List.length_append]⟩
      clear HX
      generalize hcc : ckN L (k + 1) = c2 at *
      have HC2 := Hf.mk hcc
      clear hcc
      generalize hen : enW (ckN L k) (L.getD k []) = en at *
      generalize ckN L k = c at *
      generalize hnn : L.getD k [] = l at *
      generalize htt : txN L k = t at *
      clear hen hnn htt
      cases hn : noNl l
      · have HV := Hf.mk (HNo.out hn)
        rw [hn] at KC
        clear hn
        go_wp2_with (first
          | (go_at_call 63; refine (KE.out _ (HP.out.on (by repeat (first | with_reducible refine Below.setCell ?_ (by first | omega | (simp <;> omega)) _ | with_reducible refine Below.drews ?_ | with_reducible refine Below.drew ?_ | with_reducible refine Below.alloc ?_ (by first | omega | (simp <;> omega)) _ | with_reducible refine Below.on ?_ hB.out (by first | omega | (simp <;> omega)) | with_reducible exact Below.refl _ _)))).mono ?_; rintro e w2 ⟨rfl, b2⟩; have B2 := Hb.mk (Below.on (B := w.heap.size) (a := w) (by repeat (first | exact hB.out | refine Below.drews ?_ | refine Below.drew ?_ | refine Below.alloc ?_ (by have hq_ := hB.out.size; first | omega | (simp <;> omega)) _ | refine Below.setCell ?_ (by have hq_ := hB.out.size; first | omega | (simp <;> omega)) _)) b2 (by have hq_ := hB.out.size; first | omega | (simp <;> omega))); clear b2)
          | (go_at_call 64; refine (KC.out _).mono ?_; rintro e w' ⟨rfl, rfl⟩))
        go_ret2
        rw [jTx_no HV.out, HV.out]
        exact ⟨rfl, (by repeat (first | exact B2.out | refine Below.drews ?_ | refine Below.drew ?_ | refine Below.alloc ?_ (by have hq_ := B2.out.size; first | omega | (simp <;> omega)) _ | refine Below.setCell ?_ (by have hq_ := B2.out.size; first | omega | (simp <;> omega)) _))⟩
      · have HG := Hf.mk (HUp.out hn)
        rw [hn] at KC
        clear hn
        by_cases hbig : 16000 < t.length + en.length
        · have HV := Hf.mk (HLo.out (by rw [HXl.out]; omega))
          have hbi : (16000 : Int) < (t.length : Int) + (en.length : Int) := by omega
          go_wp2_with (first
            | (go_at_call 63; refine (KE.out _ (HP.out.on (by repeat (first | with_reducible refine Below.setCell ?_ (by first | omega | (simp <;> omega)) _ | with_reducible refine Below.drews ?_ | with_reducible refine Below.drew ?_ | with_reducible refine Below.alloc ?_ (by first | omega | (simp <;> omega)) _ | with_reducible refine Below.on ?_ hB.out (by first | omega | (simp <;> omega)) | with_reducible exact Below.refl _ _)))).mono ?_; rintro e w2 ⟨rfl, b2⟩; have B2 := Hb.mk (Below.on (B := w.heap.size) (a := w) (by repeat (first | exact hB.out | refine Below.drews ?_ | refine Below.drew ?_ | refine Below.alloc ?_ (by have hq_ := hB.out.size; first | omega | (simp <;> omega)) _ | refine Below.setCell ?_ (by have hq_ := hB.out.size; first | omega | (simp <;> omega)) _)) b2 (by have hq_ := hB.out.size; first | omega | (simp <;> omega))); have D2 := Hf.mk (isb_below hbd.out b2); clear b2)
            | (go_at_call 64; refine (KC.out _).mono ?_; rintro e w' ⟨rfl, hw⟩; rw [hw]; clear hw w')
            | (go_at_call 65; refine (KN.out _ D2.out).mono ?_; rintro e w' ⟨rfl, hw⟩; rw [hw]; clear hw w'))
          go_ret2
          rw [jTx_no HV.out, HV.out]
          exact ⟨rfl, (by repeat (first | exact B2.out | refine Below.drews ?_ | refine Below.drew ?_ | refine Below.alloc ?_ (by have hq_ := B2.out.size; first | omega | (simp <;> omega)) _ | refine Below.setCell ?_ (by have hq_ := B2.out.size; first | omega | (simp <;> omega)) _))⟩
        · have hbi : ¬ (16000 : Int) < (t.length : Int) + (en.length : Int) := by omega
          go_wp2_with (first
            | (go_at_call 63; refine (KE.out _ (HP.out.on (by repeat (first | with_reducible refine Below.setCell ?_ (by first | omega | (simp <;> omega)) _ | with_reducible refine Below.drews ?_ | with_reducible refine Below.drew ?_ | with_reducible refine Below.alloc ?_ (by first | omega | (simp <;> omega)) _ | with_reducible refine Below.on ?_ hB.out (by first | omega | (simp <;> omega)) | with_reducible exact Below.refl _ _)))).mono ?_; rintro e w2 ⟨rfl, b2⟩; have B2 := Hb.mk (Below.on (B := w.heap.size) (a := w) (by repeat (first | exact hB.out | refine Below.drews ?_ | refine Below.drew ?_ | refine Below.alloc ?_ (by have hq_ := hB.out.size; first | omega | (simp <;> omega)) _ | refine Below.setCell ?_ (by have hq_ := hB.out.size; first | omega | (simp <;> omega)) _)) b2 (by have hq_ := hB.out.size; first | omega | (simp <;> omega))); have D2 := Hf.mk (isb_below hbd.out b2); have S2 := b2.size; clear b2)
            | (go_at_call 64; refine (KC.out _).mono ?_; rintro e w' ⟨rfl, hw⟩; rw [hw]; clear hw w')
            | (go_at_call 65; refine (KN.out _ D2.out).mono ?_; rintro e w' ⟨rfl, hw⟩; rw [hw]; clear hw w')
            | (go_at_call 66; refine (KW.out _ D2.out (by omega)).mono ?_; rintro e w3 ⟨rfl, D3, b3⟩; have B3 : Hb (Below w.heap.size w w3) := ⟨B2.out.trans b3⟩; have D3 := Hf.mk D3; clear b3))
          go_roundw
          case rel => exact ⟨k + 1, by omega, i_ext2 (by omega), by rw [HC2.out], by rw [HXl.out]; omega, HG, D3, B3⟩
          case measure => simp [intOf]; omega
    · obtain rfl : k = L.length := by omega
      have HV := Hf.mk (jOk_yes hnl.out htl)
      have HX := Hf.mk (jTx_yes HV.out)
      have KS := Hf.mk (Tryd.Builder_String_any w.heap.size w.heap.size _ wr hbd.out hsz)
      generalize htt : txN L L.length = t at *
      clear htt
      go_wp2_with (go_at_call 67; refine KS.out.mono ?_; rintro e w3 ⟨rfl, b3⟩; have B3 : Hb (Below w.heap.size w w3) := ⟨hB.out.trans b3⟩; clear b3)
      go_ret2
      rw [HX.out, HV.out]
      exact ⟨rfl, (by repeat (first | exact B3.out | refine Below.drews ?_ | refine Below.drew ?_ | refine Below.alloc ?_ (by have hq_ := B3.out.size; first | omega | (simp <;> omega)) _ | refine Below.setCell ?_ (by have hq_ := B3.out.size; first | omega | (simp <;> omega)) _))⟩
end Go.Proofs.YtcgakdgfmhkpjaaDoor
