/-
ReadDecimal: the program and its model.
-/
import Derived.Test.YthanhmchgidjlaaDoorRdn
import Derived.Test.YthanhmchgidjlaaDoorWDecimal
namespace Go.Proofs.YthanhmchgidjlaaDoor
open Go Go.RowKit
set_option maxRecDepth 100000

abbrev rdV (s : ByteArray) : Value := .tuple #[.int .i64 (if rdOk s.data.toList then rdN s.data.toList else 0), .bool (rdOk s.data.toList)]
theorem vi_ext {a b : Int} (h : a = b) : (Value.int .i64 a) = .int .i64 b := by rw [h]
theorem rd_no {s : ByteArray} (h : rdOk s.data.toList = false) : rdV s = .tuple #[.int .i64 0, .bool false] := by unfold rdV; rw [h]; rfl
theorem byt_d (s : ByteArray) (i : Nat) : byt s i = (s.data.toList.getD i 0).toNat := rfl
theorem dval_up {l : List UInt8} {m : Nat} (h : m < l.length) : dval (l.take (m + 1)) = dstep (dval (l.take m)) (l.getD m 0) := by rw [take_next l m h, dval_snoc]
theorem head_neg {s : ByteArray} (h : 0 < s.size) : Lib.hasPrefix s.data.toList [45] = decide (byt s 0 = 45) := by
  rw [byt_d]
  obtain ⟨⟨l⟩⟩ := s
  have hl : 0 < l.length := h
  cases l with
  | nil => simp at hl
  | cons b r =>
    unfold Lib.hasPrefix
    simp only [List.isPrefixOf, Bool.and_true]
    rw [Bool.eq_iff_iff, beq_iff_eq, decide_eq_true_eq]
    constructor
    · intro e; subst e; rfl
    · intro e; exact (UInt8.toNat_inj.1 (show b.toNat = (45 : UInt8).toNat from e)).symm
set_option maxHeartbeats 1000000 in
theorem l01Value_any (s : ByteArray) (w : World) : Calls Tryd.prog 31 #[.string s] w (RS (rdV s) w) := by
  by_cases h1 : s.size < 1 ∨ 17 < s.size
  · have K := Hf.mk (rd_no (rdOk_len h1))
    rw [K.out]
    by_cases h2 : s.size < 1
    · go_enter Tryd.func31, Tryd.ntmps31
      go_wp2
      go_ret2
      exact ⟨rfl, (by repeat (first | exact Below.refl _ _ | with_reducible assumption | refine Below.drews ?_ | refine Below.drew ?_ | refine Below.alloc ?_ (by simp <;> omega) _ | refine Below.setCell ?_ (by simp <;> omega) _))⟩
    · go_enter Tryd.func31, Tryd.ntmps31
      go_wp2
      go_ret2
      exact ⟨rfl, (by repeat (first | exact Below.refl _ _ | with_reducible assumption | refine Below.drews ?_ | refine Below.drew ?_ | refine Below.alloc ?_ (by simp <;> omega) _ | refine Below.setCell ?_ (by simp <;> omega) _))⟩
  · have h17 : s.data.toList.length ≤ 17 := by rw [show s.data.toList.length = s.size from rfl]; omega
    have HV := Hf.mk (fun m => @dval_17 s.data.toList m h17)
    have HW := Hf.mk h17
    have HI := Hf.mk (fun n a b w => l00In_any n a b w)
    have HD := Hf.mk (fun {n} h0 h1 w => @l01Dec_any n h0 h1 w)
    have B0 := Hb.mk (Below.refl w.heap.size w)
    have HN := Hf.mk (@head_neg s (by omega))
    clear h17
    go_enter Tryd.func31, Tryd.ntmps31
    go_wp2
    go_loopw [4, 5] (fun v3 v4 wr => ∃ m : Nat, m ≤ s.size ∧ v3 = .int .i64 (dval (s.data.toList.take m) : Nat) ∧ v4 = .int .i64 m ∧ Drew w wr) (fun _ v4 _ => s.size - (intOf v4).toNat)
    case atStart => exact ⟨0, by omega, rfl, rfl, (by repeat (first | exact Drew.refl _ | refine Drew.more ?_))⟩
    case round =>
      obtain ⟨m, hm, rfl, rfl, q, rfl⟩ := hrel
      have hv := HV.out m
      obtain ⟨D, hDe⟩ : ∃ D, D = dval (s.data.toList.take m) := ⟨_, rfl⟩
      by_cases hlt : m < s.size
      · have hb : (s[m]'hlt).toNat < 256 := UInt8.toNat_lt _
        have he := Hf.mk (byt_at s m hlt)
        have hb2 : (s.data[m]'hlt).toNat < 256 := hb
        have hnx : ∀ k : Nat, dstep D (s.data.toList.getD m 0) = k → dval (s.data.toList.take (m + 1)) = k := fun k hk => by rw [dval_up (show m < s.data.toList.length from hlt), ← hDe]; exact hk
        have hbd : byt s m = (s.data.toList.getD m 0).toNat := rfl
        by_cases ha : (s[m]'hlt).toNat < 48
        · have ha2 : (s.data[m]'hlt).toNat < 48 := ha
          have K := Hf.mk (hnx D (by unfold dstep isDig; rw [if_neg (by rw [decide_eq_true_eq, ← hbd, ← he.out]; omega)]))
          clear hnx
          go_wp2
          go_roundw
          case rel => exact ⟨m + 1, by omega, by rw [K.out]; exact vi_ext (by omega), by rw [show ((m : Int) + 1) = ((m + 1 : Nat) : Int) by omega], (by repeat (first | exact Drew.refl _ | refine Drew.more ?_))⟩
          case measure => simp [intOf]; omega
        · have ha2 : ¬ (s.data[m]'hlt).toNat < 48 := ha
          by_cases hz : 57 < (s[m]'hlt).toNat
          · have hz2 : 57 < (s.data[m]'hlt).toNat := hz
            have K := Hf.mk (hnx D (by unfold dstep isDig; rw [if_neg (by rw [decide_eq_true_eq, ← hbd, ← he.out]; omega)]))
            clear hnx
            go_wp2
            go_roundw
            case rel => exact ⟨m + 1, by omega, by rw [K.out]; exact vi_ext (by omega), by rw [show ((m : Int) + 1) = ((m + 1 : Nat) : Int) by omega], (by repeat (first | exact Drew.refl _ | refine Drew.more ?_))⟩
            case measure => simp [intOf]; omega
          · have hz2 : ¬ 57 < (s.data[m]'hlt).toNat := hz
            have K := Hf.mk (hnx (10 * D + ((s[m]'hlt).toNat - 48)) (by unfold dstep isDig; rw [if_pos (by rw [decide_eq_true_eq, ← hbd, ← he.out]; omega), ← hbd, ← he.out]))
            clear hnx
            go_wp2
            go_roundw
            case rel => exact ⟨m + 1, by omega, by rw [K.out]; exact vi_ext (by omega), by rw [show ((m : Int) + 1) = ((m + 1 : Nat) : Int) by omega], (by repeat (first | exact Drew.refl _ | refine Drew.more ?_))⟩
            case measure => simp [intOf]; omega
      · obtain rfl : m = s.size := by omega
        have ht : s.data.toList.take s.size = s.data.toList := List.take_of_length_le (Nat.le_refl _)
        rw [ht] at hv hDe ⊢
        subst hDe
        have hp0 : 0 < s.size := by omega
        have h0d : byt s 0 = (s.data[0]'hp0).toNat := (byt_at s 0 hp0).symm
        by_cases hg : byt s 0 = 45
        · have HR := Hf.mk (show rdN s.data.toList = -((dval s.data.toList : Nat) : Int) by unfold rdN; rw [HN.out, decide_eq_true hg]; rfl)
          have hg1 : (s.data[0]'hp0).toNat = 45 := h0d ▸ hg
          have hg2 : (s[0]'hp0).toNat = 45 := hg1
          clear hg h0d
          by_cases hin : -1000000000000000 ≤ -((dval s.data.toList : Nat) : Int) ∧ -((dval s.data.toList : Nat) : Int) ≤ 1000000000000000
          · have HIy := Hf.mk (fun (x : Int) (hx : x = -((dval s.data.toList : Nat) : Int)) (w : World) => by have := HI.out x (-1000000000000000) 1000000000000000 w; rw [decide_eq_true (by rw [hx]; exact hin)] at this; exact this)
            have HDy := Hf.mk (fun (x : Int) (hx : x = -((dval s.data.toList : Nat) : Int)) (w : World) => show Calls Tryd.prog 29 #[.int .i64 x] w (RS (.string ⟨(Lib.itoa (-((dval s.data.toList : Nat) : Int))).toArray⟩) w) by have := HD.out (n := x) (by omega) (by omega) w; rw [hx] at this ⊢; exact this)
            by_cases heq : Lib.itoa (-((dval s.data.toList : Nat) : Int)) = s.data.toList
            · have hq : (!Lib.itoa (-((dval s.data.toList : Nat) : Int)) == s.toList) = false := by rw [heq, Lib.toList_data]; simp
              have K := Hf.mk (show rdV s = .tuple #[.int .i64 (-((dval s.data.toList : Nat) : Int)), .bool true] by unfold rdV rdOk; rw [HR.out, decide_eq_true ⟨hin.1, hin.2, heq⟩]; rfl)
              go_wp2_with (first | (go_at_call 48; refine (HIy.out _ (by omega) _).mono ?_; rintro e w1 ⟨rfl, q1, rfl⟩) | (go_at_call 29; refine (HDy.out _ (by omega) _).mono ?_; rintro e w2 ⟨rfl, b2⟩; have B2 := Hb.mk (Below.on (B := w.heap.size) (a := w) (by repeat (first | exact B0.out | refine Below.drews ?_ | refine Below.drew ?_ | refine Below.alloc ?_ (by have hq_ := B0.out.size; first | omega | (simp <;> omega)) _ | refine Below.setCell ?_ (by have hq_ := B0.out.size; first | omega | (simp <;> omega)) _)) b2 (by have hq_ := B0.out.size; first | omega | (simp <;> omega))); clear b2))
              go_ret2
              rw [K.out]
              exact ⟨rfl, (by repeat (first | exact B2.out | refine Below.drews ?_ | refine Below.drew ?_ | refine Below.alloc ?_ (by have hq_ := B2.out.size; first | omega | (simp <;> omega)) _ | refine Below.setCell ?_ (by have hq_ := B2.out.size; first | omega | (simp <;> omega)) _))⟩
            · have hq : (!Lib.itoa (-((dval s.data.toList : Nat) : Int)) == s.toList) = true := by rw [Lib.toList_data]; simp only [Bool.not_eq_true', beq_eq_false_iff_ne]; exact heq
              have K := Hf.mk (rd_no (show rdOk s.data.toList = false by unfold rdOk; rw [HR.out]; exact decide_eq_false (fun h => heq h.2.2)))
              go_wp2_with (first | (go_at_call 48; refine (HIy.out _ (by omega) _).mono ?_; rintro e w1 ⟨rfl, q1, rfl⟩) | (go_at_call 29; refine (HDy.out _ (by omega) _).mono ?_; rintro e w2 ⟨rfl, b2⟩; have B2 := Hb.mk (Below.on (B := w.heap.size) (a := w) (by repeat (first | exact B0.out | refine Below.drews ?_ | refine Below.drew ?_ | refine Below.alloc ?_ (by have hq_ := B0.out.size; first | omega | (simp <;> omega)) _ | refine Below.setCell ?_ (by have hq_ := B0.out.size; first | omega | (simp <;> omega)) _)) b2 (by have hq_ := B0.out.size; first | omega | (simp <;> omega))); clear b2))
              go_ret2
              rw [K.out]
              exact ⟨rfl, (by repeat (first | exact B2.out | refine Below.drews ?_ | refine Below.drew ?_ | refine Below.alloc ?_ (by have hq_ := B2.out.size; first | omega | (simp <;> omega)) _ | refine Below.setCell ?_ (by have hq_ := B2.out.size; first | omega | (simp <;> omega)) _))⟩
          · have HIn := Hf.mk (fun (x : Int) (hx : x = -((dval s.data.toList : Nat) : Int)) (w : World) => by have := HI.out x (-1000000000000000) 1000000000000000 w; rw [decide_eq_false (by rw [hx]; exact hin)] at this; exact this)
            have K := Hf.mk (rd_no (show rdOk s.data.toList = false by unfold rdOk; rw [HR.out]; exact decide_eq_false (fun h => hin ⟨h.1, h.2.1⟩)))
            go_wp2_with (first | (go_at_call 48; refine (HIn.out _ (by omega) _).mono ?_; rintro e w1 ⟨rfl, q1, rfl⟩))
            go_ret2
            rw [K.out]
            exact ⟨rfl, (by repeat (first | exact Below.refl _ _ | with_reducible assumption | refine Below.drews ?_ | refine Below.drew ?_ | refine Below.alloc ?_ (by simp <;> omega) _ | refine Below.setCell ?_ (by simp <;> omega) _))⟩
        · have HR := Hf.mk (show rdN s.data.toList = ((dval s.data.toList : Nat) : Int) by unfold rdN; rw [HN.out, decide_eq_false hg]; rfl)
          have hg1 : ¬ (s.data[0]'hp0).toNat = 45 := h0d ▸ hg
          have hg2 : ¬ (s[0]'hp0).toNat = 45 := hg1
          clear hg h0d
          by_cases hin : -1000000000000000 ≤ ((dval s.data.toList : Nat) : Int) ∧ ((dval s.data.toList : Nat) : Int) ≤ 1000000000000000
          · have HIy := Hf.mk (fun (x : Int) (hx : x = ((dval s.data.toList : Nat) : Int)) (w : World) => by have := HI.out x (-1000000000000000) 1000000000000000 w; rw [decide_eq_true (by rw [hx]; exact hin)] at this; exact this)
            have HDy := Hf.mk (fun (x : Int) (hx : x = ((dval s.data.toList : Nat) : Int)) (w : World) => show Calls Tryd.prog 29 #[.int .i64 x] w (RS (.string ⟨(Lib.itoa (((dval s.data.toList : Nat) : Int))).toArray⟩) w) by have := HD.out (n := x) (by omega) (by omega) w; rw [hx] at this ⊢; exact this)
            by_cases heq : Lib.itoa (((dval s.data.toList : Nat) : Int)) = s.data.toList
            · have hq : (!Lib.itoa (((dval s.data.toList : Nat) : Int)) == s.toList) = false := by rw [heq, Lib.toList_data]; simp
              have K := Hf.mk (show rdV s = .tuple #[.int .i64 (((dval s.data.toList : Nat) : Int)), .bool true] by unfold rdV rdOk; rw [HR.out, decide_eq_true ⟨hin.1, hin.2, heq⟩]; rfl)
              go_wp2_with (first | (go_at_call 48; refine (HIy.out _ (by omega) _).mono ?_; rintro e w1 ⟨rfl, q1, rfl⟩) | (go_at_call 29; refine (HDy.out _ (by omega) _).mono ?_; rintro e w2 ⟨rfl, b2⟩; have B2 := Hb.mk (Below.on (B := w.heap.size) (a := w) (by repeat (first | exact B0.out | refine Below.drews ?_ | refine Below.drew ?_ | refine Below.alloc ?_ (by have hq_ := B0.out.size; first | omega | (simp <;> omega)) _ | refine Below.setCell ?_ (by have hq_ := B0.out.size; first | omega | (simp <;> omega)) _)) b2 (by have hq_ := B0.out.size; first | omega | (simp <;> omega))); clear b2))
              go_ret2
              rw [K.out]
              exact ⟨rfl, (by repeat (first | exact B2.out | refine Below.drews ?_ | refine Below.drew ?_ | refine Below.alloc ?_ (by have hq_ := B2.out.size; first | omega | (simp <;> omega)) _ | refine Below.setCell ?_ (by have hq_ := B2.out.size; first | omega | (simp <;> omega)) _))⟩
            · have hq : (!Lib.itoa (((dval s.data.toList : Nat) : Int)) == s.toList) = true := by rw [Lib.toList_data]; simp only [Bool.not_eq_true', beq_eq_false_iff_ne]; exact heq
              have K := Hf.mk (rd_no (show rdOk s.data.toList = false by unfold rdOk; rw [HR.out]; exact decide_eq_false (fun h => heq h.2.2)))
              go_wp2_with (first | (go_at_call 48; refine (HIy.out _ (by omega) _).mono ?_; rintro e w1 ⟨rfl, q1, rfl⟩) | (go_at_call 29; refine (HDy.out _ (by omega) _).mono ?_; rintro e w2 ⟨rfl, b2⟩; have B2 := Hb.mk (Below.on (B := w.heap.size) (a := w) (by repeat (first | exact B0.out | refine Below.drews ?_ | refine Below.drew ?_ | refine Below.alloc ?_ (by have hq_ := B0.out.size; first | omega | (simp <;> omega)) _ | refine Below.setCell ?_ (by have hq_ := B0.out.size; first | omega | (simp <;> omega)) _)) b2 (by have hq_ := B0.out.size; first | omega | (simp <;> omega))); clear b2))
              go_ret2
              rw [K.out]
              exact ⟨rfl, (by repeat (first | exact B2.out | refine Below.drews ?_ | refine Below.drew ?_ | refine Below.alloc ?_ (by have hq_ := B2.out.size; first | omega | (simp <;> omega)) _ | refine Below.setCell ?_ (by have hq_ := B2.out.size; first | omega | (simp <;> omega)) _))⟩
          · have HIn := Hf.mk (fun (x : Int) (hx : x = ((dval s.data.toList : Nat) : Int)) (w : World) => by have := HI.out x (-1000000000000000) 1000000000000000 w; rw [decide_eq_false (by rw [hx]; exact hin)] at this; exact this)
            have K := Hf.mk (rd_no (show rdOk s.data.toList = false by unfold rdOk; rw [HR.out]; exact decide_eq_false (fun h => hin ⟨h.1, h.2.1⟩)))
            go_wp2_with (first | (go_at_call 48; refine (HIn.out _ (by omega) _).mono ?_; rintro e w1 ⟨rfl, q1, rfl⟩))
            go_ret2
            rw [K.out]
            exact ⟨rfl, (by repeat (first | exact Below.refl _ _ | with_reducible assumption | refine Below.drews ?_ | refine Below.drew ?_ | refine Below.alloc ?_ (by simp <;> omega) _ | refine Below.setCell ?_ (by simp <;> omega) _))⟩
theorem nodig {z : ByteArray} {m : Nat} (h : m < z.size) (hb : (z[m]'h).toNat < 48 ∨ 57 < (z[m]'h).toNat) : isDig (z.data.toList.getD m 0) = false := by
  unfold isDig
  rw [← byt_d, ← byt_at z m h]
  exact decide_eq_false (by omega)
theorem yesdig {z : ByteArray} {m : Nat} (h : m < z.size) (h1 : ¬ (z[m]'h).toNat < 48) (h2 : ¬ 57 < (z[m]'h).toNat) : dval (z.data.toList.take (m + 1)) = 10 * dval (z.data.toList.take m) + ((z[m]'h).toNat - 48) := by
  rw [dval_up (show m < z.data.toList.length from h)]
  unfold dstep isDig
  rw [← byt_d, ← byt_at z m h, if_pos (decide_eq_true (by omega))]
theorem isDigit_any (r : Int) (w : World) : Calls Tryd.prog 33 #[.int .i32 r] w (fun e w' => e = .returned (.bool (decide (48 ≤ r ∧ r ≤ 57))) ∧ w' = w) := by
  go_enter Tryd.func33, Tryd.ntmps33
  go_wp2 <;> (go_ret; exact ⟨by simp; try omega, rfl⟩)
set_option maxHeartbeats 1000000 in
theorem iRead_any (s : ByteArray) (w : World) (ht : P10 w) : Calls Tryd.prog 12 #[.string s] w (fun e w' => e = .returned (rdV s) ∧ Below w.heap.size w w') := by
  have KC := Hf.mk (fun w => Tryd.strings_CutPrefix s ⟨#[45]⟩ w)
  obtain ⟨z, hz⟩ : ∃ z : ByteArray, z = ⟨(Lib.trimPrefix s.data.toList [45]).toArray⟩ := ⟨_, rfl⟩
  obtain ⟨bb, hbb⟩ : ∃ bb : Bool, bb = Lib.hasPrefix s.data.toList [45] := ⟨_, rfl⟩
  have KC2 : Hf (∀ w, Calls Tryd.prog 32 #[.string s, .string ⟨#[45]⟩] w fun e w' => e = .returned (.tuple #[.string z, .bool bb]) ∧ w' = w) := ⟨fun w => by rw [hz, hbb]; exact KC.out w⟩
  have HZ : Hf (z.data.toList = Lib.trimPrefix s.data.toList [45]) := ⟨by rw [hz]⟩
  have HBB := Hf.mk hbb
  have KB := Hf.mk (fun p => (Below.refl _ w).alloc (Nat.le_refl _) _ : ∀ p, Below w.heap.size w (w.iter z p))
  have KD := Hf.mk (fun {n} h0 h1 w ht => @iDec_any n h0 h1 w ht)
  have KI := Hf.mk (fun r w => isDigit_any r w)
  have HT := Hf.mk ht
  clear ht KC hz hbb
  go_enter Tryd.func12, Tryd.ntmps12
  go_wp2_with (go_at_call 32; refine (KC2.out _).mono ?_; rintro e w1 ⟨rfl, hw1⟩; have hw2 := hw1.symm; clear hw1; subst hw2)
  go_loopw [6, 8] (fun v6 v8 w' => ∃ m : Nat, m ≤ z.size ∧ v6 = .int .i64 (dval (z.data.toList.take m) : Nat) ∧ dval (z.data.toList.take m) ≤ 1000000000000000 ∧ w' = w.iter z m) (fun _ _ w' => z.size - w'.iterPos w.heap.size)
  case atStart => exact ⟨0, by omega, rfl, by rw [List.take_zero]; decide, rfl⟩
  case round =>
    obtain ⟨m, hm, rfl, hv, rfl⟩ := hrel
    by_cases hlt : m < z.size
    · by_cases hh : 128 ≤ (z[m]'hlt).toNat
      · have hnx : ∀ ty, (Instr.next (.pointer (some ⟨w.heap.size, 0, none⟩)) true ty).run Tryd.prog (w.iter z m) = _ := fun ty => run_next_any w z m ty hlt
        obtain ⟨g, _⟩ := decode_high z m hlt hh
        have K := Hf.mk (rd_no (s := s) (rdOk_dig (m := m) (by rw [← HZ.out]; exact hlt) (by rw [← HZ.out]; exact nodig hlt (by omega))))
        have KIn := Hf.mk (fun (x : Int) (hx : x < 48 ∨ 57 < x) (w : World) => show Calls Tryd.prog 33 #[.int .i32 x] w (fun e w' => e = .returned (.bool false) ∧ w' = w) by have := KI.out x w; rw [decide_eq_false (by omega)] at this; exact this)
        go_wp2_with (go_at_call 33; refine (KIn.out _ (by omega) _).mono ?_; rintro e w1 ⟨rfl, rfl⟩)
        go_ret2
        rw [K.out]
        exact ⟨rfl, KB.out _⟩
      · have hnx : ∀ ty, (Instr.next (.pointer (some ⟨w.heap.size, 0, none⟩)) true ty).run Tryd.prog (w.iter z m) = _ := fun ty => run_next_ascii w z m ty hlt (by omega)
        by_cases hd : (z[m]'hlt).toNat < 48 ∨ 57 < (z[m]'hlt).toNat
        · have K := Hf.mk (rd_no (s := s) (rdOk_dig (m := m) (by rw [← HZ.out]; exact hlt) (by rw [← HZ.out]; exact nodig hlt hd)))
          have KIn := Hf.mk (fun (x : Int) (hx : x < 48 ∨ 57 < x) (w : World) => show Calls Tryd.prog 33 #[.int .i32 x] w (fun e w' => e = .returned (.bool false) ∧ w' = w) by have := KI.out x w; rw [decide_eq_false (by omega)] at this; exact this)
          go_wp2_with (go_at_call 33; refine (KIn.out _ (by omega) _).mono ?_; rintro e w1 ⟨rfl, rfl⟩)
          go_ret2
          rw [K.out]
          exact ⟨rfl, KB.out _⟩
        · have h1 : ¬ (z[m]'hlt).toNat < 48 := fun h => hd (.inl h)
          have h2 : ¬ 57 < (z[m]'hlt).toNat := fun h => hd (.inr h)
          have hy := yesdig hlt h1 h2
          have hb : 10 * dval (z.data.toList.take m) + ((z[m]'hlt).toNat - 48) = dval (z.data.toList.take (m + 1)) := hy.symm
          have HY := Hf.mk hb
          have KIy := Hf.mk (fun (x : Int) (hx : 48 ≤ x ∧ x ≤ 57) (w : World) => show Calls Tryd.prog 33 #[.int .i32 x] w (fun e w' => e = .returned (.bool true) ∧ w' = w) by have := KI.out x w; rw [decide_eq_true hx] at this; exact this)
          clear hd hy hb
          by_cases hbig : 1000000000000000 < 10 * dval (z.data.toList.take m) + ((z[m]'hlt).toNat - 48)
          · have K := Hf.mk (rd_no (s := s) (rdOk_big (m := m + 1) (by rw [← HZ.out, ← HY.out]; exact hbig)))
            go_wp2_with (go_at_call 33; refine (KIy.out _ (by omega) _).mono ?_; rintro e w1 ⟨rfl, rfl⟩)
            go_ret2
            rw [K.out]
            exact ⟨rfl, KB.out _⟩
          · go_wp2_with (go_at_call 33; refine (KIy.out _ (by omega) _).mono ?_; rintro e w1 ⟨rfl, rfl⟩)
            go_roundw
            case rel => exact ⟨m + 1, by omega, by rw [← HY.out]; exact vi_ext (by omega), by rw [← HY.out]; omega, rfl⟩
            case measure => simp; omega
    · have hnx : ∀ ty, (Instr.next (.pointer (some ⟨w.heap.size, 0, none⟩)) true ty).run Tryd.prog (w.iter z m) = _ := fun ty => run_next_end w z m ty hlt
      obtain rfl : m = z.size := by omega
      have htk : z.data.toList.take z.size = z.data.toList := List.take_of_length_le (Nat.le_refl _)
      rw [htk] at hv ⊢
      have hE := rdOk_end (l := s.data.toList) (by rw [← HZ.out]; exact hv)
      rw [← HZ.out, ← HBB.out] at hE
      have HE := Hf.mk hE
      clear hE
      have hlt2 := dval_lt z.data.toList
      clear hlt2
      cases bb
      · have HR : Hf (rdN s.data.toList = ((dval z.data.toList : Nat) : Int)) := ⟨HE.out.2⟩
        have HO : Hf (rdOk s.data.toList = decide (Lib.itoa (((dval z.data.toList : Nat) : Int)) = s.data.toList)) := ⟨by rw [HE.out.1, HR.out]⟩
        have KDy := Hf.mk (fun (x : Int) (hx : x = ((dval z.data.toList : Nat) : Int)) (w : World) (ht : P10 w) => show Calls Tryd.prog 10 #[.int .i64 x] w (RS (.string ⟨(Lib.itoa (((dval z.data.toList : Nat) : Int))).toArray⟩) w) by have := KD.out (n := x) (by omega) (by omega) w ht; rw [hx] at this ⊢; exact this)
        clear HE
        by_cases heq : Lib.itoa (((dval z.data.toList : Nat) : Int)) = s.data.toList
        · have hq : (!Lib.itoa (((dval z.data.toList : Nat) : Int)) == s.toList) = false := by rw [heq, Lib.toList_data]; simp
          have K := Hf.mk (show rdV s = .tuple #[.int .i64 (((dval z.data.toList : Nat) : Int)), .bool true] by unfold rdV; rw [HO.out, HR.out, decide_eq_true heq]; rfl)
          go_wp2_with (go_at_call 10; refine (KDy.out _ (by omega) _ (HT.out.on (KB.out _))).mono ?_; rintro e w2 ⟨rfl, b2⟩; have B2 := Hb.mk (Below.on (KB.out _) b2 (KB.out _).size); clear b2)
          go_ret2
          rw [K.out]
          exact ⟨rfl, B2.out⟩
        · have hq : (!Lib.itoa (((dval z.data.toList : Nat) : Int)) == s.toList) = true := by rw [Lib.toList_data]; simp only [Bool.not_eq_true', beq_eq_false_iff_ne]; exact heq
          have K := Hf.mk (rd_no (s := s) (by rw [HO.out]; exact decide_eq_false heq))
          go_wp2_with (go_at_call 10; refine (KDy.out _ (by omega) _ (HT.out.on (KB.out _))).mono ?_; rintro e w2 ⟨rfl, b2⟩; have B2 := Hb.mk (Below.on (KB.out _) b2 (KB.out _).size); clear b2)
          go_ret2
          rw [K.out]
          exact ⟨rfl, B2.out⟩
      · have HR : Hf (rdN s.data.toList = -((dval z.data.toList : Nat) : Int)) := ⟨HE.out.2⟩
        have HO : Hf (rdOk s.data.toList = decide (Lib.itoa (-((dval z.data.toList : Nat) : Int)) = s.data.toList)) := ⟨by rw [HE.out.1, HR.out]⟩
        have KDy := Hf.mk (fun (x : Int) (hx : x = -((dval z.data.toList : Nat) : Int)) (w : World) (ht : P10 w) => show Calls Tryd.prog 10 #[.int .i64 x] w (RS (.string ⟨(Lib.itoa (-((dval z.data.toList : Nat) : Int))).toArray⟩) w) by have := KD.out (n := x) (by omega) (by omega) w ht; rw [hx] at this ⊢; exact this)
        clear HE
        by_cases heq : Lib.itoa (-((dval z.data.toList : Nat) : Int)) = s.data.toList
        · have hq : (!Lib.itoa (-((dval z.data.toList : Nat) : Int)) == s.toList) = false := by rw [heq, Lib.toList_data]; simp
          have K := Hf.mk (show rdV s = .tuple #[.int .i64 (-((dval z.data.toList : Nat) : Int)), .bool true] by unfold rdV; rw [HO.out, HR.out, decide_eq_true heq]; rfl)
          go_wp2_with (go_at_call 10; refine (KDy.out _ (by omega) _ (HT.out.on (KB.out _))).mono ?_; rintro e w2 ⟨rfl, b2⟩; have B2 := Hb.mk (Below.on (KB.out _) b2 (KB.out _).size); clear b2)
          go_ret2
          rw [K.out]
          exact ⟨rfl, B2.out⟩
        · have hq : (!Lib.itoa (-((dval z.data.toList : Nat) : Int)) == s.toList) = true := by rw [Lib.toList_data]; simp only [Bool.not_eq_true', beq_eq_false_iff_ne]; exact heq
          have K := Hf.mk (rd_no (s := s) (by rw [HO.out]; exact decide_eq_false heq))
          go_wp2_with (go_at_call 10; refine (KDy.out _ (by omega) _ (HT.out.on (KB.out _))).mono ?_; rintro e w2 ⟨rfl, b2⟩; have B2 := Hb.mk (Below.on (KB.out _) b2 (KB.out _).size); clear b2)
          go_ret2
          rw [K.out]
          exact ⟨rfl, B2.out⟩
end Go.Proofs.YthanhmchgidjlaaDoor
