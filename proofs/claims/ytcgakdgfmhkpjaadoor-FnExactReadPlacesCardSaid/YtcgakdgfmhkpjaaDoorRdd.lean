/-
Reading a number in decimal: what both sides answer, as numbers. No walk.
ReadDecimal: the program and its model.
-/
import Derived.Test.YtcgakdgfmhkpjaaDoorDec
import Derived.Test.YtcgakdgfmhkpjaaDoorWDecimal
namespace Go.Proofs.YtcgakdgfmhkpjaaDoor
open Go Go.RowKit

def isDig (b : UInt8) : Bool := decide (48 ≤ b.toNat ∧ b.toNat ≤ 57)
def dstep (n : Nat) (b : UInt8) : Nat := if isDig b then 10 * n + (b.toNat - 48) else n
def dval (l : List UInt8) : Nat := l.foldl dstep 0
def rdN (l : List UInt8) : Int := if Lib.hasPrefix l [45] then -(dval l : Int) else (dval l : Int)
def rdOk (l : List UInt8) : Bool := decide (-1000000000000000 ≤ rdN l ∧ rdN l ≤ 1000000000000000 ∧ Lib.itoa (rdN l) = l)
theorem dstep_ge (n : Nat) (b : UInt8) : n ≤ dstep n b := by unfold dstep; split <;> omega
theorem foldl_ge (l : List UInt8) : ∀ n, n ≤ l.foldl dstep n := by
  induction l with
  | nil => intro n; exact Nat.le_refl _
  | cons b l ih => intro n; exact Nat.le_trans (dstep_ge n b) (ih _)
theorem dval_snoc (l : List UInt8) (b : UInt8) : dval (l ++ [b]) = dstep (dval l) b := by unfold dval; rw [List.foldl_append]; rfl
theorem dval_app (l m : List UInt8) : dval l ≤ dval (l ++ m) := by unfold dval; rw [List.foldl_append]; exact foldl_ge m _
theorem dval_take (l : List UInt8) (m : Nat) : dval (l.take m) ≤ dval l := by
  have := dval_app (l.take m) (l.drop m)
  rwa [List.take_append_drop] at this
theorem dstep_lt {n k : Nat} (b : UInt8) (h : n < 10 ^ k) : dstep n b < 10 ^ (k + 1) := by
  have h2 : 10 ^ (k + 1) = 10 * 10 ^ k := by rw [Nat.pow_succ]; omega
  unfold dstep isDig
  split
  · rename_i e; rw [decide_eq_true_eq] at e; omega
  · omega
theorem foldl_lt (l : List UInt8) : ∀ n k, n < 10 ^ k → l.foldl dstep n < 10 ^ (k + l.length) := by
  induction l with
  | nil => intro n k h; exact h
  | cons b l ih =>
    intro n k h
    have := ih _ (k + 1) (dstep_lt b h)
    rw [List.foldl_cons, List.length_cons, show k + (l.length + 1) = k + 1 + l.length by omega]
    exact this
theorem dval_lt (l : List UInt8) : dval l < 10 ^ l.length := by
  have := foldl_lt l 0 0 (by decide)
  rwa [Nat.zero_add] at this
theorem dval_17 {l : List UInt8} {m : Nat} (h : l.length ≤ 17) : dval (l.take m) < 100000000000000000 := by
  refine Nat.lt_of_le_of_lt (dval_take l m) (Nat.lt_of_lt_of_le (dval_lt l) ?_)
  exact Nat.le_trans (Nat.pow_le_pow_right (by decide) h) (by decide)
theorem take_next (l : List UInt8) (m : Nat) (h : m < l.length) : l.take (m + 1) = l.take m ++ [l.getD m 0] := by
  rw [List.take_succ_eq_append_getElem h, List.getD, List.getElem?_eq_getElem h]; rfl
theorem dec_dig : ∀ a : Nat, (∀ b ∈ Lib.decDigits a, isDig b = true) ∧ dval (Lib.decDigits a) = a := by
  intro a
  induction a using Nat.strongRecOn with
  | _ a ih =>
    have key : ∀ d, d < 10 → isDig (UInt8.ofNat (48 + d)) = true ∧ (UInt8.ofNat (48 + d)).toNat - 48 = d := by
      intro d hd
      have h := UInt8.toNat_ofNat' (n := 48 + d)
      unfold isDig
      rw [h]
      exact ⟨decide_eq_true (by omega), by omega⟩
    by_cases h : a < 10
    · rw [Lib.decDigits_one h]
      refine ⟨fun b hb => by rw [List.mem_singleton] at hb; subst hb; exact (key a h).1, ?_⟩
      have := dval_snoc [] (UInt8.ofNat (48 + a))
      rw [List.nil_append] at this
      rw [this]; unfold dstep; rw [if_pos (key a h).1, (key a h).2]; exact (by show 10 * 0 + a = a; omega)
    · have e : Lib.decDigits a = Lib.decDigits (a / 10) ++ [UInt8.ofNat (48 + a % 10)] := by rw [Lib.decDigits, dif_neg h]
      obtain ⟨h1, h2⟩ := ih (a / 10) (by omega)
      rw [e]
      refine ⟨fun b hb => ?_, ?_⟩
      · rcases List.mem_append.1 hb with hb | hb
        · exact h1 b hb
        · rw [List.mem_singleton] at hb; subst hb; exact (key _ (Nat.mod_lt _ (by decide))).1
      · rw [dval_snoc, h2]; unfold dstep; rw [if_pos (key _ (Nat.mod_lt _ (by decide))).1, (key _ (Nat.mod_lt _ (by decide))).2]; omega
theorem dec_short : ∀ (k a : Nat), a < 10 ^ (k + 1) → (Lib.decDigits a).length ≤ k + 1 := by
  intro k
  induction k with
  | zero => intro a h; rw [Lib.decDigits_one (by simpa using h)]; simp
  | succ k ih =>
    intro a h
    by_cases h10 : a < 10
    · rw [Lib.decDigits_one h10]; simp
    · rw [Lib.decDigits, dif_neg h10, List.length_append]
      have : 10 ^ (k + 1 + 1) = 10 * 10 ^ (k + 1) := by rw [Nat.pow_succ]; omega
      have := ih (a / 10) (by omega)
      simp; omega
theorem dec_some (a : Nat) : 1 ≤ (Lib.decDigits a).length := by
  by_cases h : a < 10
  · rw [Lib.decDigits_one h]; simp
  · rw [Lib.decDigits, dif_neg h]; simp
/-- A number's text: what is behind the sign is digits, and reads as the number. -/
theorem itoa_trim (n : Int) : Lib.trimPrefix (Lib.itoa n) [45] = Lib.decDigits n.natAbs ∧ Lib.hasPrefix (Lib.itoa n) [45] = decide (n < 0) := by
  by_cases h : n < 0
  · rw [itoa_neg h]; unfold Lib.trimPrefix Lib.hasPrefix; simp [h, List.isPrefixOf]
  · rw [itoa_pos h]
    have hp : Lib.hasPrefix (Lib.decDigits n.natAbs) [45] = false := by
      have h1 := dec_some n.natAbs
      have h2 := (dec_dig n.natAbs).1
      cases hd : Lib.decDigits n.natAbs with
      | nil => rw [hd] at h1; simp at h1
      | cons b r =>
        have := h2 b (by rw [hd]; simp)
        unfold Lib.hasPrefix
        simp only [List.isPrefixOf, Bool.and_true]
        rw [beq_eq_false_iff_ne]
        intro e
        rw [← e] at this
        exact absurd this (by decide)
    rw [hp]
    unfold Lib.trimPrefix
    rw [hp, decide_eq_false h]
    exact ⟨rfl, rfl⟩
theorem rdOk_len {l : List UInt8} (h : l.length < 1 ∨ 17 < l.length) : rdOk l = false := by
  unfold rdOk
  refine decide_eq_false fun ⟨h1, h2, h3⟩ => ?_
  have hs : (Lib.decDigits (rdN l).natAbs).length ≤ 16 := dec_short 15 _ (by have : (10 : Nat) ^ 16 = 10000000000000000 := by decide
                                                                             omega)
  have h4 := dec_some (rdN l).natAbs
  by_cases hn : rdN l < 0
  · rw [itoa_neg hn] at h3; rw [← h3, List.length_cons] at h; omega
  · rw [itoa_pos hn] at h3; rw [← h3] at h; omega
theorem rdOk_dig {l : List UInt8} {m : Nat} (hm : m < (Lib.trimPrefix l [45]).length) (h : isDig ((Lib.trimPrefix l [45]).getD m 0) = false) : rdOk l = false := by
  unfold rdOk
  refine decide_eq_false fun ⟨h1, h2, h3⟩ => ?_
  have ht := (itoa_trim (rdN l)).1
  rw [h3] at ht
  rw [ht] at hm h
  have := (dec_dig (rdN l).natAbs).1 _ (List.getElem_mem hm)
  rw [List.getD, List.getElem?_eq_getElem hm, Option.getD_some, this] at h
  cases h
theorem dval_trim (l : List UInt8) : dval (Lib.trimPrefix l [45]) = dval l := by
  unfold Lib.trimPrefix
  split
  · rename_i h
    cases l with
    | nil => rfl
    | cons b r =>
      unfold Lib.hasPrefix at h
      simp only [List.isPrefixOf, Bool.and_true, beq_iff_eq] at h
      subst h
      rfl
  · rfl
theorem rdOk_big {l : List UInt8} {m : Nat} (h : 1000000000000000 < dval ((Lib.trimPrefix l [45]).take m)) : rdOk l = false := by
  have h1 := dval_take (Lib.trimPrefix l [45]) m
  rw [dval_trim] at h1
  unfold rdOk
  refine decide_eq_false fun ⟨h2, h3, _⟩ => ?_
  have hc : rdN l = -(dval l : Int) ∨ rdN l = (dval l : Int) := by
    unfold rdN
    split
    · exact .inl rfl
    · exact .inr rfl
  omega
theorem rdOk_end {l : List UInt8} (h : dval (Lib.trimPrefix l [45]) ≤ 1000000000000000) : rdOk l = decide (Lib.itoa (rdN l) = l) ∧ rdN l = (if Lib.hasPrefix l [45] then -(dval (Lib.trimPrefix l [45]) : Int) else (dval (Lib.trimPrefix l [45]) : Int)) := by
  rw [dval_trim] at h ⊢
  refine ⟨?_, rfl⟩
  unfold rdOk
  rw [Bool.eq_iff_iff, decide_eq_true_eq, decide_eq_true_eq]
  have : -1000000000000000 ≤ rdN l ∧ rdN l ≤ 1000000000000000 := by unfold rdN; split <;> omega
  exact ⟨fun h => h.2.2, fun h => ⟨this.1, this.2, h⟩⟩
end Go.Proofs.YtcgakdgfmhkpjaaDoor
namespace Go.Proofs.YtcgakdgfmhkpjaaDoor
open Go Go.RowKit
set_option maxRecDepth 100000

abbrev rdV (s : ByteArray) : Value := .tuple #[.int .i64 (if rdOk s.data.toList then rdN s.data.toList else 0), .bool (rdOk s.data.toList)]
theorem vi_ext {a b : Int} (h : a = b) : (Value.int .i64 a) = .int .i64 b := by rw [h]
theorem rd_no {s : ByteArray} (h : rdOk s.data.toList = false) : rdV s = .tuple #[.int .i64 0, .bool false] := by unfold rdV; rw [h]; rfl
theorem byt_d (s : ByteArray) (i : Nat) : byt s i = (s.data.toList.getD i 0).toNat := rfl
theorem dval_up {l : List UInt8} {m : Nat} (h : m < l.length) : dval (l.take (m + 1)) = dstep (dval (l.take m)) (l.getD m 0) := by rw [take_next l m h, dval_snoc]
theorem head_neg {s : ByteArray} (h : 0 < s.size) : Lib.hasPrefix s.data.toList [45] = decide (byt s 0 = 45) := by
  rw [byt_d]
  obtain ⟨⟨l⟩⟩ := s
  have hl : 0 < l.length := h
  cases l with
  | nil => simp at hl
  | cons b r =>
    unfold Lib.hasPrefix
    simp only [List.isPrefixOf, Bool.and_true]
    rw [Bool.eq_iff_iff, beq_iff_eq, decide_eq_true_eq]
    constructor
    · intro e; subst e; rfl
    · intro e; exact (UInt8.toNat_inj.1 (show b.toNat = (45 : UInt8).toNat from e)).symm
set_option maxHeartbeats 1000000 in
theorem l01Value_any (s : ByteArray) (w : World) : Calls Tryd.prog 121 #[.string s] w (RS (rdV s) w) := by
  by_cases h1 : s.size < 1 ∨ 17 < s.size
  · have K := Hf.mk (rd_no (rdOk_len h1))
    rw [K.out]
    by_cases h2 : s.size < 1
    · go_enter Tryd.func121, Tryd.ntmps121
      go_wp2
      go_ret2
      exact ⟨rfl, (by repeat (first | exact Below.refl _ _ | with_reducible assumption | refine Below.drews ?_ | refine Below.drew ?_ | refine Below.alloc ?_ (by simp <;> omega) _ | refine Below.setCell ?_ (by simp <;> omega) _))⟩
    · go_enter Tryd.func121, Tryd.ntmps121
      go_wp2
      go_ret2
      exact ⟨rfl, (by repeat (first | exact Below.refl _ _ | with_reducible assumption | refine Below.drews ?_ | refine Below.drew ?_ | refine Below.alloc ?_ (by simp <;> omega) _ | refine Below.setCell ?_ (by simp <;> omega) _))⟩
  · have h17 : s.data.toList.length ≤ 17 := by rw [show s.data.toList.length = s.size from rfl]; omega
    have HV := Hf.mk (fun m => @dval_17 s.data.toList m h17)
    have HW := Hf.mk h17
    have HI := Hf.mk (fun n a b w => l00In_any n a b w)
    have HD := Hf.mk (fun {n} h0 h1 w => @l01Dec_any n h0 h1 w)
    have B0 := Hb.mk (Below.refl w.heap.size w)
    have HN := Hf.mk (@head_neg s (by omega))
    clear h17
    go_enter Tryd.func121, Tryd.ntmps121
    go_wp2
    go_loopw [4, 5] (fun v3 v4 wr => ∃ m : Nat, m ≤ s.size ∧ v3 = .int .i64 (dval (s.data.toList.take m) : Nat) ∧ v4 = .int .i64 m ∧ Drew w wr) (fun _ v4 _ => s.size - (intOf v4).toNat)
    case atStart => exact ⟨0, by omega, rfl, rfl, (by repeat (first | exact Drew.refl _ | refine Drew.more ?_))⟩
    case round =>
      obtain ⟨m, hm, rfl, rfl, q, rfl⟩ := hrel
      have hv := HV.out m
      obtain ⟨D, hDe⟩ : ∃ D, D = dval (s.data.toList.take m) := ⟨_, rfl⟩
      by_cases hlt : m < s.size
      · have hb : (s[m]'hlt).toNat < 256 := UInt8.toNat_lt _
        have he := Hf.mk (byt_at s m hlt)
        have hb2 : (s.data[m]'hlt).toNat < 256 := hb
        have hnx : ∀ k : Nat, dstep D (s.data.toList.getD m 0) = k → dval (s.data.toList.take (m + 1)) = k := fun k hk => by rw [dval_up (show m < s.data.toList.length from hlt), ← hDe]; exact hk
        have hbd : byt s m = (s.data.toList.getD m 0).toNat := rfl
        by_cases ha : (s[m]'hlt).toNat < 48
        · have ha2 : (s.data[m]'hlt).toNat < 48 := ha
          have K := Hf.mk (hnx D (by unfold dstep isDig; rw [if_neg (by rw [decide_eq_true_eq, ← hbd, ← he.out]; omega)]))
          clear hnx
          go_wp2
          go_roundw
          case rel => exact ⟨m + 1, by omega, by rw [K.out]; exact vi_ext (by omega), by rw [show ((m : Int) + 1) = ((m + 1 : Nat) : Int) by omega], (by repeat (first | exact Drew.refl _ | refine Drew.more ?_))⟩
          case measure => simp [intOf]; omega
        · have ha2 : ¬ (s.data[m]'hlt).toNat < 48 := ha
          by_cases hz : 57 < (s[m]'hlt).toNat
          · have hz2 : 57 < (s.data[m]'hlt).toNat := hz
            have K := Hf.mk (hnx D (by unfold dstep isDig; rw [if_neg (by rw [decide_eq_true_eq, ← hbd, ← he.out]; omega)]))
            clear hnx
            go_wp2
            go_roundw
            case rel => exact ⟨m + 1, by omega, by rw [K.out]; exact vi_ext (by omega), by rw [show ((m : Int) + 1) = ((m + 1 : Nat) : Int) by omega], (by repeat (first | exact Drew.refl _ | refine Drew.more ?_))⟩
            case measure => simp [intOf]; omega
          · have hz2 : ¬ 57 < (s.data[m]'hlt).toNat := hz
            have K := Hf.mk (hnx (10 * D + ((s[m]'hlt).toNat - 48)) (by unfold dstep isDig; rw [if_pos (by rw [decide_eq_true_eq, ← hbd, ← he.out]; omega), ← hbd, ← he.out]))
            clear hnx
            go_wp2
            go_roundw
            case rel => exact ⟨m + 1, by omega, by rw [K.out]; exact vi_ext (by omega), by rw [show ((m : Int) + 1) = ((m + 1 : Nat) : Int) by omega], (by repeat (first | exact Drew.refl _ | refine Drew.more ?_))⟩
            case measure => simp [intOf]; omega
      · obtain rfl : m = s.size := by omega
        have ht : s.data.toList.take s.size = s.data.toList := List.take_of_length_le (Nat.le_refl _)
        rw [ht] at hv hDe ⊢
        subst hDe
        have hp0 : 0 < s.size := by omega
        have h0d : byt s 0 = (s.data[0]'hp0).toNat := (byt_at s 0 hp0).symm
        by_cases hg : byt s 0 = 45
        · have HR := Hf.mk (show rdN s.data.toList = -((dval s.data.toList : Nat) : Int) by unfold rdN; rw [HN.out, decide_eq_true hg]; rfl)
          have hg1 : (s.data[0]'hp0).toNat = 45 := h0d ▸ hg
          have hg2 : (s[0]'hp0).toNat = 45 := hg1
          clear hg h0d
          by_cases hin : -1000000000000000 ≤ -((dval s.data.toList : Nat) : Int) ∧ -((dval s.data.toList : Nat) : Int) ≤ 1000000000000000
          · have HIy := Hf.mk (fun (x : Int) (hx : x = -((dval s.data.toList : Nat) : Int)) (w : World) => by have := HI.out x (-1000000000000000) 1000000000000000 w; rw [decide_eq_true (by rw [hx]; exact hin)] at this; exact this)
            have HDy := Hf.mk (fun (x : Int) (hx : x = -((dval s.data.toList : Nat) : Int)) (w : World) => show Calls Tryd.prog 100 #[.int .i64 x] w (RS (.string ⟨(Lib.itoa (-((dval s.data.toList : Nat) : Int))).toArray⟩) w) by have := HD.out (n := x) (by omega) (by omega) w; rw [hx] at this ⊢; exact this)
            by_cases heq : Lib.itoa (-((dval s.data.toList : Nat) : Int)) = s.data.toList
            · have hq : (!Lib.itoa (-((dval s.data.toList : Nat) : Int)) == s.toList) = false := by rw [heq, Lib.toList_data]; simp
              have K := Hf.mk (show rdV s = .tuple #[.int .i64 (-((dval s.data.toList : Nat) : Int)), .bool true] by unfold rdV rdOk; rw [HR.out, decide_eq_true ⟨hin.1, hin.2, heq⟩]; rfl)
              go_wp2_with (first | (go_at_call 118; refine (HIy.out _ (by omega) _).mono ?_; rintro e w1 ⟨rfl, q1, rfl⟩) | (go_at_call 100; refine (HDy.out _ (by omega) _).mono ?_; rintro e w2 ⟨rfl, b2⟩; have B2 := Hb.mk (Below.on (B := w.heap.size) (a := w) (by repeat (first | exact B0.out | refine Below.drews ?_ | refine Below.drew ?_ | refine Below.alloc ?_ (by have hq_ := B0.out.size; first | omega | (simp <;> omega)) _ | refine Below.setCell ?_ (by have hq_ := B0.out.size; first | omega | (simp <;> omega)) _)) b2 (by have hq_ := B0.out.size; first | omega | (simp <;> omega))); clear b2))
              go_ret2
              rw [K.out]
              exact ⟨rfl, (by repeat (first | exact B2.out | refine Below.drews ?_ | refine Below.drew ?_ | refine Below.alloc ?_ (by have hq_ := B2.out.size; first | omega | (simp <;> omega)) _ | refine Below.setCell ?_ (by have hq_ := B2.out.size; first | omega | (simp <;> omega)) _))⟩
            · have hq : (!Lib.itoa (-((dval s.data.toList : Nat) : Int)) == s.toList) = true := by rw [Lib.toList_data]; simp only [Bool.not_eq_true', beq_eq_false_iff_ne]; exact heq
              have K := Hf.mk (rd_no (show rdOk s.data.toList = false by unfold rdOk; rw [HR.out]; exact decide_eq_false (fun h => heq h.2.2)))
              go_wp2_with (first | (go_at_call 118; refine (HIy.out _ (by omega) _).mono ?_; rintro e w1 ⟨rfl, q1, rfl⟩) | (go_at_call 100; refine (HDy.out _ (by omega) _).mono ?_; rintro e w2 ⟨rfl, b2⟩; have B2 := Hb.mk (Below.on (B := w.heap.size) (a := w) (by repeat (first | exact B0.out | refine Below.drews ?_ | refine Below.drew ?_ | refine Below.alloc ?_ (by have hq_ := B0.out.size; first | omega | (simp <;> omega)) _ | refine Below.setCell ?_ (by have hq_ := B0.out.size; first | omega | (simp <;> omega)) _)) b2 (by have hq_ := B0.out.size; first | omega | (simp <;> omega))); clear b2))
              go_ret2
              rw [K.out]
              exact ⟨rfl, (by repeat (first | exact B2.out | refine Below.drews ?_ | refine Below.drew ?_ | refine Below.alloc ?_ (by have hq_ := B2.out.size; first | omega | (simp <;> omega)) _ | refine Below.setCell ?_ (by have hq_ := B2.out.size; first | omega | (simp <;> omega)) _))⟩
          · have HIn := Hf.mk (fun (x : Int) (hx : x = -((dval s.data.toList : Nat) : Int)) (w : World) => by have := HI.out x (-1000000000000000) 1000000000000000 w; rw [decide_eq_false (by rw [hx]; exact hin)] at this; exact this)
            have K := Hf.mk (rd_no (show rdOk s.data.toList = false by unfold rdOk; rw [HR.out]; exact decide_eq_false (fun h => hin ⟨h.1, h.2.1⟩)))
            go_wp2_with (first | (go_at_call 118; refine (HIn.out _ (by omega) _).mono ?_; rintro e w1 ⟨rfl, q1, rfl⟩))
            go_ret2
            rw [K.out]
            exact ⟨rfl, (by repeat (first | exact Below.refl _ _ | with_reducible assumption | refine Below.drews ?_ | refine Below.drew ?_ | refine Below.alloc ?_ (by simp <;> omega) _ | refine Below.setCell ?_ (by simp <;> omega) _))⟩
        · have HR := Hf.mk (show rdN s.data.toList = ((dval s.data.toList : Nat) : Int) by unfold rdN; rw [HN.out, decide_eq_false hg]; rfl)
          have hg1 : ¬ (s.data[0]'hp0).toNat = 45 := h0d ▸ hg
          have hg2 : ¬ (s[0]'hp0).toNat = 45 := hg1
          clear hg h0d
          by_cases hin : -1000000000000000 ≤ ((dval s.data.toList : Nat) : Int) ∧ ((dval s.data.toList : Nat) : Int) ≤ 1000000000000000
          · have HIy := Hf.mk (fun (x : Int) (hx : x = ((dval s.data.toList : Nat) : Int)) (w : World) => by have := HI.out x (-1000000000000000) 1000000000000000 w; rw [decide_eq_true (by rw [hx]; exact hin)] at this; exact this)
            have HDy := Hf.mk (fun (x : Int) (hx : x = ((dval s.data.toList : Nat) : Int)) (w : World) => show Calls Tryd.prog 100 #[.int .i64 x] w (RS (.string ⟨(Lib.itoa (((dval s.data.toList : Nat) : Int))).toArray⟩) w) by have := HD.out (n := x) (by omega) (by omega) w; rw [hx] at this ⊢; exact this)
            by_cases heq : Lib.itoa (((dval s.data.toList : Nat) : Int)) = s.data.toList
            · have hq : (!Lib.itoa (((dval s.data.toList : Nat) : Int)) == s.toList) = false := by rw [heq, Lib.toList_data]; simp
              have K := Hf.mk (show rdV s = .tuple #[.int .i64 (((dval s.data.toList : Nat) : Int)), .bool true] by unfold rdV rdOk; rw [HR.out, decide_eq_true ⟨hin.1, hin.2, heq⟩]; rfl)
              go_wp2_with (first | (go_at_call 118; refine (HIy.out _ (by omega) _).mono ?_; rintro e w1 ⟨rfl, q1, rfl⟩) | (go_at_call 100; refine (HDy.out _ (by omega) _).mono ?_; rintro e w2 ⟨rfl, b2⟩; have B2 := Hb.mk (Below.on (B := w.heap.size) (a := w) (by repeat (first | exact B0.out | refine Below.drews ?_ | refine Below.drew ?_ | refine Below.alloc ?_ (by have hq_ := B0.out.size; first | omega | (simp <;> omega)) _ | refine Below.setCell ?_ (by have hq_ := B0.out.size; first | omega | (simp <;> omega)) _)) b2 (by have hq_ := B0.out.size; first | omega | (simp <;> omega))); clear b2))
              go_ret2
              rw [K.out]
              exact ⟨rfl, (by repeat (first | exact B2.out | refine Below.drews ?_ | refine Below.drew ?_ | refine Below.alloc ?_ (by have hq_ := B2.out.size; first | omega | (simp <;> omega)) _ | refine Below.setCell ?_ (by have hq_ := B2.out.size; first | omega | (simp <;> omega)) _))⟩
            · have hq : (!Lib.itoa (((dval s.data.toList : Nat) : Int)) == s.toList) = true := by rw [Lib.toList_data]; simp only [Bool.not_eq_true', beq_eq_false_iff_ne]; exact heq
              have K := Hf.mk (rd_no (show rdOk s.data.toList = false by unfold rdOk; rw [HR.out]; exact decide_eq_false (fun h => heq h.2.2)))
              go_wp2_with (first | (go_at_call 118; refine (HIy.out _ (by omega) _).mono ?_; rintro e w1 ⟨rfl, q1, rfl⟩) | (go_at_call 100; refine (HDy.out _ (by omega) _).mono ?_; rintro e w2 ⟨rfl, b2⟩; have B2 := Hb.mk (Below.on (B := w.heap.size) (a := w) (by repeat (first | exact B0.out | refine Below.drews ?_ | refine Below.drew ?_ | refine Below.alloc ?_ (by have hq_ := B0.out.size; first | omega | (simp <;> omega)) _ | refine Below.setCell ?_ (by have hq_ := B0.out.size; first | omega | (simp <;> omega)) _)) b2 (by have hq_ := B0.out.size; first | omega | (simp <;> omega))); clear b2))
              go_ret2
              rw [K.out]
              exact ⟨rfl, (by repeat (first | exact B2.out | refine Below.drews ?_ | refine Below.drew ?_ | refine Below.alloc ?_ (by have hq_ := B2.out.size; first | omega | (simp <;> omega)) _ | refine Below.setCell ?_ (by have hq_ := B2.out.size; first | omega | (simp <;> omega)) _))⟩
          · have HIn := Hf.mk (fun (x : Int) (hx : x = ((dval s.data.toList : Nat) : Int)) (w : World) => by have := HI.out x (-1000000000000000) 1000000000000000 w; rw [decide_eq_false (by rw [hx]; exact hin)] at this; exact this)
            have K := Hf.mk (rd_no (show rdOk s.data.toList = false by unfold rdOk; rw [HR.out]; exact decide_eq_false (fun h => hin ⟨h.1, h.2.1⟩)))
            go_wp2_with (first | (go_at_call 118; refine (HIn.out _ (by omega) _).mono ?_; rintro e w1 ⟨rfl, q1, rfl⟩))
            go_ret2
            rw [K.out]
            exact ⟨rfl, (by repeat (first | exact Below.refl _ _ | with_reducible assumption | refine Below.drews ?_ | refine Below.drew ?_ | refine Below.alloc ?_ (by simp <;> omega) _ | refine Below.setCell ?_ (by simp <;> omega) _))⟩
theorem nodig {z : ByteArray} {m : Nat} (h : m < z.size) (hb : (z[m]'h).toNat < 48 ∨ 57 < (z[m]'h).toNat) : isDig (z.data.toList.getD m 0) = false := by
  unfold isDig
  rw [← byt_d, ← byt_at z m h]
  exact decide_eq_false (by omega)
theorem yesdig {z : ByteArray} {m : Nat} (h : m < z.size) (h1 : ¬ (z[m]'h).toNat < 48) (h2 : ¬ 57 < (z[m]'h).toNat) : dval (z.data.toList.take (m + 1)) = 10 * dval (z.data.toList.take m) + ((z[m]'h).toNat - 48) := by
  rw [dval_up (show m < z.data.toList.length from h)]
  unfold dstep isDig
  rw [← byt_d, ← byt_at z m h, if_pos (decide_eq_true (by omega))]
theorem isDigit_any (r : Int) (w : World) : Calls Tryd.prog 124 #[.int .i32 r] w (fun e w' => e = .returned (.bool (decide (48 ≤ r ∧ r ≤ 57))) ∧ w' = w) := by
  go_enter Tryd.func124, Tryd.ntmps124
  go_wp2 <;> (go_ret; exact ⟨by simp; try omega, rfl⟩)
set_option maxHeartbeats 1000000 in
theorem iRead_any (s : ByteArray) (w : World) (ht : P10 w) : Calls Tryd.prog 96 #[.string s] w (fun e w' => e = .returned (rdV s) ∧ Below w.heap.size w w') := by
  have KC := Hf.mk (fun w => Tryd.strings_CutPrefix s ⟨#[45]⟩ w)
  obtain ⟨z, hz⟩ : ∃ z : ByteArray, z = ⟨(Lib.trimPrefix s.data.toList [45]).toArray⟩ := ⟨_, rfl⟩
  obtain ⟨bb, hbb⟩ : ∃ bb : Bool, bb = Lib.hasPrefix s.data.toList [45] := ⟨_, rfl⟩
  have KC2 : Hf (∀ w, Calls Tryd.prog 123 #[.string s, .string ⟨#[45]⟩] w fun e w' => e = .returned (.tuple #[.string z, .bool bb]) ∧ w' = w) := ⟨fun w => by rw [hz, hbb]; exact KC.out w⟩
  have HZ : Hf (z.data.toList = Lib.trimPrefix s.data.toList [45]) := ⟨by rw [hz]⟩
  have HBB := Hf.mk hbb
  have KB := Hf.mk (fun p => (Below.refl _ w).alloc (Nat.le_refl _) _ : ∀ p, Below w.heap.size w (w.iter z p))
  have KD := Hf.mk (fun {n} h0 h1 w ht => @iDec_any n h0 h1 w ht)
  have KI := Hf.mk (fun r w => isDigit_any r w)
  have HT := Hf.mk ht
  clear ht KC hz hbb
  go_enter Tryd.func96, Tryd.ntmps96
  go_wp2_with (go_at_call 123; refine (KC2.out _).mono ?_; rintro e w1 ⟨rfl, hw1⟩; have hw2 := hw1.symm; clear hw1; subst hw2)
  go_loopw [6, 8] (fun v6 v8 w' => ∃ m : Nat, m ≤ z.size ∧ v6 = .int .i64 (dval (z.data.toList.take m) : Nat) ∧ dval (z.data.toList.take m) ≤ 1000000000000000 ∧ w' = w.iter z m) (fun _ _ w' => z.size - w'.iterPos w.heap.size)
  case atStart => exact ⟨0, by omega, rfl, by rw [List.take_zero]; decide, rfl⟩
  case round =>
    obtain ⟨m, hm, rfl, hv, rfl⟩ := hrel
    by_cases hlt : m < z.size
    · by_cases hh : 128 ≤ (z[m]'hlt).toNat
      · have hnx : ∀ ty, (Instr.next (.pointer (some ⟨w.heap.size, 0, none⟩)) true ty).run Tryd.prog (w.iter z m) = _ := fun ty => run_next_any w z m ty hlt
        obtain ⟨g, _⟩ := decode_high z m hlt hh
        have K := Hf.mk (rd_no (s := s) (rdOk_dig (m := m) (by rw [← HZ.out]; exact hlt) (by rw [← HZ.out]; exact nodig hlt (by omega))))
        have KIn := Hf.mk (fun (x : Int) (hx : x < 48 ∨ 57 < x) (w : World) => show Calls Tryd.prog 124 #[.int .i32 x] w (fun e w' => e = .returned (.bool false) ∧ w' = w) by have := KI.out x w; rw [decide_eq_false (by omega)] at this; exact this)
        go_wp2_with (go_at_call 124; refine (KIn.out _ (by omega) _).mono ?_; rintro e w1 ⟨rfl, rfl⟩)
        go_ret2
        rw [K.out]
        exact ⟨rfl, KB.out _⟩
      · have hnx : ∀ ty, (Instr.next (.pointer (some ⟨w.heap.size, 0, none⟩)) true ty).run Tryd.prog (w.iter z m) = _ := fun ty => run_next_ascii w z m ty hlt (by omega)
        by_cases hd : (z[m]'hlt).toNat < 48 ∨ 57 < (z[m]'hlt).toNat
        · have K := Hf.mk (rd_no (s := s) (rdOk_dig (m := m) (by rw [← HZ.out]; exact hlt) (by rw [← HZ.out]; exact nodig hlt hd)))
          have KIn := Hf.mk (fun (x : Int) (hx : x < 48 ∨ 57 < x) (w : World) => show Calls Tryd.prog 124 #[.int .i32 x] w (fun e w' => e = .returned (.bool false) ∧ w' = w) by have := KI.out x w; rw [decide_eq_false (by omega)] at this; exact this)
          go_wp2_with (go_at_call 124; refine (KIn.out _ (by omega) _).mono ?_; rintro e w1 ⟨rfl, rfl⟩)
          go_ret2
          rw [K.out]
          exact ⟨rfl, KB.out _⟩
        · have h1 : ¬ (z[m]'hlt).toNat < 48 := fun h => hd (.inl h)
          have h2 : ¬ 57 < (z[m]'hlt).toNat := fun h => hd (.inr h)
          have hy := yesdig hlt h1 h2
          have hb : 10 * dval (z.data.toList.take m) + ((z[m]'hlt).toNat - 48) = dval (z.data.toList.take (m + 1)) := hy.symm
          have HY := Hf.mk hb
          have KIy := Hf.mk (fun (x : Int) (hx : 48 ≤ x ∧ x ≤ 57) (w : World) => show Calls Tryd.prog 124 #[.int .i32 x] w (fun e w' => e = .returned (.bool true) ∧ w' = w) by have := KI.out x w; rw [decide_eq_true hx] at this; exact this)
          clear hd hy hb
          by_cases hbig : 1000000000000000 < 10 * dval (z.data.toList.take m) + ((z[m]'hlt).toNat - 48)
          · have K := Hf.mk (rd_no (s := s) (rdOk_big (m := m + 1) (by rw [← HZ.out, ← HY.out]; exact hbig)))
            go_wp2_with (go_at_call 124; refine (KIy.out _ (by omega) _).mono ?_; rintro e w1 ⟨rfl, rfl⟩)
            go_ret2
            rw [K.out]
            exact ⟨rfl, KB.out _⟩
          · go_wp2_with (go_at_call 124; refine (KIy.out _ (by omega) _).mono ?_; rintro e w1 ⟨rfl, rfl⟩)
            go_roundw
            case rel => exact ⟨m + 1, by omega, by rw [← HY.out]; exact vi_ext (by omega), by rw [← HY.out]; omega, rfl⟩
            case measure => simp; omega
    · have hnx : ∀ ty, (Instr.next (.pointer (some ⟨w.heap.size, 0, none⟩)) true ty).run Tryd.prog (w.iter z m) = _ := fun ty => run_next_end w z m ty hlt
      obtain rfl : m = z.size := by omega
      have htk : z.data.toList.take z.size = z.data.toList := List.take_of_length_le (Nat.le_refl _)
      rw [htk] at hv ⊢
      have hE := rdOk_end (l := s.data.toList) (by rw [← HZ.out]; exact hv)
      rw [← HZ.out, ← HBB.out] at hE
      have HE := Hf.mk hE
      clear hE
      have hlt2 := dval_lt z.data.toList
      clear hlt2
      cases bb
      · have HR : Hf (rdN s.data.toList = ((dval z.data.toList : Nat) : Int)) := ⟨HE.out.2⟩
        have HO : Hf (rdOk s.data.toList = decide (Lib.itoa (((dval z.data.toList : Nat) : Int)) = s.data.toList)) := ⟨by rw [HE.out.1, HR.out]⟩
        have KDy := Hf.mk (fun (x : Int) (hx : x = ((dval z.data.toList : Nat) : Int)) (w : World) (ht : P10 w) => show Calls Tryd.prog 90 #[.int .i64 x] w (RS (.string ⟨(Lib.itoa (((dval z.data.toList : Nat) : Int))).toArray⟩) w) by have := KD.out (n := x) (by omega) (by omega) w ht; rw [hx] at this ⊢; exact this)
        clear HE
        by_cases heq : Lib.itoa (((dval z.data.toList : Nat) : Int)) = s.data.toList
        · have hq : (!Lib.itoa (((dval z.data.toList : Nat) : Int)) == s.toList) = false := by rw [heq, Lib.toList_data]; simp
          have K := Hf.mk (show rdV s = .tuple #[.int .i64 (((dval z.data.toList : Nat) : Int)), .bool true] by unfold rdV; rw [HO.out, HR.out, decide_eq_true heq]; rfl)
          go_wp2_with (go_at_call 90; refine (KDy.out _ (by omega) _ (HT.out.on (KB.out _))).mono ?_; rintro e w2 ⟨rfl, b2⟩; have B2 := Hb.mk (Below.on (KB.out _) b2 (KB.out _).size); clear b2)
          go_ret2
          rw [K.out]
          exact ⟨rfl, B2.out⟩
        · have hq : (!Lib.itoa (((dval z.data.toList : Nat) : Int)) == s.toList) = true := by rw [Lib.toList_data]; simp only [Bool.not_eq_true', beq_eq_false_iff_ne]; exact heq
          have K := Hf.mk (rd_no (s := s) (by rw [HO.out]; exact decide_eq_false heq))
          go_wp2_with (go_at_call 90; refine (KDy.out _ (by omega) _ (HT.out.on (KB.out _))).mono ?_; rintro e w2 ⟨rfl, b2⟩; have B2 := Hb.mk (Below.on (KB.out _) b2 (KB.out _).size); clear b2)
          go_ret2
          rw [K.out]
          exact ⟨rfl, B2.out⟩
      · have HR : Hf (rdN s.data.toList = -((dval z.data.toList : Nat) : Int)) := ⟨HE.out.2⟩
        have HO : Hf (rdOk s.data.toList = decide (Lib.itoa (-((dval z.data.toList : Nat) : Int)) = s.data.toList)) := ⟨by rw [HE.out.1, HR.out]⟩
        have KDy := Hf.mk (fun (x : Int) (hx : x = -((dval z.data.toList : Nat) : Int)) (w : World) (ht : P10 w) => show Calls Tryd.prog 90 #[.int .i64 x] w (RS (.string ⟨(Lib.itoa (-((dval z.data.toList : Nat) : Int))).toArray⟩) w) by have := KD.out (n := x) (by omega) (by omega) w ht; rw [hx] at this ⊢; exact this)
        clear HE
        by_cases heq : Lib.itoa (-((dval z.data.toList : Nat) : Int)) = s.data.toList
        · have hq : (!Lib.itoa (-((dval z.data.toList : Nat) : Int)) == s.toList) = false := by rw [heq, Lib.toList_data]; simp
          have K := Hf.mk (show rdV s = .tuple #[.int .i64 (-((dval z.data.toList : Nat) : Int)), .bool true] by unfold rdV; rw [HO.out, HR.out, decide_eq_true heq]; rfl)
          go_wp2_with (go_at_call 90; refine (KDy.out _ (by omega) _ (HT.out.on (KB.out _))).mono ?_; rintro e w2 ⟨rfl, b2⟩; have B2 := Hb.mk (Below.on (KB.out _) b2 (KB.out _).size); clear b2)
          go_ret2
          rw [K.out]
          exact ⟨rfl, B2.out⟩
        · have hq : (!Lib.itoa (-((dval z.data.toList : Nat) : Int)) == s.toList) = true := by rw [Lib.toList_data]; simp only [Bool.not_eq_true', beq_eq_false_iff_ne]; exact heq
          have K := Hf.mk (rd_no (s := s) (by rw [HO.out]; exact decide_eq_false heq))
          go_wp2_with (go_at_call 90; refine (KDy.out _ (by omega) _ (HT.out.on (KB.out _))).mono ?_; rintro e w2 ⟨rfl, b2⟩; have B2 := Hb.mk (Below.on (KB.out _) b2 (KB.out _).size); clear b2)
          go_ret2
          rw [K.out]
          exact ⟨rfl, B2.out⟩
end Go.Proofs.YtcgakdgfmhkpjaaDoor
