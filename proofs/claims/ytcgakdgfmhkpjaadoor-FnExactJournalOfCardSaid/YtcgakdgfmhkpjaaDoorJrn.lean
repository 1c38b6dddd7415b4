/-
JournalOf: the text of a journal, as lists of bytes. Lists of texts as arguments: opened, weighed, copied.
-/
import Derived.Test.YtcgakdgfmhkpjaaDoorRjn
import Derived.SliceStrings
namespace Go.Proofs.YtcgakdgfmhkpjaaDoor
open Go Go.RowKit
set_option maxRecDepth 100000

theorem decD_ne (A : Nat) : Lib.decDigits A ≠ [] := by
  unfold Lib.decDigits
  split <;> simp
/-- the check number behind a line, the entry of a line -/
def ckR (c : Int) (l : List UInt8) : Int := chkN (ofL l) c l.length
theorem ckR_in {c : Int} (h0 : 0 ≤ c) (h1 : c < 65003) (l : List UInt8) : 0 ≤ ckR c l ∧ ckR c l < 65003 := chkN_in _ h0 h1 _
def enW (c : Int) (l : List UInt8) : List UInt8 := Lib.itoa (ckR c l) ++ 32 :: l ++ [10]
theorem itoa_ge {n : Int} (h : 0 ≤ n) : 1 ≤ (Lib.itoa n).length := by
  unfold Lib.itoa
  rw [if_neg (by omega)]
  exact List.length_pos_iff.2 (decD_ne _)
theorem itoa_le {n : Int} (h0 : 0 ≤ n) (h1 : n < 65003) : (Lib.itoa n).length ≤ 21 := by
  have := Lib.itoa_length_le n (by omega) (by omega)
  omega
theorem enW_ge {c : Int} (h0 : 0 ≤ c) (h1 : c < 65003) (l : List UInt8) : l.length + 3 ≤ (enW c l).length := by
  have := itoa_ge (ckR_in h0 h1 l).1
  unfold enW
  simp
  omega
theorem enW_le {c : Int} (h0 : 0 ≤ c) (h1 : c < 65003) (l : List UInt8) : (enW c l).length ≤ l.length + 23 := by
  have := itoa_le (ckR_in h0 h1 l).1 (ckR_in h0 h1 l).2
  unfold enW
  simp
  omega
def ckN (L : List (List UInt8)) : Nat → Int
  | 0 => 0
  | k + 1 => ckR (ckN L k) (L.getD k [])
theorem ckN_in (L : List (List UInt8)) : ∀ k, 0 ≤ ckN L k ∧ ckN L k < 65003
  | 0 => by unfold ckN; omega
  | k + 1 => ckR_in (ckN_in L k).1 (ckN_in L k).2 _
def txN (L : List (List UInt8)) : Nat → List UInt8
  | 0 => []
  | k + 1 => txN L k ++ enW (ckN L k) (L.getD k [])
/-- what the model counts ahead -/
def smN (L : List (List UInt8)) : Nat → Nat
  | 0 => 0
  | k + 1 => smN L k + ((L.getD k []).length + 3)
theorem tx_up (L : List (List UInt8)) (k : Nat) : (txN L k).length ≤ (txN L (k + 1)).length := by
  show _ ≤ (txN L k ++ _).length
  simp
theorem tx_mono (L : List (List UInt8)) : ∀ {k m : Nat}, k ≤ m → (txN L k).length ≤ (txN L m).length := by
  intro k m h
  induction m with
  | zero =>
    obtain rfl : k = 0 := by omega
    exact Nat.le_refl _
  | succ m ih =>
    by_cases e : k = m + 1
    · subst e; exact Nat.le_refl _
    · exact Nat.le_trans (ih (by omega)) (tx_up L m)
theorem sm_mono (L : List (List UInt8)) : ∀ {k m : Nat}, k ≤ m → smN L k ≤ smN L m := by
  intro k m h
  induction m with
  | zero =>
    obtain rfl : k = 0 := by omega
    exact Nat.le_refl _
  | succ m ih =>
    by_cases e : k = m + 1
    · subst e; exact Nat.le_refl _
    · refine Nat.le_trans (ih (by omega)) ?_
      show _ ≤ smN L m + _
      omega
theorem sm_le (L : List (List UInt8)) : ∀ k, smN L k ≤ (txN L k).length
  | 0 => Nat.zero_le _
  | k + 1 => by
    have h := sm_le L k
    have h2 := enW_ge (ckN_in L k).1 (ckN_in L k).2 (L.getD k [])
    show smN L k + _ ≤ (txN L k ++ _).length
    rw [List.length_append]
    omega
theorem tx_le (L : List (List UInt8)) : ∀ k, (txN L k).length ≤ smN L k + 20 * k
  | 0 => Nat.zero_le _
  | k + 1 => by
    have h := tx_le L k
    have h2 := enW_le (ckN_in L k).1 (ckN_in L k).2 (L.getD k [])
    show (txN L k ++ _).length ≤ smN L k + _ + _
    rw [List.length_append]
    omega
theorem sm_ge (L : List (List UInt8)) : ∀ k, 3 * k ≤ smN L k
  | 0 => Nat.zero_le _
  | k + 1 => by have h := sm_ge L k; show _ ≤ smN L k + _; omega
def noNl (l : List UInt8) : Bool := !l.contains 10
def jOk (L : List (List UInt8)) : Bool := L.all noNl && decide ((txN L L.length).length ≤ 16000)
def jTx (L : List (List UInt8)) : List UInt8 := if jOk L then txN L L.length else []
theorem jOk_long {L : List (List UInt8)} {k : Nat} (hk : k ≤ L.length) (h : 16000 < (txN L k).length) : jOk L = false := by
  have := tx_mono L hk
  unfold jOk
  rw [decide_eq_false (by omega), Bool.and_false]
theorem jOk_nl {L : List (List UInt8)} {k : Nat} (hk : k < L.length) (h : noNl (L.getD k []) = false) : jOk L = false := by
  have : L.all noNl = false := by
    rw [List.all_eq_false]
    exact ⟨L.getD k [], by rw [List.getD, List.getElem?_eq_getElem hk]; exact List.getElem_mem _, by rw [h]; simp⟩
  unfold jOk
  rw [this, Bool.false_and]
theorem jOk_yes {L : List (List UInt8)} (h : ∀ k, k < L.length → noNl (L.getD k []) = true) (h2 : (txN L L.length).length ≤ 16000) : jOk L = true := by
  unfold jOk
  rw [decide_eq_true h2, Bool.and_true, List.all_eq_true]
  intro l hl
  obtain ⟨k, hk, rfl⟩ := List.mem_iff_getElem.1 hl
  have := h k hk
  rwa [List.getD, List.getElem?_eq_getElem hk] at this
theorem jTx_no {L : List (List UInt8)} (h : jOk L = false) : jTx L = [] := by unfold jTx; rw [h]; rfl
theorem jTx_yes {L : List (List UInt8)} (h : jOk L = true) : jTx L = txN L L.length := by unfold jTx; rw [h]; rfl
theorem nl_at {l : List UInt8} {m : Nat} (h : l[m]? = some 10) : noNl l = false := by
  have hm := (List.getElem?_eq_some_iff.1 h)
  obtain ⟨h1, h2⟩ := hm
  have : l.contains 10 = true := by rw [List.contains_iff_mem]; rw [← h2]; exact List.getElem_mem _
  unfold noNl
  rw [this]
  rfl
theorem nl_no {l : List UInt8} (h : ∀ m, m < l.length → l[m]? ≠ some 10) : noNl l = true := by
  have : l.contains 10 = false := by
    rw [Bool.eq_false_iff]
    intro e
    rw [List.contains_iff_mem] at e
    obtain ⟨m, hm, e2⟩ := List.mem_iff_getElem.1 e
    exact h m hm (by rw [List.getElem?_eq_getElem hm, e2])
  unfold noNl
  rw [this]
  rfl
theorem nl_index (l : List UInt8) : decide (0 ≤ Lib.indexByte l 10) = !noNl l := by
  have hge := Lib.indexByte_ge l 10
  by_cases h : Lib.indexByte l 10 = -1
  · rw [nl_no (fun m _ => Lib.indexByte_none h m), h]
    rfl
  · obtain ⟨i, hi⟩ : ∃ i : Nat, Lib.indexByte l 10 = i := ⟨(Lib.indexByte l 10).toNat, by omega⟩
    rw [nl_at (Lib.indexByte_some hi).1, hi, decide_eq_true (by omega)]
    rfl
/-! ## Lists of texts as arguments -/
def tlN (L : List (List UInt8)) : Nat → Nat
  | 0 => 0
  | k + 1 => tlN L k + (L.getD k []).length
theorem tl_mono (L : List (List UInt8)) : ∀ {k m : Nat}, k ≤ m → tlN L k ≤ tlN L m := by
  intro k m h
  induction m with
  | zero =>
    obtain rfl : k = 0 := by omega
    exact Nat.le_refl _
  | succ m ih =>
    by_cases e : k = m + 1
    · subst e; exact Nat.le_refl _
    · refine Nat.le_trans (ih (by omega)) ?_
      show _ ≤ tlN L m + _
      omega
def wgN (L : List (List UInt8)) (left : Int) : Int := if (L.length : Int) + (tlN L L.length : Int) ≤ left then left - ((L.length : Int) + (tlN L L.length : Int)) else -1
theorem wg_no {L : List (List UInt8)} {left : Int} {k : Nat} (hk : k ≤ L.length) (h : left < (L.length : Int) + (tlN L k : Int)) : wgN L left = -1 := by
  have := tl_mono L hk
  unfold wgN
  rw [if_neg (by omega)]
theorem wg_yes {L : List (List UInt8)} {left : Int} (h : (L.length : Int) + (tlN L L.length : Int) ≤ left) : wgN L left = left - ((L.length : Int) + (tlN L L.length : Int)) := by unfold wgN; rw [if_pos h]
def SAr (w : World) (a : Option Addr) (L : List (List UInt8)) : Prop := ∀ j, j < L.length → ∃ p, a = some p ∧ w.cell? (p.add j) = some (.string (ofL (L.getD j [])))
theorem SAr.below {w w' : World} {a : Option Addr} {L : List (List UInt8)} (h : SAr w a L) (b : Below w.heap.size w w') : SAr w' a L := fun j hj => by
  obtain ⟨p, hp, hc⟩ := h j hj
  exact ⟨p, hp, Below.keep b hc⟩
def Sm (L : List (List UInt8)) : Prop := L.length ≤ maxLen ∧ ∀ l ∈ L, l.length ≤ maxLen
section
open Go.ChangeShapes Go.WideShapes Go.Deep Go.Joins
variable {H : Type} {enc : TypeId × Value → H} {P : Program} {w : World} {base : Nat} {spare : Nat → Bool} {held : Bool}
theorem open_srow {t e : TypeId} {fuel : Nat} {cs : List Value} {x : DataW H × List MemPlace} (ht : P.underlying t = some (.slice e)) (he : P.underlying e = some .string) (hc : P.cellsOf e = 1)
    (h : DataW.trod enc P w base spare held fuel t cs = some x) :
    ∃ (a : Option Addr) (cap : Nat) (L : List (List UInt8)), cs = [.slice a L.length cap] ∧ SAr w a L ∧ Sm L := by
  rcases open_strings ht he hc h with ⟨h0, _⟩ | ⟨a, len, cap, ss, h0, _, hlc, hcm, hl, _, hcell, hsm⟩
  · exact ⟨none, 0, [], h0, fun i hi => absurd hi (Nat.not_lt_zero i), Nat.zero_le _, fun _ hn => by cases hn⟩
  · have hle : len ≤ ss.length := by rw [hl]; split <;> omega
    refine ⟨some a, cap, (ss.take len).map fun b => b.data.toList, by rw [h0]; simp; omega, fun j hj => ?_, by simp; omega, fun l hl2 => ?_⟩
    · have hj2 : j < len := by simp at hj; omega
      refine ⟨a, rfl, ?_⟩
      rw [hcell j (by omega)]
      congr 2
      simp [List.getD, hj2, List.getElem?_eq_getElem (show j < ss.length by omega)]
    · obtain ⟨b, hb, rfl⟩ := List.mem_map.1 hl2
      exact hsm b (List.mem_of_mem_take hb)
end
theorem Sm.at {L : List (List UInt8)} (h : Sm L) {k : Nat} (hk : k < L.length) : (L.getD k []).length ≤ maxLen := by
  refine h.2 _ ?_
  rw [List.getD, List.getElem?_eq_getElem hk]
  exact List.getElem_mem _
set_option maxHeartbeats 1000000 in
theorem szS_any {a : Option Addr} {cap : Nat} {L : List (List UInt8)} (w : World) (hr : SAr w a L) (hs : Sm L) : Calls Tryd.prog 30 #[.slice a L.length cap, .int .i64 1048576] w (RI .i64 (wgN L 1048576) w) := by
  have HR := Hf.mk hr
  have HS := Hf.mk (fun k hk => hs.at (k := k) hk)
  have hl := hs.1
  unfold maxLen at hl
  clear hr hs
  by_cases h0 : (1048576 : Int) < (L.length : Int)
  · rw [wg_no (k := 0) (Nat.zero_le _) (by unfold tlN; omega)]
    go_enter Tryd.func30, Tryd.ntmps30
    go_wp2
    go_ret
    exact RI.any rfl (by repeat (first | exact Drew.refl _ | refine Drew.more ?_))
  · go_enter Tryd.func30, Tryd.ntmps30
    go_wp2
    go_loopw [5, 1] (fun i v wr => ∃ k : Nat, k ≤ L.length ∧ i = .int .i64 k ∧ v = .int .i64 (1048576 - (L.length : Int) - (tlN L k : Int)) ∧ (tlN L k : Int) ≤ 1048576 - (L.length : Int) ∧ Drew w wr) (fun i _ _ => L.length - (intOf i).toNat)
    case atStart => exact ⟨0, Nat.zero_le _, rfl, i_ext2 (by unfold tlN; omega), by unfold tlN; omega, (by repeat (first | exact Drew.refl _ | refine Drew.more ?_))⟩
    case round =>
      obtain ⟨k, hk, rfl, rfl, hb, q, rfl⟩ := hrel
      by_cases hlt : k < L.length
      · obtain ⟨p, rfl, hc⟩ := HR.out k hlt
        have hsm := HS.out k hlt
        unfold maxLen at hsm
        have HU : Hf (tlN L (k + 1) = tlN L k + (L.getD k []).length) := ⟨rfl⟩
        have HW := Hf.mk (fun h => wg_no (L := L) (left := 1048576) (k := k + 1) (by omega) h)
        have hD2 : ∀ (W : World) (n : Nat) (x : Addr), (W.drewN n).cell? x = W.cell? x := fun _ _ _ => rfl
        generalize L.getD k [] = l at *
        generalize tlN L k = T at *
        by_cases hneg : (1048576 : Int) - (L.length : Int) - (T : Int) - (l.length : Int) < 0
        · have HV := Hf.mk (HW.out (by rw [HU.out]; omega))
          go_wp2
          go_ret
          rw [HV.out]
          exact RI.any rfl (by repeat (first | exact Drew.refl _ | refine Drew.more ?_))
        · go_wp2
          go_roundw
          case rel => exact ⟨k + 1, by omega, i_ext2 (by omega), i_ext2 (by rw [HU.out]; omega), by rw [HU.out]; omega, (by repeat (first | exact Drew.refl _ | refine Drew.more ?_))⟩
          case measure => simp [intOf]; omega
      · obtain rfl : k = L.length := by omega
        go_wp2
        go_ret
        rw [wg_yes (by omega)]
        exact RI.any (by omega) (by repeat (first | exact Drew.refl _ | refine Drew.more ?_))
set_option maxHeartbeats 1000000 in
theorem toS_any {a : Option Addr} {cap : Nat} {L : List (List UInt8)} (w : World) (hr : SAr w a L) (hl : L.length ≤ 1048576) : Calls Tryd.prog 32 #[.slice a L.length cap] w (fun e w' => e = .returned (.slice (some ⟨w.heap.size, 0, none⟩) L.length L.length) ∧ w'.ownsRow w.heap.size 9 1 (.slice (some ⟨w.heap.size, 0, none⟩) L.length L.length) L.length (sRow L) ∧ Below w.heap.size w w') := by
  obtain ⟨i0, hi, hz0, hz1, hz2⟩ := info_parts (P := Tryd.prog) (e := 9) (z := .string ByteArray.empty) (size := 1) (bytes := 16) (by kernel_rfl)
  have HR := Hf.mk hr
  clear hr
  go_enter Tryd.func32, Tryd.ntmps32
  go_wp2_with (at_make; refine wpList_make_full _ rfl _ _ 48 rfl w.heap.size 9 i0 _ 1 Tryd.underlying48 hi hz0 hz1 .i64 .i64 _ _ L.length rfl rfl rfl rfl (by rw [hz2]; omega) (by unfold maxLen; omega) (Nat.le_refl _) ?_; intro w0 hown0 hgrow0)
  go_loopw [4] (fun i wr => ∃ (m : Nat) (cur : List Value), m ≤ L.length ∧ i = .int .i64 m ∧ Hf (wr.ownsRow w.heap.size 9 1 (.slice (some ⟨w.heap.size, 0, none⟩) L.length L.length) L.length cur) ∧ Hf (∀ j, j < m → cur[j]? = some (.string (ofL (L.getD j [])))) ∧ Hf (Below w.heap.size w wr)) (fun i _ => L.length - (intOf i).toNat)
  case atStart => exact ⟨0, _, by omega, rfl, ⟨hown0⟩, ⟨fun j hj => absurd hj (Nat.not_lt_zero j)⟩, ⟨(Below.refl _ _).grown hgrow0 (Nat.le_refl _) (fun k h => by cases h)⟩⟩
  case round =>
    obtain ⟨m, cur, hm, rfl, hown, hcur, hbel⟩ := hrel
    by_cases hlt : m < L.length
    · obtain ⟨p, rfl, hcell⟩ := (HR.out.below hbel.out) m hlt
      have hlen : cur.length = L.length := by have := hown.out.1; omega
      obtain ⟨old, hold⟩ : ∃ old, cur[m]? = some old := ⟨_, List.getElem?_eq_getElem (by omega)⟩
      have hcA : wr.cell? ⟨w.heap.size, m, none⟩ = some old := (hown.out.cellAt m (by omega)).trans hold
      have hfA := hown.out.frozenAt m
      clear hold
      generalize hx : ofL (L.getD m []) = x at hcell
      go_wp2
      go_roundw
      case rel =>
        have hst := hown.out.stored m (.string x)
        refine ⟨m + 1, _, by omega, i_ext2 (by omega), ⟨hst.1⟩, ⟨?_⟩, ⟨hbel.out.setCell (Nat.le_refl _) _⟩⟩
        intro j hj
        by_cases he : j = m
        · subst he; rw [List.getElem?_set_self (by omega), hx]
        · rw [List.getElem?_set_ne (by omega)]; exact hcur.out j (by omega)
      case measure => simp [intOf]; omega
    · obtain rfl : m = L.length := by omega
      go_wp2
      go_ret
      have hlen : cur.length = L.length := by have := hown.out.1; omega
      refine ⟨rfl, ?_, hbel.out⟩
      have e : cur = sRow L := by
        refine List.ext_getElem? fun j => ?_
        by_cases hj : j < L.length
        · rw [hcur.out j hj]
          simp [sRow, List.getD, List.getElem?_eq_getElem hj]
        · rw [List.getElem?_eq_none (by omega), List.getElem?_eq_none (by rw [sRow_len]; omega)]
      rw [← e]; exact hown.out
end Go.Proofs.YtcgakdgfmhkpjaaDoor
