/-
NumbersText: both sides.
-/
import Derived.Test.YtcgakdgfmhkpjaaDoorFmb
import Derived.Test.YtcgakdgfmhkpjaaDoorWListText
namespace Go.Proofs.YtcgakdgfmhkpjaaDoor
open Go Go.RowKit
set_option maxRecDepth 100000

theorem wfAtN {xs : List Nat} (hw : Wf xs) {j : Nat} (hj : j < xs.length) : (Lit.float .f32 (xs.getD j 0)).wf = true := hw _ (by rw [List.getD, List.getElem?_eq_getElem hj]; exact List.getElem_mem hj)
/-- The words of a list of floats. -/
def hexW (xs : List Nat) : List (List UInt8) := xs.map fun x => hexL (nrm .f32 x)
theorem hexW_len (xs : List Nat) : (hexW xs).length = xs.length := by simp [hexW]
theorem hexW_at {xs : List Nat} {m : Nat} (h : m < xs.length) : (hexW xs).getD m [] = hexL (nrm .f32 (xs.getD m 0)) := by
  unfold hexW
  simp [List.getD, List.getElem?_map, List.getElem?_eq_getElem h]
theorem hexW_size (xs : List Nat) : ∀ l ∈ hexW xs, l.length ≤ 21 := by
  intro l hl
  unfold hexW at hl
  rw [List.mem_map] at hl
  obtain ⟨x, _, rfl⟩ := hl
  rw [hexL_len]; decide
theorem join_mostF {W : List (List UInt8)} (hB : ∀ l ∈ W, l.length ≤ 21) (h0 : 0 < W.length) (h : W.length ≤ 256) : (Lib.join W [44]).length ≤ 5632 := by
  obtain ⟨k, hk⟩ : ∃ k, W.length = k + 1 := ⟨W.length - 1, by omega⟩
  have h1 := join_size hB k (by omega)
  rw [← hk, List.take_length, hk] at h1
  omega
def nfOk (xs : List Nat) : Bool := decide (xs.length ≤ 256)
def nfV (xs : List Nat) : Value := txV (if nfOk xs then ofL (txtW (hexW xs)) else ⟨#[]⟩) (nfOk xs)
set_option maxHeartbeats 1000000 in
theorem l01NText_any {a : Option Addr} {cap : Nat} {xs : List Nat} (w : World) (hr : FRow w a xs) (hw : Wf xs) (hl : xs.length ≤ 256) : Calls Tryd.prog 73 #[.slice a xs.length cap] w (RS (.string (ofL (txtW (hexW xs)))) w) := by
  have HR := Hf.mk hr
  clear hr
  have B0 := Hb.mk (Below.refl w.heap.size w)
  by_cases h0 : xs.length = 0
  · have e : xs = [] := List.length_eq_zero_iff.1 h0
    subst e
    go_enter Tryd.func73, Tryd.ntmps73
    go_wp2
    go_ret
    exact ⟨rfl, (by repeat (first | exact Below.refl _ _ | with_reducible assumption | refine Below.drews ?_ | refine Below.drew ?_ | refine Below.alloc ?_ (by simp <;> omega) _ | refine Below.setCell ?_ (by simp <;> omega) _))⟩
  · have HD := Hf.mk (fun m (hm : m < xs.length) w => l01Hex_any (Fl.own (wfAtN hw hm)) w)
    have HW := Hf.mk (hexW_size xs)
    have HL := Hf.mk (hexW_len xs)
    have HA := Hf.mk (fun m (hm : m < xs.length) => hexW_at hm)
    obtain ⟨W, hW⟩ : ∃ W, W = hexW xs := ⟨_, rfl⟩
    rw [← hW] at HW HL HA ⊢
    have HS := Hf.mk (fun m (hm : m < xs.length) => show (hexL (nrm .f32 (xs.getD m 0))).length ≤ 21 by rw [hexL_len]; decide)
    clear hW hw
    obtain ⟨p, rfl, hcell⟩ := HR.out 0 (by omega)
    have HD0 := Hf.mk (HD.out 0 (by omega))
    generalize hx : xs.getD 0 0 = x at hcell HD0
    have hcell0 : w.cell? p = some (.float .f32 x) := hcell
    go_enter Tryd.func73, Tryd.ntmps73
    go_wp2_with (go_at_call 107; refine (HD0.out _).mono ?_; rintro e w1 ⟨rfl, b1⟩; have B1 := Hb.mk (Below.on (B := w.heap.size) (a := w) (by repeat (first | exact B0.out | refine Below.drews ?_ | refine Below.drew ?_ | refine Below.alloc ?_ (by have hq_ := B0.out.size; first | omega | (simp <;> omega)) _ | refine Below.setCell ?_ (by have hq_ := B0.out.size; first | omega | (simp <;> omega)) _)) b1 (by have hq_ := B0.out.size; first | omega | (simp <;> omega))); clear b1)
    go_loopw [3, 4] (fun v i wr => ∃ m : Nat, 1 ≤ m ∧ m ≤ xs.length ∧ i = .int .i64 m ∧ v = .string (ofL (Lib.join (W.take m) [44])) ∧ Hb (Below w.heap.size w wr)) (fun _ i _ => xs.length - (intOf i).toNat)
    case atStart => exact ⟨1, by omega, by omega, rfl, by rw [join_first (by rw [HL.out]; omega), HA.out 0 (by omega), hx], ⟨(by repeat (first | with_reducible refine Below.setCell ?_ (by first | omega | (simp <;> omega)) _ | with_reducible refine Below.drews ?_ | with_reducible refine Below.drew ?_ | with_reducible refine Below.alloc ?_ (by first | omega | (simp <;> omega)) _ | with_reducible exact B1.out | with_reducible exact Below.refl _ _))⟩⟩
    case round =>
      obtain ⟨m, h1, hm, rfl, rfl, hB⟩ := hrel
      by_cases hlt : m < xs.length
      · obtain ⟨p', hp', hcell⟩ := (HR.out.below hB.out) m hlt
        obtain rfl := Option.some.inj hp'
        clear hp'
        have HDm := Hf.mk (HD.out m hlt)
        have hS := HS.out m hlt
        have hJ := join_size HW.out (m - 1) (by rw [HL.out]; omega)
        rw [show m - 1 + 1 = m by omega] at hJ
        have HU := Hf.mk (join_up (L := W) (k := m) (by omega) (by rw [HL.out]; omega))
        rw [HA.out m hlt] at HU
        generalize xs.getD m 0 = x' at hcell HDm hS HU
        obtain ⟨A, hA⟩ : ∃ A, A = ofL (Lib.join (W.take m) [44]) := ⟨_, rfl⟩
        obtain ⟨D, hD⟩ : ∃ D, D = ofL (hexL (nrm .f32 x')) := ⟨_, rfl⟩
        have hAs : A.size ≤ 22 * 256 := by rw [hA, ofL_size]; have : m * 22 ≤ 256 * 22 := Nat.mul_le_mul_right _ (by omega); omega
        have hDs : D.size ≤ 21 := by rw [hD, ofL_size]; exact hS
        rw [← hA]
        have K := Hf.mk (show A ++ ((⟨#[44]⟩ : ByteArray) ++ D) = ofL (Lib.join (W.take (m + 1)) [44]) by rw [hA, hD, show (⟨#[44]⟩ : ByteArray) = ofL [44] from rfl, ofL_app, ofL_app, HU.out]; rfl)
        have HDD := Hf.mk (show ∀ w, Calls Tryd.prog 107 #[.float .f32 x'] w (RS (.string D) w) by rw [hD]; exact HDm.out)
        clear hA hD HDm HU hJ hS
        go_wp2_with (go_at_call 107; refine (HDD.out _).mono ?_; rintro e w1 ⟨rfl, b1⟩; have B2 := Hb.mk (Below.on (B := w.heap.size) (a := w) (by repeat (first | exact hB.out | refine Below.drews ?_ | refine Below.drew ?_ | refine Below.alloc ?_ (by have hq_ := hB.out.size; first | omega | (simp <;> omega)) _ | refine Below.setCell ?_ (by have hq_ := hB.out.size; first | omega | (simp <;> omega)) _)) b1 (by have hq_ := hB.out.size; first | omega | (simp <;> omega))); clear b1)
        go_roundw
        case rel => exact ⟨m + 1, by omega, by omega, i_ext2 (by omega), by rw [← K.out], ⟨(by repeat (first | with_reducible refine Below.setCell ?_ (by first | omega | (simp <;> omega)) _ | with_reducible refine Below.drews ?_ | with_reducible refine Below.drew ?_ | with_reducible refine Below.alloc ?_ (by first | omega | (simp <;> omega)) _ | with_reducible exact B2.out | with_reducible exact Below.refl _ _))⟩⟩
        case measure => simp [intOf]; omega
      · obtain rfl : m = xs.length := by omega
        go_wp2
        go_ret
        refine ⟨?_, (by repeat (first | with_reducible refine Below.setCell ?_ (by first | omega | (simp <;> omega)) _ | with_reducible refine Below.drews ?_ | with_reducible refine Below.drew ?_ | with_reducible refine Below.alloc ?_ (by first | omega | (simp <;> omega)) _ | with_reducible refine Below.on ?_ hB.out (by first | omega | (simp <;> omega)) | with_reducible exact Below.refl _ _))⟩
        rw [txtW_yes (by rw [HL.out]; omega), List.take_of_length_le (by rw [HL.out]; exact Nat.le_refl _)]
        rfl
set_option maxHeartbeats 1000000 in
theorem textOfF_any {a : Option Addr} {cap : Nat} {xs : List Nat} (w : World) (hr : FRow w a xs) (hw : Wf xs) (hl : xs.length ≤ 256) (ht : Db4 w) : Calls Tryd.prog 75 #[.slice a xs.length cap, .func (.func 76) #[] #[]] w (RS (.string (ofL (txtW (hexW xs)))) w) := by
  obtain ⟨i0, hi, hz0, hz1, hz2⟩ := info_parts (P := Tryd.prog) (e := 9) (z := .string ByteArray.empty) (size := 1) (bytes := 16) (by kernel_rfl)
  have HR := Hf.mk hr
  have HT := Hf.mk ht
  clear hr ht
  have B0 := Hb.mk (Below.refl w.heap.size w)
  by_cases h0 : xs.length = 0
  · have e : xs = [] := List.length_eq_zero_iff.1 h0
    subst e
    go_enter Tryd.func75, Tryd.ntmps75
    go_wp2
    go_ret
    exact ⟨rfl, (by repeat (first | exact Below.refl _ _ | with_reducible assumption | refine Below.drews ?_ | refine Below.drew ?_ | refine Below.alloc ?_ (by simp <;> omega) _ | refine Below.setCell ?_ (by simp <;> omega) _))⟩
  · have HD := Hf.mk (fun m (hm : m < xs.length) w ht => numberWord_any (Fl.own (wfAtN hw hm)) w ht)
    have HW := Hf.mk (hexW_size xs)
    have HL := Hf.mk (hexW_len xs)
    have HA := Hf.mk (fun m (hm : m < xs.length) => hexW_at hm)
    obtain ⟨W, hW⟩ : ∃ W, W = hexW xs := ⟨_, rfl⟩
    rw [← hW] at HW HL HA ⊢
    have HX := Hf.mk (join_mostF HW.out (by rw [HL.out]; omega) (by rw [HL.out]; exact hl))
    clear hW hw
    go_enter Tryd.func75, Tryd.ntmps75
    go_wp2_with (at_make; refine wpList_make_full _ rfl _ _ 48 rfl w.heap.size 9 i0 _ 1 Tryd.underlying48 hi hz0 hz1 .i64 .i64 _ _ xs.length rfl rfl rfl rfl (by rw [hz2]; omega) (by unfold maxLen; omega) (Nat.le_refl _) ?_; intro w0 hown0 hgrow0)
    go_loopw [16] (fun i wr => ∃ (m : Nat) (cur : List Value), m ≤ xs.length ∧ i = .int .i64 m ∧ Hf (wr.ownsRow w.heap.size 9 1 (.slice (some ⟨w.heap.size, 0, none⟩) xs.length xs.length) xs.length cur) ∧ Hf (∀ j, j < m → cur[j]? = some (.string (ofL (W.getD j [])))) ∧ Hb (Below w.heap.size w wr)) (fun i _ => xs.length - (intOf i).toNat)
    case atStart => exact ⟨0, _, by omega, rfl, ⟨hown0⟩, ⟨fun j hj => absurd hj (Nat.not_lt_zero j)⟩, ⟨(Below.refl _ _).grown hgrow0 (Nat.le_refl _) (fun k h => by cases h)⟩⟩
    case round =>
      obtain ⟨m, cur, hm, rfl, hown, hcur, hB⟩ := hrel
      by_cases hlt : m < xs.length
      · obtain ⟨p, rfl, hcell⟩ := (HR.out.below hB.out) m hlt
        have HDm := Hf.mk (HD.out m hlt)
        have hA := HA.out m hlt
        have hlen : cur.length = xs.length := by have := hown.out.1; omega
        obtain ⟨old, hold⟩ : ∃ old, cur[m]? = some old := ⟨_, List.getElem?_eq_getElem (by omega)⟩
        have hszB := hB.out.size
        generalize xs.getD m 0 = x at hcell HDm hA
        have HDD := Hf.mk (show ∀ w, Db4 w → Calls Tryd.prog 76 #[.float .f32 x] w (RS (.string (ofL (W.getD m []))) w) by rw [hA]; exact HDm.out)
        clear HDm hA
        go_wp2_with (go_at_call 76; refine (HDD.out _ (HT.out.on (by repeat (first | with_reducible refine Below.setCell ?_ (by first | omega | (simp <;> omega)) _ | with_reducible refine Below.drews ?_ | with_reducible refine Below.drew ?_ | with_reducible refine Below.alloc ?_ (by first | omega | (simp <;> omega)) _ | with_reducible refine Below.on ?_ hB.out (by first | omega | (simp <;> omega)) | with_reducible exact Below.refl _ _)))).mono ?_; rintro e w1 ⟨rfl, b1⟩; have HB1 := Hb.mk (Below.on (B := w.heap.size) (a := w) (by repeat (first | exact hB.out | refine Below.drews ?_ | refine Below.drew ?_ | refine Below.alloc ?_ (by have hq_ := hB.out.size; first | omega | (simp <;> omega)) _ | refine Below.setCell ?_ (by have hq_ := hB.out.size; first | omega | (simp <;> omega)) _)) b1 (by have hq_ := hB.out.size; first | omega | (simp <;> omega))); have HO1 := Hf.mk (cu_below hown.out b1); have hcA : w1.cell? ⟨w.heap.size, m, none⟩ = some old := (HO1.out.cellAt m (by omega)).trans hold; have hfA : w1.frozen? ⟨w.heap.size, m, none⟩ = false := HO1.out.frozenAt m; clear b1)
        go_roundw
        case rel =>
          have hst := HO1.out.stored m (.string (ofL (W.getD m [])))
          refine ⟨m + 1, _, by omega, i_ext2 (by omega), ⟨hst.1⟩, ⟨?_⟩, ⟨?_⟩⟩
          · intro j hj
            by_cases he : j = m
            · subst he; rw [List.getElem?_set_self (by omega)]
            · rw [List.getElem?_set_ne (by omega)]; exact hcur.out j (by omega)
          · exact Below.setCell HB1.out (Nat.le_refl _) _
        case measure => simp [intOf]; omega
      · obtain rfl : m = xs.length := by omega
        have hszB := hB.out.size
        have hlt := own_lt hown.out
        have KJ := Hf.mk (fun w1 (h1 : ∀ (j : Nat) x, (W.map ofL)[j]? = some x → w1.cell? ⟨w.heap.size, 0 + j, none⟩ = some (.string x)) h2 => Tryd.strings_Join w.heap.size 0 xs.length (W.map ofL) ⟨#[44]⟩ w1 h1 h2 (by rw [List.length_map, HL.out]; omega) (by rw [List.length_map, HL.out]; exact Nat.le_refl _) (by rw [join_ofL]; have := HX.out; show (Lib.join W [44]).length ≤ _; omega))
        rw [join_ofL, List.length_map, HL.out] at KJ
        have HC := Hf.mk (ofL_cell hown.out HL.out.symm (fun j hj => hcur.out j (by rw [← HL.out]; exact hj)))
        go_wp2_with (go_at_call 109; refine (KJ.out _ HC.out hlt.2).mono ?_; rintro e w1 ⟨rfl, b1⟩; have HB1 := Hb.mk (Below.on (B := w.heap.size) (a := w) (by repeat (first | exact hB.out | refine Below.drews ?_ | refine Below.drew ?_ | refine Below.alloc ?_ (by have hq_ := hB.out.size; first | omega | (simp <;> omega)) _ | refine Below.setCell ?_ (by have hq_ := hB.out.size; first | omega | (simp <;> omega)) _)) b1 (by have hq_ := hB.out.size; first | omega | (simp <;> omega))); clear b1)
        go_ret
        refine ⟨?_, (by repeat (first | with_reducible refine Below.setCell ?_ (by first | omega | (simp <;> omega)) _ | with_reducible refine Below.drews ?_ | with_reducible refine Below.drew ?_ | with_reducible refine Below.alloc ?_ (by first | omega | (simp <;> omega)) _ | with_reducible refine Below.on ?_ HB1.out (by first | omega | (simp <;> omega)) | with_reducible exact Below.refl _ _))⟩
        rw [txtW_yes (by rw [HL.out]; omega)]
        rfl
set_option maxHeartbeats 1000000 in
theorem iNumbersText_any {a : Option Addr} {cap : Nat} {xs : List Nat} (w : World) (hr : FRow w a xs) (hw : Wf xs) (_hl : xs.length ≤ 1048576) (ht : Db4 w) : Calls Tryd.prog 43 #[.slice a xs.length cap] w (RS (nfV xs) w) := by
  have B0 := Hb.mk (Below.refl w.heap.size w)
  by_cases h : xs.length ≤ 256
  · have KX := Hf.mk (fun w hr ht => textOfF_any (a := a) (cap := cap) (xs := xs) w hr hw h ht)
    have K := Hf.mk (show nfV xs = txV (ofL (txtW (hexW xs))) true by unfold nfV nfOk; rw [decide_eq_true h]; rfl)
    go_enter Tryd.func43, Tryd.ntmps43
    go_wp2_with (go_at_call 75; refine (KX.out _ (hr.below (by repeat (first | exact Below.refl _ _ | with_reducible assumption | refine Below.drews ?_ | refine Below.drew ?_ | refine Below.alloc ?_ (by simp <;> omega) _ | refine Below.setCell ?_ (by simp <;> omega) _))) (ht.on (by repeat (first | exact Below.refl _ _ | with_reducible assumption | refine Below.drews ?_ | refine Below.drew ?_ | refine Below.alloc ?_ (by simp <;> omega) _ | refine Below.setCell ?_ (by simp <;> omega) _)))).mono ?_; rintro e w1 ⟨rfl, b1⟩; have B1 := Hb.mk (Below.on (B := w.heap.size) (a := w) (by repeat (first | exact B0.out | refine Below.drews ?_ | refine Below.drew ?_ | refine Below.alloc ?_ (by have hq_ := B0.out.size; first | omega | (simp <;> omega)) _ | refine Below.setCell ?_ (by have hq_ := B0.out.size; first | omega | (simp <;> omega)) _)) b1 (by have hq_ := B0.out.size; first | omega | (simp <;> omega))); clear b1)
    go_ret2
    exact ⟨by rw [K.out]; rfl, (by repeat (first | exact B1.out | refine Below.drews ?_ | refine Below.drew ?_ | refine Below.alloc ?_ (by have hq_ := B1.out.size; first | omega | (simp <;> omega)) _ | refine Below.setCell ?_ (by have hq_ := B1.out.size; first | omega | (simp <;> omega)) _))⟩
  · have K := Hf.mk (show nfV xs = txV ⟨#[]⟩ false by unfold nfV nfOk; rw [decide_eq_false h]; rfl)
    have h65 : 256 < xs.length := by omega
    go_enter Tryd.func43, Tryd.ntmps43
    go_wp2
    go_ret2
    exact ⟨by rw [K.out]; rfl, (by repeat (first | exact Below.refl _ _ | with_reducible assumption | refine Below.drews ?_ | refine Below.drew ?_ | refine Below.alloc ?_ (by simp <;> omega) _ | refine Below.setCell ?_ (by simp <;> omega) _))⟩
end Go.Proofs.YtcgakdgfmhkpjaaDoor
