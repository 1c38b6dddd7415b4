/-
ListText: the program and the law.
-/
import Derived.Test.YtcgakdgfmhkpjaaDoorTxt
import Derived.Test.YtcgakdgfmhkpjaaDoorWDecimal
import Derived.Test.YtcgakdgfmhkpjaaDoorLst
namespace Go.Proofs.YtcgakdgfmhkpjaaDoor
open Go Go.RowKit
set_option maxRecDepth 100000

theorem join_ofL (W : List (List UInt8)) : (W.map ofL).map (·.data.toList) = W := by
  rw [List.map_map]
  exact List.map_id'' (fun l => rfl) W
theorem join_most {W : List (List UInt8)} (hB : ∀ l ∈ W, l.length ≤ 21) (h0 : 0 < W.length) (h : W.length ≤ 64) : (Lib.join W [44]).length ≤ 1408 := by
  obtain ⟨k, hk⟩ : ∃ k, W.length = k + 1 := ⟨W.length - 1, by omega⟩
  have h1 := join_size hB k (by omega)
  rw [← hk, List.take_length, hk] at h1
  omega
theorem ofL_cell {w : World} {g n cap base : Nat} {t : TypeId} {cur : List Value} {W : List (List UInt8)} (h : w.ownsRow base t 1 (.slice (some ⟨g, 0, none⟩) n cap) n cur) (hn : n = W.length) (hc : ∀ j, j < W.length → cur[j]? = some (.string (ofL (W.getD j [])))) : ∀ (j : Nat) x, (W.map ofL)[j]? = some x → w.cell? ⟨g, 0 + j, none⟩ = some (.string x) := by
  intro j x hx
  have hj : j < W.length := by
    by_cases e : j < W.length
    · exact e
    · rw [List.getElem?_eq_none (by simp; omega)] at hx; cases hx
  rw [Nat.zero_add, h.cellAt j (by omega), hc j hj]
  rw [List.getElem?_map, List.getElem?_eq_getElem hj] at hx
  obtain rfl := Option.some.inj hx
  simp [List.getD, List.getElem?_eq_getElem hj]
abbrev txV (s : ByteArray) (ok : Bool) : Value := .tuple #[.string s, .bool ok]
def ltV (xs : List Int) : Value := txV (if liOk xs then ofL (txtW (decW xs)) else ⟨#[]⟩) (liOk xs)
theorem liOk_all {xs : List Int} (h : liOk xs = true) : xs.all inR = true ∧ xs.length ≤ 64 := by
  unfold liOk at h
  rw [Bool.and_eq_true, decide_eq_true_eq] at h
  exact h
set_option maxHeartbeats 1000000 in
theorem textOf_any {a : Option Addr} {cap : Nat} {xs : List Int} (w : World) (hr : IRow w a xs) (hok : xs.all inR = true) (hl : xs.length ≤ 64) (ht : P10 w) : Calls Tryd.prog 89 #[.slice a xs.length cap, .func (.func 90) #[] #[]] w (RS (.string (ofL (txtW (decW xs)))) w) := by
  obtain ⟨i0, hi, hz0, hz1, hz2⟩ := info_parts (P := Tryd.prog) (e := 9) (z := .string ByteArray.empty) (size := 1) (bytes := 16) (by kernel_rfl)
  have HR := Hf.mk hr
  have HT := Hf.mk ht
  clear hr ht
  have B0 := Hb.mk (Below.refl w.heap.size w)
  by_cases h0 : xs.length = 0
  · have e : xs = [] := List.length_eq_zero_iff.1 h0
    subst e
    go_enter Tryd.func89, Tryd.ntmps89
    go_wp2
    go_ret
    exact ⟨rfl, (by repeat (first | exact Below.refl _ _ | with_reducible assumption | refine Below.drews ?_ | refine Below.drew ?_ | refine Below.alloc ?_ (by simp <;> omega) _ | refine Below.setCell ?_ (by simp <;> omega) _))⟩
  · have HD := Hf.mk (fun m (hm : m < xs.length) w ht => iDec_any (n := xs.getD m 0) (by have := inR_of hok hm; omega) (by have := inR_of hok hm; omega) w ht)
    have HW := Hf.mk (decW_size hok)
    have HL := Hf.mk (decW_len xs)
    have HA := Hf.mk (fun m (hm : m < xs.length) => decW_at hm)
    obtain ⟨W, hW⟩ : ∃ W, W = decW xs := ⟨_, rfl⟩
    rw [← hW] at HW HL HA ⊢
    have HX := Hf.mk (join_most HW.out (by rw [HL.out]; omega) (by rw [HL.out]; exact hl))
    clear hW hok
    go_enter Tryd.func89, Tryd.ntmps89
    go_wp2_with (at_make; refine wpList_make_full _ rfl _ _ 48 rfl w.heap.size 9 i0 _ 1 Tryd.underlying48 hi hz0 hz1 .i64 .i64 _ _ xs.length rfl rfl rfl rfl (by rw [hz2]; omega) (by unfold maxLen; omega) (Nat.le_refl _) ?_; intro w0 hown0 hgrow0)
    go_loopw [16] (fun i wr => ∃ (m : Nat) (cur : List Value), m ≤ xs.length ∧ i = .int .i64 m ∧ Hf (wr.ownsRow w.heap.size 9 1 (.slice (some ⟨w.heap.size, 0, none⟩) xs.length xs.length) xs.length cur) ∧ Hf (∀ j, j < m → cur[j]? = some (.string (ofL (W.getD j [])))) ∧ Hb (Below w.heap.size w wr)) (fun i _ => xs.length - (intOf i).toNat)
    case atStart => exact ⟨0, _, by omega, rfl, ⟨hown0⟩, ⟨fun j hj => absurd hj (Nat.not_lt_zero j)⟩, ⟨(Below.refl _ _).grown hgrow0 (Nat.le_refl _) (fun k h => by cases h)⟩⟩
    case round =>
      obtain ⟨m, cur, hm, rfl, hown, hcur, hB⟩ := hrel
      by_cases hlt : m < xs.length
      · obtain ⟨p, rfl, hcell⟩ := (HR.out.below hB.out) m hlt
        have HDm := Hf.mk (HD.out m hlt)
        have hA := HA.out m hlt
        have hlen : cur.length = xs.length := by have := hown.out.1; omega
        obtain ⟨old, hold⟩ : ∃ old, cur[m]? = some old := ⟨_, List.getElem?_eq_getElem (by omega)⟩
        have hszB := hB.out.size
        generalize xs.getD m 0 = x at hcell HDm hA
        have HDD := Hf.mk (show ∀ w, P10 w → Calls Tryd.prog 90 #[.int .i64 x] w (RS (.string (ofL (W.getD m []))) w) by rw [hA]; exact HDm.out)
        clear HDm hA
        go_wp2_with (go_at_call 90; refine (HDD.out _ (HT.out.on (by repeat (first | with_reducible refine Below.setCell ?_ (by first | omega | (simp <;> omega)) _ | with_reducible refine Below.drews ?_ | with_reducible refine Below.drew ?_ | with_reducible refine Below.alloc ?_ (by first | omega | (simp <;> omega)) _ | with_reducible refine Below.on ?_ hB.out (by first | omega | (simp <;> omega)) | with_reducible exact Below.refl _ _)))).mono ?_; rintro e w1 ⟨rfl, b1⟩; have HB1 := Hb.mk (Below.on (B := w.heap.size) (a := w) (by repeat (first | exact hB.out | refine Below.drews ?_ | refine Below.drew ?_ | refine Below.alloc ?_ (by have hq_ := hB.out.size; first | omega | (simp <;> omega)) _ | refine Below.setCell ?_ (by have hq_ := hB.out.size; first | omega | (simp <;> omega)) _)) b1 (by have hq_ := hB.out.size; first | omega | (simp <;> omega))); have HO1 := Hf.mk (cu_below hown.out b1); have hcA : w1.cell? ⟨w.heap.size, m, none⟩ = some old := (HO1.out.cellAt m (by omega)).trans hold; have hfA : w1.frozen? ⟨w.heap.size, m, none⟩ = false := HO1.out.frozenAt m; clear b1)
        go_roundw
        case rel =>
          have hst := HO1.out.stored m (.string (ofL (W.getD m [])))
          refine ⟨m + 1, _, by omega, i_ext2 (by omega), ⟨hst.1⟩, ⟨?_⟩, ⟨?_⟩⟩
          · intro j hj
            by_cases he : j = m
            · subst he; rw [List.getElem?_set_self (by omega)]
            · rw [List.getElem?_set_ne (by omega)]; exact hcur.out j (by omega)
          · exact Below.setCell HB1.out (Nat.le_refl _) _
        case measure => simp [intOf]; omega
      · obtain rfl : m = xs.length := by omega
        have hszB := hB.out.size
        have hlt := own_lt hown.out
        have KJ := Hf.mk (fun w1 (h1 : ∀ (j : Nat) x, (W.map ofL)[j]? = some x → w1.cell? ⟨w.heap.size, 0 + j, none⟩ = some (.string x)) h2 => Tryd.strings_Join w.heap.size 0 xs.length (W.map ofL) ⟨#[44]⟩ w1 h1 h2 (by rw [List.length_map, HL.out]; omega) (by rw [List.length_map, HL.out]; exact Nat.le_refl _) (by rw [join_ofL]; have := HX.out; show (Lib.join W [44]).length ≤ _; omega))
        rw [join_ofL, List.length_map, HL.out] at KJ
        have HC := Hf.mk (ofL_cell hown.out HL.out.symm (fun j hj => hcur.out j (by rw [← HL.out]; exact hj)))
        go_wp2_with (go_at_call 109; refine (KJ.out _ HC.out hlt.2).mono ?_; rintro e w1 ⟨rfl, b1⟩; have HB1 := Hb.mk (Below.on (B := w.heap.size) (a := w) (by repeat (first | exact hB.out | refine Below.drews ?_ | refine Below.drew ?_ | refine Below.alloc ?_ (by have hq_ := hB.out.size; first | omega | (simp <;> omega)) _ | refine Below.setCell ?_ (by have hq_ := hB.out.size; first | omega | (simp <;> omega)) _)) b1 (by have hq_ := hB.out.size; first | omega | (simp <;> omega))); clear b1)
        go_ret
        refine ⟨?_, (by repeat (first | with_reducible refine Below.setCell ?_ (by first | omega | (simp <;> omega)) _ | with_reducible refine Below.drews ?_ | with_reducible refine Below.drew ?_ | with_reducible refine Below.alloc ?_ (by first | omega | (simp <;> omega)) _ | with_reducible refine Below.on ?_ HB1.out (by first | omega | (simp <;> omega)) | with_reducible exact Below.refl _ _))⟩
        rw [txtW_yes (by rw [HL.out]; omega)]
        rfl
set_option maxHeartbeats 1000000 in
theorem iListText_any {a : Option Addr} {cap : Nat} {xs : List Int} (w : World) (hr : IRow w a xs) (hl : xs.length ≤ 1048576) (ht : P10 w) : Calls Tryd.prog 53 #[.slice a xs.length cap] w (RS (ltV xs) w) := by
  have HR := Hf.mk hr
  have HT := Hf.mk ht
  clear hr ht
  have B0 := Hb.mk (Below.refl w.heap.size w)
  by_cases h64 : xs.length ≤ 64
  · go_enter Tryd.func53, Tryd.ntmps53
    go_wp2
    go_loopw [11] (fun i wr => ∃ m : Nat, m ≤ xs.length ∧ i = .int .i64 m ∧ Hf (upR xs m) ∧ Drew w wr) (fun i _ => xs.length - (intOf i).toNat)
    case atStart => exact ⟨0, by omega, rfl, ⟨fun j hj => absurd hj (Nat.not_lt_zero j)⟩, (by repeat (first | exact Drew.refl _ | refine Drew.more ?_))⟩
    case round =>
      obtain ⟨m, hm, rfl, hU, q, rfl⟩ := hrel
      by_cases hlt : m < xs.length
      · obtain ⟨p, rfl, hcell⟩ := (HR.out.drew q) m hlt
        have HY := Hf.mk (fun h => hU.out.up (m := m) h)
        have HN := Hf.mk (fun h => liOk_no (xs := xs) hlt h)
        generalize xs.getD m 0 = x at hcell HY HN
        by_cases h1 : x < -1000000000000000
        · have K := Hf.mk (show liOk xs = false by unfold liOk; rw [HN.out (by unfold inR; exact decide_eq_false (by omega))]; rfl)
          clear HY HN
          go_wp2
          go_ret2
          exact ⟨by unfold ltV; rw [K.out]; rfl, (by repeat (first | exact Below.refl _ _ | with_reducible assumption | refine Below.drews ?_ | refine Below.drew ?_ | refine Below.alloc ?_ (by simp <;> omega) _ | refine Below.setCell ?_ (by simp <;> omega) _))⟩
        · by_cases h2 : 1000000000000000 < x
          · have K := Hf.mk (show liOk xs = false by unfold liOk; rw [HN.out (by unfold inR; exact decide_eq_false (by omega))]; rfl)
            clear HY HN
            go_wp2
            go_ret2
            exact ⟨by unfold ltV; rw [K.out]; rfl, (by repeat (first | exact Below.refl _ _ | with_reducible assumption | refine Below.drews ?_ | refine Below.drew ?_ | refine Below.alloc ?_ (by simp <;> omega) _ | refine Below.setCell ?_ (by simp <;> omega) _))⟩
          · have K := Hf.mk (HY.out (by unfold inR; exact decide_eq_true (by omega)))
            clear HY HN
            go_wp2
            go_roundw
            case rel => exact ⟨m + 1, by omega, i_ext2 (by omega), K, (by repeat (first | exact Drew.refl _ | refine Drew.more ?_))⟩
            case measure => simp [intOf]; omega
      · obtain rfl : m = xs.length := by omega
        have K := Hf.mk (liOk_yes hU.out)
        have KX := Hf.mk (fun w hr ht => textOf_any (a := a) (cap := cap) (xs := xs) w hr K.out h64 ht)
        have KB := Hf.mk (show liOk xs = true by unfold liOk; rw [K.out, decide_eq_true h64]; rfl)
        go_wp2_with (go_at_call 89; refine (KX.out _ (HR.out.drew q) (HT.out.on (by repeat (first | exact Below.refl _ _ | with_reducible assumption | refine Below.drews ?_ | refine Below.drew ?_ | refine Below.alloc ?_ (by simp <;> omega) _ | refine Below.setCell ?_ (by simp <;> omega) _)))).mono ?_; rintro e w1 ⟨rfl, b1⟩; have B1 := Hb.mk (Below.on (B := w.heap.size) (a := w) (by repeat (first | exact B0.out | refine Below.drews ?_ | refine Below.drew ?_ | refine Below.alloc ?_ (by have hq_ := B0.out.size; first | omega | (simp <;> omega)) _ | refine Below.setCell ?_ (by have hq_ := B0.out.size; first | omega | (simp <;> omega)) _)) b1 (by have hq_ := B0.out.size; first | omega | (simp <;> omega))); clear b1)
        go_ret2
        exact ⟨by unfold ltV; rw [KB.out]; rfl, (by repeat (first | exact B1.out | refine Below.drews ?_ | refine Below.drew ?_ | refine Below.alloc ?_ (by have hq_ := B1.out.size; first | omega | (simp <;> omega)) _ | refine Below.setCell ?_ (by have hq_ := B1.out.size; first | omega | (simp <;> omega)) _))⟩
  · have K := Hf.mk (show liOk xs = false by unfold liOk; rw [decide_eq_false h64]; simp)
    have h65 : 64 < xs.length := by omega
    go_enter Tryd.func53, Tryd.ntmps53
    go_wp2
    go_ret2
    exact ⟨by unfold ltV; rw [K.out]; rfl, (by repeat (first | exact Below.refl _ _ | with_reducible assumption | refine Below.drews ?_ | refine Below.drew ?_ | refine Below.alloc ?_ (by simp <;> omega) _ | refine Below.setCell ?_ (by simp <;> omega) _))⟩
end Go.Proofs.YtcgakdgfmhkpjaaDoor
