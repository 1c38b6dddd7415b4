/-
GridText: both sides.
-/
import Derived.Test.YtcgakdgfmhkpjaaDoorNtx
import Derived.Test.YtcgakdgfmhkpjaaDoorGma
import Derived.Deep.RegionWith
namespace Go.Proofs.YtcgakdgfmhkpjaaDoor
open Go Go.RowKit
set_option maxRecDepth 100000

theorem irow_two (w : World) (x y : Int) (t : TypeId) : IRow (w.alloc (.cells #[.int .i64 x, .int .i64 y] t)) (some ⟨w.heap.size, 0, none⟩) [x, y] := by
  intro i hi
  have hi2 : i < 2 := hi
  refine ⟨_, rfl, ?_⟩
  rw [add_at]
  match i, hi2 with
  | 0, _ => simp [go_sem]
  | 1, _ => simp [go_sem]
/-- The text of a grid. -/
def gtL (wd hg : Int) (xs : List Nat) : List UInt8 := txtW (decW [wd, hg]) ++ (59 :: txtW (hexW xs))
def gtV (wd hg : Int) (xs : List Nat) : Value := txV (if gridB wd hg xs.length (hF xs) then ofL (gtL wd hg xs) else ⟨#[]⟩) (gridB wd hg xs.length (hF xs))
theorem side_in {wd hg : Int} {n : Nat} {f : Nat → Nat} (h : gridB wd hg n f = true) : (2 ≤ wd ∧ wd ≤ 16 ∧ 2 ≤ hg ∧ hg ≤ 16) ∧ n ≤ 256 ∧ 0 < n := by
  unfold gridB at h
  rw [Bool.and_eq_true, Bool.and_eq_true] at h
  have h1 : 2 ≤ wd ∧ wd ≤ 16 ∧ 2 ≤ hg ∧ hg ≤ 16 := by have := h.1; unfold sideB at this; exact of_decide_eq_true this
  have h2 : (n : Int) = wd * hg := of_decide_eq_true h.2.1
  have b1 : wd * hg ≤ 256 := by have := Int.mul_le_mul h1.2.1 h1.2.2.2 (by omega) (by omega); simpa using this
  have b2 : 4 ≤ wd * hg := by have := Int.mul_le_mul h1.1 h1.2.2.1 (by omega) (by omega); simpa using this
  exact ⟨h1, by omega, by omega⟩
theorem two_in {wd hg : Int} (h : 2 ≤ wd ∧ wd ≤ 16 ∧ 2 ≤ hg ∧ hg ≤ 16) : [wd, hg].all inR = true ∧ liOk [wd, hg] = true := by
  have h1 : inR wd = true := by unfold inR; exact decide_eq_true (by omega)
  have h2 : inR hg = true := by unfold inR; exact decide_eq_true (by omega)
  have h3 : [wd, hg].all inR = true := by simp [h1, h2]
  exact ⟨h3, by unfold liOk; rw [h3]; rfl⟩
theorem txt_two {wd hg : Int} (h : 2 ≤ wd ∧ wd ≤ 16 ∧ 2 ≤ hg ∧ hg ≤ 16) : (txtW (decW [wd, hg])).length ≤ 1408 := by
  rw [txtW_yes (by rw [decW_len]; exact Nat.zero_lt_succ _)]
  exact join_most (decW_size (two_in h).1) (by rw [decW_len]; exact Nat.zero_lt_succ _) (by rw [decW_len]; show 2 ≤ 64; decide)
theorem txt_hex {xs : List Nat} (h0 : 0 < xs.length) (h : xs.length ≤ 256) : (txtW (hexW xs)).length ≤ 5632 := by
  rw [txtW_yes (by rw [hexW_len]; exact h0)]
  exact join_mostF (hexW_size xs) (by rw [hexW_len]; exact h0) (by rw [hexW_len]; exact h)
set_option maxHeartbeats 4000000 in
theorem l08Grid_any {b g k : Nat} {wd hg : Int} {xs : List Nat} (w : World) (c0 : w.cell? ⟨b, 0, none⟩ = some (.int .i64 wd)) (c1 : w.cell? ⟨b, 1, none⟩ = some (.int .i64 hg)) (c2 : w.cell? ⟨b, 2, none⟩ = some (sl g xs.length k)) (hr : FRow w (some ⟨g, 0, none⟩) xs) (hw : Wf xs) (hs : 2 ≤ wd ∧ wd ≤ 16 ∧ 2 ≤ hg ∧ hg ≤ 16) (h0 : 0 < xs.length) (hl : xs.length ≤ 256) : Calls Tryd.prog 50 #[.pointer (some ⟨b, 0, none⟩)] w (RS (.string (ofL (gtL wd hg xs))) w) := by
  have KT := Hf.mk (fun (gl : Nat) w hr => l01Text_any (a := some ⟨gl, 0, none⟩) (cap := 2) (xs := [wd, hg]) w hr (two_in hs).1 (by simp))
  have KN := Hf.mk (fun w hr => l01NText_any (a := some ⟨g, 0, none⟩) (cap := k) (xs := xs) w hr hw hl)
  have hT := txt_two hs
  have hN := txt_hex h0 hl
  have K := Hf.mk (show ofL (txtW (decW [wd, hg])) ++ (⟨#[59]⟩ : ByteArray) ++ ofL (txtW (hexW xs)) = ofL (gtL wd hg xs) by rw [show (⟨#[59]⟩ : ByteArray) = ofL [59] from rfl, ofL_app, ofL_app]; unfold gtL; rw [List.append_assoc]; rfl)
  obtain ⟨A, hA⟩ : ∃ A, A = ofL (txtW (decW [wd, hg])) := ⟨_, rfl⟩
  obtain ⟨D, hD⟩ : ∃ D, D = ofL (txtW (hexW xs)) := ⟨_, rfl⟩
  have hAs : A.size ≤ 1408 := by rw [hA, ofL_size]; exact hT
  have hDs : D.size ≤ 5632 := by rw [hD, ofL_size]; exact hN
  rw [← hA] at KT K
  rw [← hD] at KN K
  have HR := Hf.mk hr
  have lb : b < w.heap.size := by have := block_lt_of_cell c0; simpa using this
  have hadd1 : ∀ w, (Op.stringOp .add A ⟨#[59]⟩).run Tryd.prog w = .ok (.string (A ++ ⟨#[59]⟩)) w := fun w => run_string_add_sum w A ⟨#[59]⟩ (by have : (⟨#[59]⟩ : ByteArray).size = 1 := rfl; omega)
  have hadd2 : ∀ w, (Op.stringOp .add (A ++ ⟨#[59]⟩) D).run Tryd.prog w = .ok (.string (A ++ ⟨#[59]⟩ ++ D)) w := fun w => run_string_add_sum w (A ++ ⟨#[59]⟩) D (by rw [ByteArray.size_append]; have : (⟨#[59]⟩ : ByteArray).size = 1 := rfl; omega)
  clear hA hD hT hN hr hw
  have B := Hb.mk (Below.refl w.heap.size w)
  go_enter Tryd.func50, Tryd.ntmps50
  go_wp2
  go_region_with (first
    | (go_at_call 84; refine (KT.out _ _ (by first | exact irow_two _ _ _ _ | (refine IRow.below (irow_two _ _ _ _) ?_; assumption))).mono ?_; rintro e w1 ⟨rfl, b1⟩; replace B := Hb.mk (Below.on (B := w.heap.size) (a := w) (by repeat (first | exact B.out | refine Below.drews ?_ | refine Below.drew ?_ | refine Below.alloc ?_ (by have hq_ := B.out.size; first | omega | (simp <;> omega)) _ | refine Below.setCell ?_ (by have hq_ := B.out.size; first | omega | (simp <;> omega)) _)) b1 (by have hq_ := B.out.size; first | omega | (simp <;> omega))); have d0 := Below.keep B.out c0; have d1 := Below.keep B.out c1; have d2 := Below.keep B.out c2)
    | (go_at_call 73; refine (KN.out _ (HR.out.below (by repeat (first | exact B.out | refine Below.drews ?_ | refine Below.drew ?_ | refine Below.alloc ?_ (by have hq_ := B.out.size; first | omega | (simp <;> omega)) _ | refine Below.setCell ?_ (by have hq_ := B.out.size; first | omega | (simp <;> omega)) _)))).mono ?_; rintro e w2 ⟨rfl, b2⟩; replace B := Hb.mk (Below.on (B := w.heap.size) (a := w) (by repeat (first | exact B.out | refine Below.drews ?_ | refine Below.drew ?_ | refine Below.alloc ?_ (by have hq_ := B.out.size; first | omega | (simp <;> omega)) _ | refine Below.setCell ?_ (by have hq_ := B.out.size; first | omega | (simp <;> omega)) _)) b2 (by have hq_ := B.out.size; first | omega | (simp <;> omega))); have e0 := Below.keep B.out c0; have e1 := Below.keep B.out c1; have e2 := Below.keep B.out c2))
  all_goals go_wp2
  all_goals go_ret
  all_goals exact ⟨by rw [← K.out]; rfl, (by repeat (first | exact B.out | refine Below.drews ?_ | refine Below.drew ?_ | refine Below.alloc ?_ (by have hq_ := B.out.size; first | omega | (simp <;> omega)) _ | refine Below.setCell ?_ (by have hq_ := B.out.size; first | omega | (simp <;> omega)) _))⟩
set_option maxHeartbeats 1000000 in
theorem sGridText_any {g k : Nat} {wd hg : Int} {xs : List Nat} (w : World) (hr : FRow w (some ⟨g, 0, none⟩) xs) (hw : Wf xs) (hl : xs.length ≤ 1048576) : Calls Tryd.prog 20 #[gd wd hg (sl g xs.length k)] w (RS (gtV wd hg xs) w) := by
  have KI := Hf.mk (fun (b : Nat) w c0 c1 c2 hr => l06Is_any (b := b) (g := g) (k := k) (wd := wd) (hg := hg) w c0 c1 c2 (Told.of hr hw) hl)
  rw [show (fun j => nrm .f32 (xs.getD j 0)) = hF xs from rfl] at KI
  have HR := Hf.mk hr
  have B0 := Hb.mk (Below.refl w.heap.size w)
  cases hb : gridB wd hg xs.length (hF xs)
  · rw [hb] at KI
    have K := Hf.mk (show gtV wd hg xs = txV ⟨#[]⟩ false by unfold gtV; rw [hb]; rfl)
    clear hr hw hb
    go_enter Tryd.func20, Tryd.ntmps20
    go_wp2_with (go_at_call 49; refine (KI.out _ _ (by simp [go_sem]) (by simp [go_sem]) (by simp [go_sem]) (HR.out.below (by repeat (first | exact Below.refl _ _ | with_reducible assumption | refine Below.drews ?_ | refine Below.drew ?_ | refine Below.alloc ?_ (by simp <;> omega) _ | refine Below.setCell ?_ (by simp <;> omega) _)))).mono ?_; rintro e w1 ⟨rfl, q1, rfl⟩)
    go_ret2
    exact ⟨by rw [K.out]; rfl, (by repeat (first | exact Below.refl _ _ | with_reducible assumption | refine Below.drews ?_ | refine Below.drew ?_ | refine Below.alloc ?_ (by simp <;> omega) _ | refine Below.setCell ?_ (by simp <;> omega) _))⟩
  · rw [hb] at KI
    have K := Hf.mk (show gtV wd hg xs = txV (ofL (gtL wd hg xs)) true by unfold gtV; rw [hb]; rfl)
    obtain ⟨s1, s2, s3⟩ := side_in hb
    have KG := Hf.mk (fun (b : Nat) w c0 c1 c2 hr => l08Grid_any (b := b) (g := g) (k := k) (wd := wd) (hg := hg) (xs := xs) w c0 c1 c2 hr hw s1 s3 s2)
    clear hr hw hb s1 s2 s3
    go_enter Tryd.func20, Tryd.ntmps20
    go_wp2_with (first | (go_at_call 49; refine (KI.out _ _ (by simp [go_sem]) (by simp [go_sem]) (by simp [go_sem]) (HR.out.below (by repeat (first | exact Below.refl _ _ | with_reducible assumption | refine Below.drews ?_ | refine Below.drew ?_ | refine Below.alloc ?_ (by simp <;> omega) _ | refine Below.setCell ?_ (by simp <;> omega) _)))).mono ?_; rintro e w1 ⟨rfl, q1, rfl⟩) | (go_at_call 50; refine (KG.out _ _ (by simp [go_sem]) (by simp [go_sem]) (by simp [go_sem]) (HR.out.below (by repeat (first | exact Below.refl _ _ | with_reducible assumption | refine Below.drews ?_ | refine Below.drew ?_ | refine Below.alloc ?_ (by simp <;> omega) _ | refine Below.setCell ?_ (by simp <;> omega) _)))).mono ?_; rintro e w2 ⟨rfl, b2⟩; have B2 := Hb.mk (Below.on (B := w.heap.size) (a := w) (by repeat (first | exact B0.out | refine Below.drews ?_ | refine Below.drew ?_ | refine Below.alloc ?_ (by have hq_ := B0.out.size; first | omega | (simp <;> omega)) _ | refine Below.setCell ?_ (by have hq_ := B0.out.size; first | omega | (simp <;> omega)) _)) b2 (by have hq_ := B0.out.size; first | omega | (simp <;> omega))); clear b2))
    go_ret2
    exact ⟨by rw [K.out]; rfl, (by repeat (first | exact B2.out | refine Below.drews ?_ | refine Below.drew ?_ | refine Below.alloc ?_ (by have hq_ := B2.out.size; first | omega | (simp <;> omega)) _ | refine Below.setCell ?_ (by have hq_ := B2.out.size; first | omega | (simp <;> omega)) _))⟩
set_option maxHeartbeats 2000000 in
theorem iGridText_any {g k : Nat} {wd hg : Int} {xs : List Nat} (w : World) (hr : FRow w (some ⟨g, 0, none⟩) xs) (hw : Wf xs) (hl : xs.length ≤ 1048576) (ht : P10 w) (hd : Db4 w) : Calls Tryd.prog 22 #[gd wd hg (sl g xs.length k)] w (RS (gtV wd hg xs) w) := by
  have KI := Hf.mk (fun w hr => iValid_any (g := g) (k := k) (wd := wd) (hg := hg) w (Told.of hr hw) hl)
  rw [show (fun j => nrm .f32 (xs.getD j 0)) = hF xs from rfl] at KI
  have HR := Hf.mk hr
  have HT := Hf.mk ht
  have HD := Hf.mk hd
  have B0 := Hb.mk (Below.refl w.heap.size w)
  cases hb : gridB wd hg xs.length (hF xs)
  · rw [hb] at KI
    have K := Hf.mk (show gtV wd hg xs = txV ⟨#[]⟩ false by unfold gtV; rw [hb]; rfl)
    clear hr hw hb ht hd
    go_enter Tryd.func22, Tryd.ntmps22
    go_wp2_with (go_at_call 52; refine (KI.out _ (HR.out.below (by repeat (first | exact Below.refl _ _ | with_reducible assumption | refine Below.drews ?_ | refine Below.drew ?_ | refine Below.alloc ?_ (by simp <;> omega) _ | refine Below.setCell ?_ (by simp <;> omega) _)))).mono ?_; rintro e w1 ⟨rfl, b1⟩; have B1 := Hb.mk (Below.on (B := w.heap.size) (a := w) (by repeat (first | exact B0.out | refine Below.drews ?_ | refine Below.drew ?_ | refine Below.alloc ?_ (by have hq_ := B0.out.size; first | omega | (simp <;> omega)) _ | refine Below.setCell ?_ (by have hq_ := B0.out.size; first | omega | (simp <;> omega)) _)) b1 (by have hq_ := B0.out.size; first | omega | (simp <;> omega))); clear b1)
    go_ret2
    exact ⟨by rw [K.out]; rfl, (by repeat (first | exact B1.out | refine Below.drews ?_ | refine Below.drew ?_ | refine Below.alloc ?_ (by have hq_ := B1.out.size; first | omega | (simp <;> omega)) _ | refine Below.setCell ?_ (by have hq_ := B1.out.size; first | omega | (simp <;> omega)) _))⟩
  · rw [hb] at KI
    have K := Hf.mk (show gtV wd hg xs = txV (ofL (gtL wd hg xs)) true by unfold gtV; rw [hb]; rfl)
    obtain ⟨s1, s2, s3⟩ := side_in hb
    have hT := txt_two s1
    have hN := txt_hex s3 s2
    have KT := Hf.mk (fun (gl : Nat) w hr ht => iListText_any (a := some ⟨gl, 0, none⟩) (cap := 2) (xs := [wd, hg]) w hr (by simp) ht)
    rw [show ltV [wd, hg] = txV (ofL (txtW (decW [wd, hg]))) true by unfold ltV; rw [(two_in s1).2]; rfl] at KT
    have KN := Hf.mk (fun w hr hd => iNumbersText_any (a := some ⟨g, 0, none⟩) (cap := k) (xs := xs) w hr hw hl hd)
    rw [show nfV xs = txV (ofL (txtW (hexW xs))) true by unfold nfV nfOk; rw [decide_eq_true s2]; rfl] at KN
    have KS := Hf.mk (show ofL (txtW (decW [wd, hg])) ++ (⟨#[59]⟩ : ByteArray) ++ ofL (txtW (hexW xs)) = ofL (gtL wd hg xs) by rw [show (⟨#[59]⟩ : ByteArray) = ofL [59] from rfl, ofL_app, ofL_app]; unfold gtL; rw [List.append_assoc]; rfl)
    obtain ⟨A, hA⟩ : ∃ A, A = ofL (txtW (decW [wd, hg])) := ⟨_, rfl⟩
    obtain ⟨D, hD⟩ : ∃ D, D = ofL (txtW (hexW xs)) := ⟨_, rfl⟩
    have hAs : A.size ≤ 1408 := by rw [hA, ofL_size]; exact hT
    have hDs : D.size ≤ 5632 := by rw [hD, ofL_size]; exact hN
    rw [← hA] at KT KS
    rw [← hD] at KN KS
    have hadd1 : ∀ w, (Op.stringOp .add A ⟨#[59]⟩).run Tryd.prog w = .ok (.string (A ++ ⟨#[59]⟩)) w := fun w => run_string_add_sum w A ⟨#[59]⟩ (by have : (⟨#[59]⟩ : ByteArray).size = 1 := rfl; omega)
    have hadd2 : ∀ w, (Op.stringOp .add (A ++ ⟨#[59]⟩) D).run Tryd.prog w = .ok (.string (A ++ ⟨#[59]⟩ ++ D)) w := fun w => run_string_add_sum w (A ++ ⟨#[59]⟩) D (by rw [ByteArray.size_append]; have : (⟨#[59]⟩ : ByteArray).size = 1 := rfl; omega)
    clear hr hw hb s1 s2 s3 hT hN hA hD ht hd
    go_enter Tryd.func22, Tryd.ntmps22
    go_wp2_with (first
      | (go_at_call 52; refine (KI.out _ (HR.out.below (by repeat (first | exact Below.refl _ _ | with_reducible assumption | refine Below.drews ?_ | refine Below.drew ?_ | refine Below.alloc ?_ (by simp <;> omega) _ | refine Below.setCell ?_ (by simp <;> omega) _)))).mono ?_; rintro e w1 ⟨rfl, b1⟩; have B1 := Hb.mk (Below.on (B := w.heap.size) (a := w) (by repeat (first | exact B0.out | refine Below.drews ?_ | refine Below.drew ?_ | refine Below.alloc ?_ (by have hq_ := B0.out.size; first | omega | (simp <;> omega)) _ | refine Below.setCell ?_ (by have hq_ := B0.out.size; first | omega | (simp <;> omega)) _)) b1 (by have hq_ := B0.out.size; first | omega | (simp <;> omega))); have p0 := Hb.mk (At.keep b1 (p := ⟨(w.heap.size), 0, none⟩) (v := .int .i64 wd) (by simp [go_sem]) (by simp [go_sem])); obtain ⟨p0c, p0z, p0l⟩ := p0.out; have p1 := Hb.mk (At.keep b1 (p := ⟨(w.heap.size), 1, none⟩) (v := .int .i64 hg) (by simp [go_sem]) (by simp [go_sem])); obtain ⟨p1c, p1z, p1l⟩ := p1.out; have p2 := Hb.mk (At.keep b1 (p := ⟨(w.heap.size), 2, none⟩) (v := sl g xs.length k) (by simp [go_sem]) (by simp [go_sem])); obtain ⟨p2c, p2z, p2l⟩ := p2.out; clear b1)
      | (go_at_call 53; refine (KT.out _ _ (irow_two _ _ _ _) (HT.out.on (by repeat (first | with_reducible refine Below.setCell ?_ (by first | omega | (simp <;> omega)) _ | with_reducible refine Below.drews ?_ | with_reducible refine Below.drew ?_ | with_reducible refine Below.alloc ?_ (by first | omega | (simp <;> omega)) _ | with_reducible exact B1.out | with_reducible exact Below.refl _ _)))).mono ?_; rintro e w2 ⟨rfl, b2⟩; have B2 := Hb.mk (Below.on (B := w.heap.size) (a := w) (by repeat (first | exact B1.out | refine Below.drews ?_ | refine Below.drew ?_ | refine Below.alloc ?_ (by have hq_ := B1.out.size; first | omega | (simp <;> omega)) _ | refine Below.setCell ?_ (by have hq_ := B1.out.size; first | omega | (simp <;> omega)) _)) b2 (by have hq_ := B1.out.size; first | omega | (simp <;> omega))); have p0 := Hb.mk (At.re p0.out b2 (by first | exact p0c | simp [go_sem, p0c, p0l]) (by first | exact p0z | simp [go_sem, p0z, p0l])); obtain ⟨p0c, p0z, p0l⟩ := p0.out; have p1 := Hb.mk (At.re p1.out b2 (by first | exact p1c | simp [go_sem, p1c, p1l]) (by first | exact p1z | simp [go_sem, p1z, p1l])); obtain ⟨p1c, p1z, p1l⟩ := p1.out; have p2 := Hb.mk (At.re p2.out b2 (by first | exact p2c | simp [go_sem, p2c, p2l]) (by first | exact p2z | simp [go_sem, p2z, p2l])); obtain ⟨p2c, p2z, p2l⟩ := p2.out; clear b2)
      | (go_at_call 43; refine (KN.out _ (HR.out.below (by repeat (first | exact B2.out | refine Below.drews ?_ | refine Below.drew ?_ | refine Below.alloc ?_ (by have hq_ := B2.out.size; first | omega | (simp <;> omega)) _ | refine Below.setCell ?_ (by have hq_ := B2.out.size; first | omega | (simp <;> omega)) _))) (HD.out.on (by repeat (first | with_reducible refine Below.setCell ?_ (by first | omega | (simp <;> omega)) _ | with_reducible refine Below.drews ?_ | with_reducible refine Below.drew ?_ | with_reducible refine Below.alloc ?_ (by first | omega | (simp <;> omega)) _ | with_reducible exact B2.out | with_reducible exact Below.refl _ _)))).mono ?_; rintro e w3 ⟨rfl, b3⟩; have B3 := Hb.mk (Below.on (B := w.heap.size) (a := w) (by repeat (first | exact B2.out | refine Below.drews ?_ | refine Below.drew ?_ | refine Below.alloc ?_ (by have hq_ := B2.out.size; first | omega | (simp <;> omega)) _ | refine Below.setCell ?_ (by have hq_ := B2.out.size; first | omega | (simp <;> omega)) _)) b3 (by have hq_ := B2.out.size; first | omega | (simp <;> omega))); clear b3))
    go_ret2
    exact ⟨by rw [K.out, ← KS.out]; rfl, (by repeat (first | exact B3.out | refine Below.drews ?_ | refine Below.drew ?_ | refine Below.alloc ?_ (by have hq_ := B3.out.size; first | omega | (simp <;> omega)) _ | refine Below.setCell ?_ (by have hq_ := B3.out.size; first | omega | (simp <;> omega)) _))⟩
end Go.Proofs.YtcgakdgfmhkpjaaDoor
