/-
  SinksOf, of the model; where water ends. No premise beyond those named.
-/
import Derived.Test.YtcgmffpddahgoabDrw
import Derived.Test.YtcgmffpddahgoabDri
namespace Go.Proofs.Ytcgmffpddahgoab
open Go Go.RowKit
set_option maxRecDepth 100000

/-- to which place a place leads -/
def dnF (f : Nat → Nat) (W Hh i : Nat) : Int := (drF f W i (nbs W Hh i)).1
theorem drL_get {f : Nat → Nat} {W Hh n i : Nat} (h : i < n) : (drL f W Hh n).getD i 0 = dnF f W Hh i := by
  unfold drL
  rw [List.getD, List.getElem?_map, List.getElem?_range h]
  rfl
theorem dn_of {f : Nat → Nat} {W Hh n : Nat} (hG : Gr (W : Int) (Hh : Int) n f W Hh) (hok : drOkA f W Hh n = true) : Dn (dnF f W Hh) (rk f n) n := by
  refine ⟨fun i hi => ?_, fun i hi => rk_n hi⟩
  have h1 : drOk f W i (nbs W Hh i) = true := by
    unfold drOkA at hok
    exact List.all_eq_true.1 hok i (List.mem_range.2 hi)
  rcases drF_lower (n := n) (nbs W Hh i) (fun k hk => nbs_beside hG.nn hG.w2 hG.w16 hG.h16 hi hk) (fun j hj => fin_at hG.fin hj) hi h1 (-1) 0 (by decide +kernel) (by decide +kernel) (.inl rfl) with h | ⟨j, h, hj, hs⟩
  · exact .inl h
  · exact .inr ⟨j, h, hj, rk_lt hj hs⟩
/-- where the water of a place ends -/
def skL (D : Nat → Int) (n : Nat) (i : Nat) : Nat := (pthI D n (i : Int)).getLastD 0
theorem skL_end {D : Nat → Int} {r : Nat → Nat} {n i : Nat} (h : Dn D r n) (hi : i < n) (he : D i < 0) : skL D n i = i := by
  unfold skL
  rw [pthI_cons h hi, pthI_neg he]
  rfl
theorem skL_on {D : Nat → Int} {r : Nat → Nat} {n i j : Nat} (h : Dn D r n) (hi : i < n) (hj : j < n) (he : D i = (j : Int)) : skL D n i = skL D n j := by
  unfold skL
  rw [pthI_cons h hi, he, pthI_cons h hj]
  rfl
def snkL (D : Nat → Int) (n m : Nat) : List Int := (List.range m).map (fun i => (skL D n i : Int))
theorem snkL_len {D : Nat → Int} {n m : Nat} : (snkL D n m).length = m := by simp [snkL]
theorem snkL_succ {D : Nat → Int} {n m : Nat} : snkL D n (m + 1) = snkL D n m ++ [(skL D n m : Int)] := by
  unfold snkL
  rw [List.range_succ, List.map_append]
  rfl
def skV (ok : Bool) (f : Nat → Nat) (wd hg : Int) (n : Nat) : List Int := if drB ok f wd hg n then snkL (dnF f wd.toNat hg.toNat) n n else []
theorem skV_len {ok : Bool} {f : Nat → Nat} {wd hg : Int} (n : Nat) : (skV ok f wd hg n).length ≤ n := by
  unfold skV
  cases drB ok f wd hg n
  · exact Nat.zero_le _
  · show (snkL _ _ _).length ≤ n
    rw [snkL_len]
    exact Nat.le_refl _
theorem drB_of {ok : Bool} {f : Nat → Nat} {wd hg : Int} {n : Nat} (h : drB ok f wd hg n = true) : ok = true ∧ drOkA f wd.toNat hg.toNat n = true := by
  unfold drB at h
  rw [Bool.and_eq_true] at h
  exact h
theorem drV_of {ok : Bool} {f : Nat → Nat} {wd hg : Int} {n : Nat} (h : drB ok f wd hg n = true) : drV ok f wd hg n = drL f wd.toNat hg.toNat n := by
  obtain ⟨rfl, h2⟩ := drB_of h
  unfold drV drA
  rw [h2]
  rfl
set_option maxHeartbeats 8000000 in
theorem sSinks_any {g n k : Nat} {wd hg : Int} {f : Nat → Nat} (hfl : ∀ j, Fl .f32 (f j) (f j)) (w : World) (h : Told w g n f) (hl : n ≤ 1048576) : Calls Try.prog 43 #[gd wd hg (sl g n k)] w (RLy 2 (drB (gridB wd hg n f) f wd hg n) (ils (skV (gridB wd hg n f) f wd hg n)) w) := by
  obtain ⟨i0, hi0, hz0, hz1, hz2⟩ := info_parts (P := Try.prog) (e := 2) (z := .int .i64 0) (size := 1) (bytes := 8) (by kernel_rfl)
  have KD := Hf.mk (fun w (h : Told w g n f) => sDrains_any (k := k) (wd := wd) (hg := hg) hfl w h hl)
  have H := Hf.mk h
  have B0 := Hb.mk (Below.refl w.heap.size w)
  clear h
  cases hb : drB (gridB wd hg n f) f wd hg n
  · have KV := Keep.mk (show skV (gridB wd hg n f) f wd hg n = [] by unfold skV; rw [hb]; rfl)
    rw [hb] at KD
    clear hb
    go_enter Try.func43, Try.ntmps43
    go_wp2_with (first | (go_at_call 38; refine (KD.out _ (H.out.below (by repeat (first | exact Below.refl _ _ | with_reducible assumption | refine Below.drews ?_ | refine Below.drew ?_ | refine Below.alloc ?_ (by simp <;> omega) _ | refine Below.setCell ?_ (by simp <;> omega) _)))).mono ?_; rintro e w1 ⟨⟨v, rfl, o1⟩, b1⟩; have B1 := Hb.mk (Below.on (B := w.heap.size) (a := w) (by repeat (first | exact B0.out | refine Below.drews ?_ | refine Below.drew ?_ | refine Below.alloc ?_ (by have hq_ := B0.out.size; first | omega | (simp <;> omega)) _ | refine Below.setCell ?_ (by have hq_ := B0.out.size; first | omega | (simp <;> omega)) _)) b1 (by have hq_ := B0.out.size; first | omega | (simp <;> omega))); clear o1 b1))
    go_ret2
    rw [KV.out]
    exact RLy.nil (by repeat (first | with_reducible refine Below.setCell ?_ (by first | omega | (simp <;> omega)) _ | with_reducible refine Below.drews ?_ | with_reducible refine Below.drew ?_ | with_reducible refine Below.alloc ?_ (by first | omega | (simp <;> omega)) _ | with_reducible exact B1.out | with_reducible exact Below.refl _ _))
  · obtain ⟨hg1, hok⟩ := drB_of hb
    obtain ⟨W, Hh, hG⟩ := gridB_of hg1
    obtain rfl := hG.w
    obtain rfl := hG.h
    have hvl := drV_of hb
    rw [hb] at KD
    rw [hvl] at KD
    have hD := dn_of hG hok
    have KV := Keep.mk (show skV (gridB (W : Int) (Hh : Int) n f) f (W : Int) (Hh : Int) n = snkL (dnF f W Hh) n n by unfold skV; rw [hb]; rfl)
    have KL := Hf.mk (drL_len (f := f) (W := W) (Hh := Hh) (m := n))
    have KG := Hf.mk (fun i (hi : i < n) => drL_get (f := f) (W := W) (Hh := Hh) hi)
    rw [Int.toNat_natCast, Int.toNat_natCast] at KD
    have n256 := hG.n256
    have hp : (W : Int) * (Hh : Int) = (n : Int) := by rw [hG.nn, Int.natCast_mul]
    have HD := Hf.mk hD
    clear hb hg1 hok hG hvl hD
    generalize dnF f W Hh = D at *
    generalize drL f W Hh n = L at *
    go_enter Try.func43, Try.ntmps43
    go_wp2_with (first | (go_at_call 38; refine (KD.out _ (H.out.below (by repeat (first | exact Below.refl _ _ | with_reducible assumption | refine Below.drews ?_ | refine Below.drew ?_ | refine Below.alloc ?_ (by simp <;> omega) _ | refine Below.setCell ?_ (by simp <;> omega) _)))).mono ?_; rintro e w1 ⟨⟨v, rfl, o1⟩, b1⟩; have B1 := Hb.mk (Below.on (B := w.heap.size) (a := w) (by repeat (first | exact B0.out | refine Below.drews ?_ | refine Below.drew ?_ | refine Below.alloc ?_ (by have hq_ := B0.out.size; first | omega | (simp <;> omega)) _ | refine Below.setCell ?_ (by have hq_ := B0.out.size; first | omega | (simp <;> omega)) _)) b1 (by have hq_ := B0.out.size; first | omega | (simp <;> omega))); have r0 := Hb.mk (At.keep b1 (p := ⟨(w.heap.size), 0, none⟩) (v := .int .i64 W) (by simp [go_sem]) (by simp [go_sem])); obtain ⟨r0c, r0z, r0l⟩ := r0.out; have r1 := Hb.mk (At.keep b1 (p := ⟨(w.heap.size), 1, none⟩) (v := .int .i64 Hh) (by simp [go_sem]) (by simp [go_sem])); obtain ⟨r1c, r1z, r1l⟩ := r1.out; have r2 := Hb.mk (At.keep b1 (p := ⟨(w.heap.size), 2, none⟩) (v := sl g n k) (by simp [go_sem]) (by simp [go_sem])); obtain ⟨r2c, r2z, r2l⟩ := r2.out; clear b1; rw [ils_len, KL.out] at o1; obtain ⟨a1, k1, rfl, hl1, q1⟩ := irow_vown o1; have R1 := Hf.mk q1; clear o1 q1))
    have S1 := B1.out.size
    go_loopw [6, 7] (fun vs i wr => ∃ (m : Nat) (v : Value), m ≤ n ∧ vs = v ∧ i = .int .i64 m ∧ Hf (wr.ownsRow w1.heap.size 2 1 v (snkL D n m).length (ils (snkL D n m))) ∧ Hf (Below w1.heap.size w1 wr)) (fun _ i _ => n - (intOf i).toNat)
    case atStart => exact ⟨0, _, by omega, rfl, rfl, ⟨World.ownsRow_made _ _ _ (Nat.le_refl _) (by decide) rfl⟩, ⟨(by repeat (first | exact Below.refl _ _ | with_reducible assumption | refine Below.drews ?_ | refine Below.drew ?_ | refine Below.alloc ?_ (by simp <;> omega) _ | refine Below.setCell ?_ (by simp <;> omega) _))⟩⟩
    case round =>
      obtain ⟨m, v, hm, rfl, rfl, hown, hbel⟩ := hrel
      obtain ⟨W1, hW1⟩ : ∃ W1, W1 = wr := ⟨_, rfl⟩
      subst hW1
      have d0 := Below.keep hbel.out r0c
      have d1 := Below.keep hbel.out r1c
      have RW := Hf.mk (R1.out.below hbel.out)
      have S2 := hbel.out.size
      by_cases hlt : m < n
      · go_wp2
        go_loopw [8] (fun x wr => ∃ (j : Nat), j < n ∧ x = .int .i64 j ∧ Hf (skL D n j = skL D n m) ∧ wr = W1) (fun x _ => rk f n (intOf x).toNat)
        case atStart => exact ⟨m, hlt, rfl, ⟨rfl⟩, rfl⟩
        case round =>
          obtain ⟨j, hj, rfl, hsk, rfl⟩ := hrel
          obtain ⟨p2, rfl, cc⟩ := RW.out j (by omega)
          rw [KG.out j hj] at cc
          rcases HD.out.to j hj with h | ⟨j2, h, hj2, hr⟩
          · have KE := Hf.mk (skL_end HD.out hj (by omega))
            rw [h] at cc
            clear h
            have KS := Hf.mk (show snkL D n (m + 1) = snkL D n m ++ [(j : Int)] by rw [snkL_succ, ← hsk.out, KE.out])
            have hpl := snkL_len (D := D) (n := n) (m := m)
            go_wp2_with (first | (at_builtin; refine wpList_append_own _ rfl _ _ 56 rfl w1.heap.size 2 i0 (.int .i64 0) 1 8 Try.underlying56 hi0 hz0 hz1 hz2 rfl (by decide) _ (snkL D n m).length (ils (snkL D n m)) rfl (own_al hown.out _) ⟨wr.heap.size, 0, none⟩ 1 1 [.int .i64 (j : Int)] rfl rfl (cell_one _ _ _) int_one (by unfold maxLen; omega) (by omega) (by first | omega | (simp; done) | (simp; omega)) ?_; intro v' w3 o3 hgrow3 _; have B3 := Hf.mk (Below.grown (Below.alloc hbel.out (by first | omega | (simp; omega)) _) hgrow3 (by simp; omega) (fun k h => own_ge hown.out h)); have O3 := Hf.mk o3; clear o3 hgrow3))
            go_roundw
            case rel => exact ⟨m + 1, _, by omega, rfl, i_ext2 (by omega), ⟨by rw [KS.out]; have := O3.out; rw [ils_app] at this; simpa [Nat.add_assoc] using this⟩, B3⟩
            case measure => simp [intOf]; omega
          · have KE := Hf.mk (skL_on HD.out hj hj2 h)
            rw [h] at cc
            clear h
            go_wp2
            go_roundw
            case rel => exact ⟨j2, hj2, rfl, ⟨by rw [← KE.out]; exact hsk.out⟩, trivial⟩
            case measure => simp [intOf]; omega
      · obtain rfl : m = n := by omega
        go_wp2
        go_ret2
        rw [KV.out]
        refine ⟨⟨_, rfl, ?_⟩, Below.on B1.out hbel.out S1⟩
        rw [ils_len]
        exact own_lower hown.out S1
end Go.Proofs.Ytcgmffpddahgoab
