/-
  DrainsOf, of the program. No premise beyond those named.
-/
import Derived.Test.YtcgmffpddahgoabDrn
namespace Go.Proofs.Ytcgmffpddahgoab
open Go Go.RowKit
set_option maxRecDepth 100000

def drT (ok : Bool) (B : Int) : Value := if ok then .tuple #[.int .i64 B, .bool true] else .tuple #[.int .i64 0, .bool false]
set_option maxHeartbeats 8000000 in
theorem drainOf_any {g n k W Hh m : Nat} {f : Nat → Nat} (w : World) (X : Exact w g n f) (hfl : ∀ j, Fl .f32 (f j) (f j)) (hG : Gr (W : Int) (Hh : Int) n f W Hh) (hlt : m < n) : Calls Try.prog 86 #[gd W Hh (sl g n k), .int .i64 m] w (RS (drT (drOk f W m (nbs W Hh m)) (drF f W m (nbs W Hh m)).1) w) := by
  have n256 := hG.n256
  have n4 := hG.n4
  have h2 := hG.w2
  have h16 := hG.w16
  have g2 := hG.h2
  have g16 := hG.h16
  have HN := Hf.mk hG.nn
  have HG := Hf.mk hG
  have HX := Hf.mk X
  have HF := Hf.mk hfl
  have HL := Hf.mk (fun x hx => nbs_beside (i := m) (k := x) HN.out h2 h16 g16 hlt hx)
  have hL := nbs_len W Hh m
  have B0 := Hb.mk (Below.refl w.heap.size w)
  have hgl : g < w.heap.size := by have := block_lt_of_cell (X 0 (by omega)); simpa using this
  clear hG X hfl
  go_enter Try.func86, Try.ntmps86
  go_wp2_with (first | (go_at_call 95; refine (neigh_any _ HN.out h2 h16 g2 g16 hlt).mono ?_; rintro e w1 ⟨⟨v1, rfl, o1⟩, b1⟩; have B1 := Hb.mk (Below.on (B := w.heap.size) (a := w) (by repeat (first | exact B0.out | refine Below.drews ?_ | refine Below.drew ?_ | refine Below.alloc ?_ (by have hq_ := B0.out.size; first | omega | (simp <;> omega)) _ | refine Below.setCell ?_ (by have hq_ := B0.out.size; first | omega | (simp <;> omega)) _)) b1 (by have hq_ := B0.out.size; first | omega | (simp <;> omega))); have r0 := Hb.mk (At.keep b1 (p := ⟨(w.heap.size), 0, none⟩) (v := .int .i64 W) (by simp [go_sem]) (by simp [go_sem])); obtain ⟨r0c, r0z, r0l⟩ := r0.out; have r1 := Hb.mk (At.keep b1 (p := ⟨(w.heap.size), 1, none⟩) (v := .int .i64 Hh) (by simp [go_sem]) (by simp [go_sem])); obtain ⟨r1c, r1z, r1l⟩ := r1.out; have r2 := Hb.mk (At.keep b1 (p := ⟨(w.heap.size), 2, none⟩) (v := sl g n k) (by simp [go_sem]) (by simp [go_sem])); obtain ⟨r2c, r2z, r2l⟩ := r2.out; clear b1; obtain ⟨a1, k1, rfl, hl1, q1⟩ := irow_vown o1; have R1 := Hf.mk q1; clear o1 q1))
  generalize nbs W Hh m = L at *
  go_loopw [6, 7, 16] (fun bb mm cc wr => ∃ (c M : Nat) (B : Int), c ≤ L.length ∧ bb = .int .i64 B ∧ mm = .float .f32 M ∧ cc = .int .i64 c ∧ Hf (drF f W m (L.take c) = (B, M)) ∧ Fl .f32 M M ∧ Hf (drOk f W m (L.take c) = true) ∧ Hf (Below w1.heap.size w1 wr)) (fun _ _ cc _ => L.length - (intOf cc).toNat)
  case atStart => exact ⟨0, 0, -1, by omega, rfl, rfl, rfl, ⟨rfl⟩, zero32, ⟨rfl⟩, ⟨Below.refl _ _⟩⟩
  case round =>
    obtain ⟨c, M, B, hc, rfl, rfl, rfl, hF, hM, hK, hbel⟩ := hrel
    obtain ⟨W1, hW1⟩ : ∃ W1, W1 = wr := ⟨_, rfl⟩
    subst hW1
    have d0 := Below.keep hbel.out r0c
    have d1 := Below.keep hbel.out r1c
    have d2 := Below.keep hbel.out r2c
    have XW := Hf.mk ((HX.out.below B1.out).below hbel.out)
    have RW := Hf.mk (R1.out.below hbel.out)
    have S1 := hbel.out.size
    by_cases hlc : c < L.length
    · obtain ⟨p2, rfl, cc⟩ := RW.out c hlc
      obtain ⟨j, hj, hjn, hbs⟩ := HL.out (L.getD c 0) (by rw [List.getD, List.getElem?_eq_getElem hlc]; exact List.getElem_mem hlc)
      rw [hj] at cc
      have FI := XW.out m hlt
      have FJ := XW.out j hjn
      have FW : Fl .f32 (fallC f W m j) (fallC f W m j) := fall_fl hbs HF.out w
      have mD := fop_word (P := Try.prog) 25 (sub_notN (fin_at HG.out.fin hlt) (fin_at HG.out.fin hjn))
      have mQ := fop_word (P := Try.prog) 25 (fall_notN hbs (fin_at HG.out.fin hlt) (fin_at HG.out.fin hjn))
      have KG := Hf.mk (fun w => apart_any (hg := (Hh : Int)) (v := sl g n k) w hbs.two (by omega) (by omega))
      have KE := Hf.mk (show fop .quo .f32 (fop .sub .f32 (f m) (f j)) (dstC W m j) = fallC f W m j from rfl)
      have KF := Hf.mk (fun w => finOne_any FW w)
      have KY := Hf.mk (fun hv => drF_yes hlc hj hF.out hv)
      have KN := Hf.mk (fun hv => drF_no hlc hj hF.out hv)
      have KO := Hf.mk (fun hv => drOk_take hlc hj hK.out hv)
      have KZ := Hf.mk (fun (hv : fin .f32 (fallC f W m j) = false) => drOk_no hlc hj hv)
      unfold fallC at mQ
      clear hbs hj
      rw [KE.out] at mQ
      clear KE
      generalize fallC f W m j = F at *
      generalize dstC W m j = D at *
      generalize fop .sub .f32 (f m) (f j) = U at *
      cases hv1 : fin .f32 F
      · have HA := Hf.mk (KZ.out hv1)
        rw [hv1] at KF
        simp only [fT, if_false, Bool.false_eq_true] at KF
        clear hv1
        go_wp2
        refine region_all (by kernel_rfl) (by kernel_rfl) (fun I F_ hne HB hcl => ?_)
        have p0 := keepF HB d0
        have p1 := keepF HB d1
        have p2 := keepF HB d2
        have p3 := keepF HB FI
        have p4 := keepF HB FJ
        repeat (quiet_step (first | (go_at_call 128; exact callS hcl (KG.out _)) | (go_at_call 78; exact callD hcl (KF.out _))))
        refine wpQuiet_nil ?_
        intro _ hw'
        obtain ⟨iq, rfl⟩ := hw'
        clear hcl
        have E1 := Hb.mk (HB.out iq)
        go_wp2
        go_ret2
        rw [HA.out]
        exact ⟨rfl, Below.on B1.out (Below.on hbel.out E1.out (by omega)) (by omega)⟩
      · have HO := Hf.mk (KO.out hv1)
        rw [hv1] at KF
        simp only [fT, if_true] at KF
        clear hv1 KO KZ
        cases hv2 : fcmp .gtr .f32 F M
        · have HP := Hf.mk (KN.out hv2)
          clear KN KY
          go_wp2
          refine region_all (by kernel_rfl) (by kernel_rfl) (fun I F_ hne HB hcl => ?_)
          have p0 := keepF HB d0
          have p1 := keepF HB d1
          have p2 := keepF HB d2
          have p3 := keepF HB FI
          have p4 := keepF HB FJ
          repeat (quiet_step (first | (go_at_call 128; exact callS hcl (KG.out _)) | (go_at_call 78; exact callD hcl (KF.out _))))
          refine wpQuiet_nil ?_
          intro _ hw'
          obtain ⟨iq, rfl⟩ := hw'
          clear hcl
          have E1 := Hb.mk (HB.out iq)
          go_wp2_with (first | (refine wpList_fcmp rfl rfl rfl rfl rfl (by first | (with_reducible assumption) | (with_reducible exact Fl.ofInt _ _) | exact Fl.not (by decide +kernel) (by decide +kernel)) (by first | (with_reducible assumption) | (with_reducible exact Fl.ofInt _ _) | exact Fl.not (by decide +kernel) (by decide +kernel)) ?_; simp only [Act.put, List.setIfInBounds_toArray, List.set_cons_succ, List.set_cons_zero, hv2]))
          go_roundw
          case rel => exact ⟨c + 1, _, _, by omega, rfl, rfl, i_ext2 (by omega), HP, hM, HO, ⟨Below.on hbel.out E1.out (by omega)⟩⟩
          case measure => simp [intOf]; omega
        · have HP := Hf.mk (KY.out hv2)
          clear KN KY
          go_wp2
          refine region_all (by kernel_rfl) (by kernel_rfl) (fun I F_ hne HB hcl => ?_)
          have p0 := keepF HB d0
          have p1 := keepF HB d1
          have p2 := keepF HB d2
          have p3 := keepF HB FI
          have p4 := keepF HB FJ
          repeat (quiet_step (first | (go_at_call 128; exact callS hcl (KG.out _)) | (go_at_call 78; exact callD hcl (KF.out _))))
          refine wpQuiet_nil ?_
          intro _ hw'
          obtain ⟨iq, rfl⟩ := hw'
          clear hcl
          have E1 := Hb.mk (HB.out iq)
          go_wp2_with (first | (refine wpList_fcmp rfl rfl rfl rfl rfl (by first | (with_reducible assumption) | (with_reducible exact Fl.ofInt _ _) | exact Fl.not (by decide +kernel) (by decide +kernel)) (by first | (with_reducible assumption) | (with_reducible exact Fl.ofInt _ _) | exact Fl.not (by decide +kernel) (by decide +kernel)) ?_; simp only [Act.put, List.setIfInBounds_toArray, List.set_cons_succ, List.set_cons_zero, hv2]))
          go_roundw
          case rel => exact ⟨c + 1, _, _, by omega, rfl, rfl, i_ext2 (by omega), HP, FW, HO, ⟨Below.on hbel.out E1.out (by omega)⟩⟩
          case measure => simp [intOf]; omega
    · obtain rfl : c = L.length := by omega
      rw [List.take_length] at hF hK
      go_wp2
      go_ret2
      rw [hK.out, hF.out]
      exact ⟨rfl, Below.on B1.out hbel.out B1.out.size⟩
set_option maxHeartbeats 4000000 in
theorem iDrains_any {g n k : Nat} {wd hg : Int} {f : Nat → Nat} (hfl : ∀ j, Fl .f32 (f j) (f j)) (w : World) (h : Told w g n f) (hl : n ≤ 1048576) : Calls Try.prog 39 #[gd wd hg (sl g n k)] w (RLy 2 (drB (gridB wd hg n f) f wd hg n) (ils (drV (gridB wd hg n f) f wd hg n)) w) := by
  obtain ⟨i0, hi0, hz0, hz1, hz2⟩ := info_parts (P := Try.prog) (e := 2) (z := .int .i64 0) (size := 1) (bytes := 8) (by kernel_rfl)
  have H := Hf.mk h
  clear h
  have B0 := Hb.mk (Below.refl w.heap.size w)
  cases h1 : gridB wd hg n f
  · have H1 := Hf.mk h1
    clear h1
    go_enter Try.func39, Try.ntmps39
    go_wp2_with (first | (go_at_call 60; refine (iValid_any _ (H.out.below (by repeat (first | exact Below.refl _ _ | with_reducible assumption | refine Below.drews ?_ | refine Below.drew ?_ | refine Below.alloc ?_ (by simp <;> omega) _ | refine Below.setCell ?_ (by simp <;> omega) _))) hl).mono ?_; rw [H1.out]; rintro e w1 ⟨rfl, b1⟩; have B1 := Hb.mk (Below.on (B := w.heap.size) (a := w) (by repeat (first | exact B0.out | refine Below.drews ?_ | refine Below.drew ?_ | refine Below.alloc ?_ (by have hq_ := B0.out.size; first | omega | (simp <;> omega)) _ | refine Below.setCell ?_ (by have hq_ := B0.out.size; first | omega | (simp <;> omega)) _)) b1 (by have hq_ := B0.out.size; first | omega | (simp <;> omega))); have r0 := Hb.mk (At.keep b1 (p := ⟨(w.heap.size), 0, none⟩) (v := .int .i64 wd) (by simp [go_sem]) (by simp [go_sem])); obtain ⟨r0c, r0z, r0l⟩ := r0.out; have r1 := Hb.mk (At.keep b1 (p := ⟨(w.heap.size), 1, none⟩) (v := .int .i64 hg) (by simp [go_sem]) (by simp [go_sem])); obtain ⟨r1c, r1z, r1l⟩ := r1.out; have r2 := Hb.mk (At.keep b1 (p := ⟨(w.heap.size), 2, none⟩) (v := sl g n k) (by simp [go_sem]) (by simp [go_sem])); obtain ⟨r2c, r2z, r2l⟩ := r2.out; clear b1))
    go_ret2
    exact RLy.nil (by repeat (first | with_reducible refine Below.setCell ?_ (by first | omega | (simp <;> omega)) _ | with_reducible refine Below.drews ?_ | with_reducible refine Below.drew ?_ | with_reducible refine Below.alloc ?_ (by first | omega | (simp <;> omega)) _ | with_reducible exact B1.out | with_reducible exact Below.refl _ _))
  · obtain ⟨W, Hh, hG⟩ := gridB_of h1
    have n256 := hG.n256
    have n4 := hG.n4
    have hgl := told_lt H.out (show 0 < n by omega)
    have H1 := Hf.mk h1
    have X := Hf.mk (H.out.exact hG.fin)
    obtain rfl := hG.w
    obtain rfl := hG.h
    have HG := Hf.mk hG
    have HF := Hf.mk hfl
    have KV := Keep.mk (show drB true f (W : Int) (Hh : Int) n = drOkA f W Hh n ∧ drV true f (W : Int) (Hh : Int) n = drA f W Hh n from ⟨rfl, rfl⟩)
    clear h1 hG hfl
    go_enter Try.func39, Try.ntmps39
    go_wp2_with (first | (go_at_call 60; refine (iValid_any _ (H.out.below (by repeat (first | exact Below.refl _ _ | with_reducible assumption | refine Below.drews ?_ | refine Below.drew ?_ | refine Below.alloc ?_ (by simp <;> omega) _ | refine Below.setCell ?_ (by simp <;> omega) _))) hl).mono ?_; rw [H1.out]; rintro e w1 ⟨rfl, b1⟩; have B1 := Hb.mk (Below.on (B := w.heap.size) (a := w) (by repeat (first | exact B0.out | refine Below.drews ?_ | refine Below.drew ?_ | refine Below.alloc ?_ (by have hq_ := B0.out.size; first | omega | (simp <;> omega)) _ | refine Below.setCell ?_ (by have hq_ := B0.out.size; first | omega | (simp <;> omega)) _)) b1 (by have hq_ := B0.out.size; first | omega | (simp <;> omega))); have r0 := Hb.mk (At.keep b1 (p := ⟨(w.heap.size), 0, none⟩) (v := .int .i64 (W : Int)) (by simp [go_sem]) (by simp [go_sem])); obtain ⟨r0c, r0z, r0l⟩ := r0.out; have r1 := Hb.mk (At.keep b1 (p := ⟨(w.heap.size), 1, none⟩) (v := .int .i64 (Hh : Int)) (by simp [go_sem]) (by simp [go_sem])); obtain ⟨r1c, r1z, r1l⟩ := r1.out; have r2 := Hb.mk (At.keep b1 (p := ⟨(w.heap.size), 2, none⟩) (v := sl g n k) (by simp [go_sem]) (by simp [go_sem])); obtain ⟨r2c, r2z, r2l⟩ := r2.out; clear b1) | (at_make; refine wpList_make_full _ rfl _ _ 56 rfl w1.heap.size 2 i0 _ 1 Try.underlying56 hi0 hz0 hz1 .i64 .i64 _ _ n rfl rfl rfl rfl (by rw [hz2]; omega) (by unfold maxLen; omega) (Nat.le_refl _) ?_; intro w0 hown0 hgrow0))
    have B00 : Below w1.heap.size w1 w0 := (Below.refl _ _).grown hgrow0 (Nat.le_refl _) (fun k h => by cases h)
    have HO0 := Hf.mk hown0
    have S1 := B1.out.size
    clear hown0 hgrow0
    go_loopw [17] (fun i wr => ∃ (m : Nat) (cu : List Value), m ≤ n ∧ i = .int .i64 m ∧ Hf (wr.ownsRow w1.heap.size 2 1 (sl w1.heap.size n n) n cu) ∧ Hf (∀ j, j < m → cu[j]? = some (.int .i64 (drF f W j (nbs W Hh j)).1)) ∧ Hf (∀ i, i < m → drOk f W i (nbs W Hh i) = true) ∧ Hf (Below w1.heap.size w1 wr)) (fun i _ => n - (intOf i).toNat)
    case atStart => exact ⟨0, _, by omega, rfl, HO0, ⟨fun j hj => absurd hj (Nat.not_lt_zero j)⟩, ⟨fun j hj => absurd hj (Nat.not_lt_zero j)⟩, ⟨B00⟩⟩
    case round =>
      obtain ⟨m, cu, hm, rfl, hown, hcur, hok, hbel⟩ := hrel
      obtain ⟨W1, hW1⟩ : ∃ W1, W1 = wr := ⟨_, rfl⟩
      subst hW1
      have d0 := Below.keep hbel.out r0c
      have d1 := Below.keep hbel.out r1c
      have d2 := Below.keep hbel.out r2c
      have XW := Hf.mk ((X.out.below B1.out).below hbel.out)
      have S2 := hbel.out.size
      by_cases hlt : m < n
      · have KC := Hf.mk (fun w (X : Exact w g n f) => drainOf_any (k := k) w X HF.out HG.out hlt)
        cases hv : drOk f W m (nbs W Hh m)
        · have HA := Hf.mk (drOkA_no hlt hv)
          have KA := Hf.mk (show drA f W Hh n = [] by unfold drA; rw [HA.out]; rfl)
          rw [hv] at KC
          simp only [drT, if_false, Bool.false_eq_true] at KC
          clear hv
          go_wp2_with (first | (go_at_call 86; refine (KC.out _ XW.out).mono ?_; rintro e W2 ⟨rfl, b2⟩; have B2 := Hf.mk (Below.on hbel.out b2 (by omega)); clear b2))
          go_ret2
          rw [KV.out.1, KV.out.2, KA.out, HA.out]
          exact RLy.nil (Below.on B1.out B2.out (by omega))
        · have HO := Hf.mk (lt_succ_fact hok.out hv)
          rw [hv] at KC
          simp only [drT, if_true] at KC
          clear hv
          have hlen : cu.length = n * 1 := hown.out.1
          go_wp2_with (first | (go_at_call 86; refine (KC.out _ XW.out).mono ?_; rintro e W2 ⟨rfl, b2⟩; have B2 := Hf.mk (Below.on hbel.out b2 (by omega)); have O2 := Hf.mk (iown_below hown.out b2); obtain ⟨old0, hold0⟩ : ∃ old, cu[m]? = some old := ⟨_, List.getElem?_eq_getElem (by omega)⟩; have z0 := O2.out.frozenAt m; have l0 := own_lt O2.out; have cz : W2.cell? ⟨w1.heap.size, m, none⟩ = some old0 := (O2.out.cellAt m (by omega)).trans hold0; clear b2))
          go_roundw
          case rel =>
            have hst := O2.out.stored m (.int .i64 (drF f W m (nbs W Hh m)).1)
            refine ⟨m + 1, _, by omega, i_ext2 (by omega), ⟨hst.1⟩, ⟨fun j hj => ?_⟩, HO, ⟨Below.setCell B2.out (Nat.le_refl _) _⟩⟩
            by_cases he : j = m
            · subst he; rw [List.getElem?_set_self (by omega)]
            · rw [List.getElem?_set_ne (by omega)]; exact hcur.out j (by omega)
          case measure => simp [intOf]; omega
      · obtain rfl : m = n := by omega
        have HA := Hf.mk (drOkA_yes hok.out)
        have KA := Hf.mk (show drA f W Hh m = drL f W Hh m by unfold drA; rw [HA.out]; rfl)
        have hlen : cu.length = m * 1 := hown.out.1
        have KU := Hf.mk (show cu = ils (drL f W Hh m) by
          refine List.ext_getElem? (fun j => ?_)
          by_cases hj : j < m
          · rw [hcur.out j hj]
            simp [ils, drL, List.getElem?_map, List.getElem?_range hj]
          · rw [List.getElem?_eq_none (by omega), List.getElem?_eq_none (by rw [ils_len, drL_len]; omega)])
        go_wp2
        go_ret2
        rw [KV.out.1, KV.out.2, KA.out, HA.out]
        refine ⟨⟨_, rfl, ?_⟩, Below.on B1.out hbel.out (by omega)⟩
        have := own_lower hown.out S1
        rw [KU.out] at this
        rw [ils_len, drL_len]
        exact this
end Go.Proofs.Ytcgmffpddahgoab
