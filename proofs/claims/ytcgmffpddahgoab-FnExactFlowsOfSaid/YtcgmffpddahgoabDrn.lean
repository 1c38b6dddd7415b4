/-
  DrainsOf, of the program and of the model: one list. No premise beyond those named.
-/
import Derived.Test.YtcgmffpddahgoabDst
import Derived.Test.YtcgmffpddahgoabLro
namespace Go.Proofs.Ytcgmffpddahgoab
open Go Go.RowKit
set_option maxRecDepth 100000

def drS (f : Nat → Nat) (W i : Nat) (s : Int × Nat) (k : Int) : Int × Nat := if fcmp .gtr .f32 (fallC f W i k.toNat) s.2 = true then (k, fallC f W i k.toNat) else s
/-- to which of these a place falls most steeply, and how steeply -/
def drF (f : Nat → Nat) (W i : Nat) (L : List Int) : Int × Nat := L.foldl (drS f W i) (-1, 0)
def drOk (f : Nat → Nat) (W i : Nat) (L : List Int) : Bool := L.all (fun k => fin .f32 (fallC f W i k.toNat))
theorem drF_take {f : Nat → Nat} {W i c : Nat} {L : List Int} (h : c < L.length) : drF f W i (L.take (c + 1)) = drS f W i (drF f W i (L.take c)) (L.getD c 0) := by
  unfold drF
  rw [List.take_succ_eq_append_getElem h, List.foldl_append]
  simp [List.getD, List.getElem?_eq_getElem h]
theorem drF_yes {f : Nat → Nat} {W i c j M : Nat} {b : Int} {L : List Int} (h : c < L.length) (hj : L.getD c 0 = (j : Int)) (hp : drF f W i (L.take c) = (b, M)) (hv : fcmp .gtr .f32 (fallC f W i j) M = true) : drF f W i (L.take (c + 1)) = ((j : Int), fallC f W i j) := by
  rw [drF_take h, hj, hp]
  exact if_pos hv
theorem drF_no {f : Nat → Nat} {W i c j M : Nat} {b : Int} {L : List Int} (h : c < L.length) (hj : L.getD c 0 = (j : Int)) (hp : drF f W i (L.take c) = (b, M)) (hv : fcmp .gtr .f32 (fallC f W i j) M = false) : drF f W i (L.take (c + 1)) = (b, M) := by
  rw [drF_take h, hj, hp]
  exact if_neg (by show ¬ fcmp .gtr .f32 (fallC f W i j) M = true; rw [hv]; decide)
theorem drOk_take {f : Nat → Nat} {W i c j : Nat} {L : List Int} (h : c < L.length) (hj : L.getD c 0 = (j : Int)) (h1 : drOk f W i (L.take c) = true) (h2 : fin .f32 (fallC f W i j) = true) : drOk f W i (L.take (c + 1)) = true := by
  unfold drOk at *
  rw [List.take_succ_eq_append_getElem h, List.all_append, h1]
  have e : L[c] = (j : Int) := by rw [← hj, List.getD, List.getElem?_eq_getElem h]; rfl
  rw [e]
  simp [h2]
theorem drOk_no {f : Nat → Nat} {W i c j : Nat} {L : List Int} (h : c < L.length) (hj : L.getD c 0 = (j : Int)) (h2 : fin .f32 (fallC f W i j) = false) : drOk f W i L = false := by
  unfold drOk
  rw [List.all_eq_false]
  refine ⟨L[c], List.getElem_mem h, ?_⟩
  have e : L[c] = (j : Int) := by rw [← hj, List.getD, List.getElem?_eq_getElem h]; rfl
  rw [e]
  show ¬ fin .f32 (fallC f W i (j : Int).toNat) = true
  rw [Int.toNat_natCast, h2]
  decide
/-- the drains of the first m places -/
def drL (f : Nat → Nat) (W Hh m : Nat) : List Int := (List.range m).map (fun i => (drF f W i (nbs W Hh i)).1)
theorem drL_len {f : Nat → Nat} {W Hh m : Nat} : (drL f W Hh m).length = m := by simp [drL]
theorem drL_succ {f : Nat → Nat} {W Hh m : Nat} : drL f W Hh (m + 1) = drL f W Hh m ++ [(drF f W m (nbs W Hh m)).1] := by
  unfold drL
  rw [List.range_succ, List.map_append]
  rfl
def drOkA (f : Nat → Nat) (W Hh n : Nat) : Bool := (List.range n).all (fun i => drOk f W i (nbs W Hh i))
theorem drOkA_no {f : Nat → Nat} {W Hh n i : Nat} (hi : i < n) (h : drOk f W i (nbs W Hh i) = false) : drOkA f W Hh n = false := by
  unfold drOkA
  rw [List.all_eq_false]
  exact ⟨i, List.mem_range.2 hi, by rw [h]; decide⟩
theorem drOkA_yes {f : Nat → Nat} {W Hh n : Nat} (h : ∀ i, i < n → drOk f W i (nbs W Hh i) = true) : drOkA f W Hh n = true := by
  unfold drOkA
  rw [List.all_eq_true]
  exact fun i hi => h i (List.mem_range.1 hi)
/-- the drains of a grid, none if it fails -/
def drA (f : Nat → Nat) (W Hh n : Nat) : List Int := if drOkA f W Hh n then drL f W Hh n else []
theorem lt_succ_fact {p : Nat → Prop} {m : Nat} (h : ∀ i, i < m → p i) (h2 : p m) : ∀ i, i < m + 1 → p i := by
  intro i hi
  by_cases e : i = m
  · subst e; exact h2
  · exact h i (by omega)
theorem csub_wI {P : Program} (t : TypeId) {a b c d : Nat} (h1 : a < 16) (h2 : b < 16) (h3 : c < 16) (h4 : d < 16) : ∀ w, (binOp .sub t (.complex .f32 (wI (a : Int)) (wI (c : Int))) (.complex .f32 (wI (b : Int)) (wI (d : Int)))).run P w = .ok (.complex .f32 (wI ((a : Int) - (b : Int))) (wI ((c : Int) - (d : Int)))) w := by
  have h := csub_fin (P := P) t (r := wI (a : Int)) (i := wI (c : Int)) (s := wI (b : Int)) (j := wI (d : Int)) (by rw [sub_wI h1 h2]; exact wI_fin (by omega) (by omega)) (by rw [sub_wI h3 h4]; exact wI_fin (by omega) (by omega))
  rwa [sub_wI h1 h2, sub_wI h3 h4] at h
set_option maxHeartbeats 8000000 in
theorem l06Drains_any {b g n k W Hh : Nat} {f : Nat → Nat} (w : World) (c0 : w.cell? ⟨b, 0, none⟩ = some (.int .i64 W)) (c1 : w.cell? ⟨b, 1, none⟩ = some (.int .i64 Hh)) (c2 : w.cell? ⟨b, 2, none⟩ = some (sl g n k)) (X : Exact w g n f) (hfl : ∀ j, Fl .f32 (f j) (f j)) (hG : Gr (W : Int) (Hh : Int) n f W Hh) : Calls Try.prog 85 #[.pointer (some ⟨b, 0, none⟩)] w (RLy 2 (drOkA f W Hh n) (ils (drA f W Hh n)) w) := by
  obtain ⟨i0, hi0, hz0, hz1, hz2⟩ := info_parts (P := Try.prog) (e := 2) (z := .int .i64 0) (size := 1) (bytes := 8) (by kernel_rfl)
  have n256 := hG.n256
  have n4 := hG.n4
  have h2 := hG.w2
  have h16 := hG.w16
  have g2 := hG.h2
  have g16 := hG.h16
  have HN := Hf.mk hG.nn
  have HG := Hf.mk hG
  have HX := Hf.mk X
  have HF := Hf.mk hfl
  have hp : (W : Int) * (Hh : Int) = (n : Int) := by rw [HN.out, Int.natCast_mul]
  have hlb : b < w.heap.size := by have := block_lt_of_cell c0; simpa using this
  have hgl : g < w.heap.size := by have := block_lt_of_cell (X 0 (by omega)); simpa using this
  clear hG X hfl
  go_enter Try.func85, Try.ntmps85
  go_wp2
  go_loopw [4, 5] (fun vs i wr => ∃ (m : Nat) (v : Value), m ≤ n ∧ vs = v ∧ i = .int .i64 m ∧ Hf (wr.ownsRow w.heap.size 2 1 v (drL f W Hh m).length (ils (drL f W Hh m))) ∧ Hf (∀ i, i < m → drOk f W i (nbs W Hh i) = true) ∧ Hf (Below w.heap.size w wr)) (fun _ i _ => n - (intOf i).toNat)
  case atStart => exact ⟨0, _, by omega, rfl, rfl, ⟨World.ownsRow_made _ _ _ (Nat.le_refl _) (by decide) rfl⟩, ⟨fun i hi => absurd hi (Nat.not_lt_zero i)⟩, ⟨(by repeat (first | exact Below.refl _ _ | with_reducible assumption | refine Below.drews ?_ | refine Below.drew ?_ | refine Below.alloc ?_ (by simp <;> omega) _ | refine Below.setCell ?_ (by simp <;> omega) _))⟩⟩
  case round =>
    obtain ⟨m, v, hm, rfl, rfl, hown, hok, hbel⟩ := hrel
    obtain ⟨W1, hW1⟩ : ∃ W1, W1 = wr := ⟨_, rfl⟩
    subst hW1
    have d0 := Below.keep hbel.out c0
    have d1 := Below.keep hbel.out c1
    have S1 := hbel.out.size
    by_cases hlt : m < n
    · have tk_a : True := trivial
      go_wp2
      go_quiet (fail)
      go_wp2_with (first | (go_at_call 90; clear tk_a; refine (l06Around_any (Hh := Hh) _ (by simp only [World.cell?_drewN, d0]) (by simp only [World.cell?_drewN, d1]) HN.out h2 h16 g2 g16 hlt).mono ?_; rintro e W2 ⟨⟨v2, rfl, o2⟩, b2⟩; obtain ⟨a2, k2, rfl, hl2, r2⟩ := irow_vown o2; clear o2; have R2 := Hf.mk r2; have E2 := Hf.mk (Below.on (B := W1.heap.size) (Below.drews (Below.refl _ _)) b2 (by simp)); have O2 := Hf.mk (iown_below hown.out E2.out); have B2 := Hf.mk (Below.on hbel.out E2.out (by omega)); clear r2 b2))
      have e0 := Below.keep B2.out c0
      have e2 := Below.keep B2.out c2
      have X2 := Hf.mk (HX.out.below B2.out)
      have HL := Hf.mk (fun x hx => nbs_beside (i := m) (k := x) HN.out h2 h16 g16 hlt hx)
      have hL := nbs_len W Hh m
      have FI := X2.out m hlt
      have KP1 := Hf.mk (fun w c => l06Place_any (b := b) (W := W) (i := m) w c (by omega) (by omega))
      generalize hLL : nbs W Hh m = L at *
      go_loopw [6, 7, 9] (fun bb mm cc wr => ∃ (c M : Nat) (B : Int), c ≤ L.length ∧ bb = .int .i64 B ∧ mm = .float .f32 M ∧ cc = .int .i64 c ∧ Hf (drF f W m (L.take c) = (B, M)) ∧ Fl .f32 M M ∧ Hf (drOk f W m (L.take c) = true) ∧ Drew W2 wr) (fun _ _ cc _ => L.length - (intOf cc).toNat)
      case atStart => exact ⟨0, 0, -1, by omega, rfl, rfl, rfl, ⟨rfl⟩, zero32, ⟨rfl⟩, (by repeat (first | exact Drew.refl _ | refine Drew.more ?_))⟩
      case round =>
        obtain ⟨c, M, B, hc, rfl, rfl, rfl, hF, hM, hK, q, rfl⟩ := hrel
        by_cases hlc : c < L.length
        · obtain ⟨p2, rfl, cc⟩ := R2.out c hlc
          obtain ⟨j, hj, hjn, hbs⟩ := HL.out (L.getD c 0) (by rw [List.getD, List.getElem?_eq_getElem hlc]; exact List.getElem_mem hlc)
          rw [hj] at cc
          have FJ := X2.out j hjn
          have FW : Fl .f32 (fallC f W m j) (fallC f W m j) := fall_fl hbs HF.out w
          have KP2 := Hf.mk (fun w c => l06Place_any (b := b) (W := W) (i := j) w c (by omega) (by omega))
          have mD := fop_word (P := Try.prog) 25 (sub_notN (fin_at HG.out.fin hlt) (fin_at HG.out.fin hjn))
          have mQ := fop_word (P := Try.prog) 25 (fall_notN hbs (fin_at HG.out.fin hlt) (fin_at HG.out.fin hjn))
          have hT := hbs.two.swap
          have KS := Hf.mk hbs.two.sym
          have mS : ∀ w, (binOp .sub 76 (.complex .f32 (wI ((j % W : Nat) : Int)) (wI ((j / W : Nat) : Int))) (.complex .f32 (wI ((m % W : Nat) : Int)) (wI ((m / W : Nat) : Int)))).run Try.prog w = .ok (.complex .f32 (wI (((j % W : Nat) : Int) - ((m % W : Nat) : Int))) (wI (((j / W : Nat) : Int) - ((m / W : Nat) : Int)))) w := csub_wI _ hT.a hT.b hT.c hT.d
          have KG : Hf (∀ w, Calls Try.prog 121 #[.complex .f32 (wI (((j % W : Nat) : Int) - ((m % W : Nat) : Int))) (wI (((j / W : Nat) : Int) - ((m / W : Nat) : Int)))] w (RT (.float .f32 (dstC W m j)) w)) := Hf.mk (fun w => by rw [← KS.out]; exact exactF (l01Long_any (wI_fl _) (wI_fl _) hT.fits w) hT.fin)
          have KE := Hf.mk (show fop .quo .f32 (fop .sub .f32 (f m) (f j)) (dstC W m j) = fallC f W m j from rfl)
          have KY := Hf.mk (fun hv => drF_yes hlc hj hF.out hv)
          have KN := Hf.mk (fun hv => drF_no hlc hj hF.out hv)
          have KO := Hf.mk (fun hv => drOk_take hlc hj hK.out hv)
          have KZ := Hf.mk (fun (hv : fin .f32 (fallC f W m j) = false) => drOkA_no (Hh := Hh) hlt (by rw [hLL]; exact drOk_no hlc hj hv))
          unfold fallC at mQ
          clear hbs hT hj KS
          rw [KE.out] at mQ
          clear KE
          generalize fallC f W m j = F at *
          generalize dstC W m j = D at *
          generalize fop .sub .f32 (f m) (f j) = U at *
          generalize wI (((j % W : Nat) : Int) - ((m % W : Nat) : Int)) = dx at *
          generalize wI (((j / W : Nat) : Int) - ((m / W : Nat) : Int)) = dy at *
          generalize wI ((j % W : Nat) : Int) = jx at *
          generalize wI ((j / W : Nat) : Int) = jy at *
          generalize wI ((m % W : Nat) : Int) = ix at *
          generalize wI ((m / W : Nat) : Int) = iy at *
          cases hv1 : fin .f32 F
          · have H1 := Hf.mk hv1
            have HA := Hf.mk (KZ.out hv1)
            have KV := Keep.mk (show drA f W Hh n = [] by unfold drA; rw [HA.out]; rfl)
            clear hv1
            go_wp2
            go_quiet ((first | (go_at_call_of 120 (Value.int .i64 (j : Int)); exact quiet_of2 (KP2.out _ (by simp only [World.cell?_drewN, e0]))) | (go_at_call_of 120 (Value.int .i64 (m : Int)); exact quiet_of2 (KP1.out _ (by simp only [World.cell?_drewN, e0]))) | (go_at_call 121; exact quiet_of2 (KG.out _))))
            go_wp2_with (first | (go_at_call 56; refine (l01Finite_any FW _).mono ?_; rw [H1.out]; rintro e w' ⟨rfl, q1, rfl⟩))
            go_ret2
            rw [KV.out, HA.out]
            exact RLy.nil (by repeat (first | exact B2.out | refine Below.drews ?_))
          · have H1 := Hf.mk hv1
            have HO := Hf.mk (KO.out hv1)
            clear hv1 KZ KO
            cases hv2 : fcmp .gtr .f32 F M
            · have HP := Hf.mk (KN.out hv2)
              clear KN KY
              go_wp2
              go_quiet ((first | (go_at_call_of 120 (Value.int .i64 (j : Int)); exact quiet_of2 (KP2.out _ (by simp only [World.cell?_drewN, e0]))) | (go_at_call_of 120 (Value.int .i64 (m : Int)); exact quiet_of2 (KP1.out _ (by simp only [World.cell?_drewN, e0]))) | (go_at_call 121; exact quiet_of2 (KG.out _))))
              go_wp2_with (first | (go_at_call 56; refine (l01Finite_any FW _).mono ?_; rw [H1.out]; rintro e w' ⟨rfl, q1, rfl⟩) | (refine wpList_fcmp rfl rfl rfl rfl rfl (by first | (with_reducible assumption) | (with_reducible exact Fl.ofInt _ _) | exact Fl.not (by decide +kernel) (by decide +kernel)) (by first | (with_reducible assumption) | (with_reducible exact Fl.ofInt _ _) | exact Fl.not (by decide +kernel) (by decide +kernel)) ?_; simp only [Act.put, List.setIfInBounds_toArray, List.set_cons_succ, List.set_cons_zero, hv2]))
              go_roundw
              case rel => exact ⟨c + 1, _, _, by omega, rfl, rfl, i_ext2 (by omega), HP, hM, HO, (by repeat (first | exact Drew.refl _ | refine Drew.more ?_))⟩
              case measure => simp [intOf]; omega
            · have HP := Hf.mk (KY.out hv2)
              clear KN KY
              go_wp2
              go_quiet ((first | (go_at_call_of 120 (Value.int .i64 (j : Int)); exact quiet_of2 (KP2.out _ (by simp only [World.cell?_drewN, e0]))) | (go_at_call_of 120 (Value.int .i64 (m : Int)); exact quiet_of2 (KP1.out _ (by simp only [World.cell?_drewN, e0]))) | (go_at_call 121; exact quiet_of2 (KG.out _))))
              go_wp2_with (first | (go_at_call 56; refine (l01Finite_any FW _).mono ?_; rw [H1.out]; rintro e w' ⟨rfl, q1, rfl⟩) | (refine wpList_fcmp rfl rfl rfl rfl rfl (by first | (with_reducible assumption) | (with_reducible exact Fl.ofInt _ _) | exact Fl.not (by decide +kernel) (by decide +kernel)) (by first | (with_reducible assumption) | (with_reducible exact Fl.ofInt _ _) | exact Fl.not (by decide +kernel) (by decide +kernel)) ?_; simp only [Act.put, List.setIfInBounds_toArray, List.set_cons_succ, List.set_cons_zero, hv2]))
              go_roundw
              case rel => exact ⟨c + 1, _, _, by omega, rfl, rfl, i_ext2 (by omega), HP, FW, HO, (by repeat (first | exact Drew.refl _ | refine Drew.more ?_))⟩
              case measure => simp [intOf]; omega
        · obtain rfl : c = L.length := by omega
          rw [List.take_length] at hF hK
          have HS := Hf.mk (show drL f W Hh (m + 1) = drL f W Hh m ++ [B] by rw [drL_succ, hLL, hF.out])
          have HO := Hf.mk (lt_succ_fact hok.out (by rw [hLL]; exact hK.out))
          have hpl := drL_len (f := f) (W := W) (Hh := Hh) (m := m)
          have S2 := B2.out.size
          go_wp2_with (first | (at_builtin; refine wpList_append_own _ rfl _ _ 56 rfl w.heap.size 2 i0 (.int .i64 0) 1 8 Try.underlying56 hi0 hz0 hz1 hz2 rfl (by decide) _ (drL f W Hh m).length (ils (drL f W Hh m)) rfl (own_al (own_dr O2.out _) _) ⟨W2.heap.size, 0, none⟩ 1 1 [.int .i64 B] rfl rfl (cell_one _ _ _) int_one (by unfold maxLen; omega) (by omega) (by first | omega | (simp; done) | (simp; omega)) ?_; intro v' w3 o3 hgrow3 _; have B3 := Hf.mk (Below.grown (Below.alloc (Below.drews B2.out) (by first | omega | (simp; omega)) _) hgrow3 (by simp; omega) (fun k h => own_ge O2.out h)); have O3 := Hf.mk o3; clear o3 hgrow3))
          go_roundw
          case rel => exact ⟨m + 1, _, by omega, rfl, i_ext2 (by omega), ⟨by rw [HS.out]; have := O3.out; rw [ils_app] at this; simpa [Nat.add_assoc] using this⟩, HO, B3⟩
          case measure => simp [intOf]; omega
    · obtain rfl : m = n := by omega
      have KA := Hf.mk (drOkA_yes hok.out)
      have KV := Keep.mk (show drA f W Hh m = drL f W Hh m by unfold drA; rw [KA.out]; rfl)
      go_wp2
      go_quiet (fail)
      go_wp2
      go_ret2
      rw [KV.out, KA.out]
      refine ⟨⟨_, rfl, ?_⟩, Below.drews hbel.out⟩
      rw [ils_len]
      exact own_dr hown.out _
/-- whether a grid has drains, and which -/
def drB (ok : Bool) (f : Nat → Nat) (wd hg : Int) (n : Nat) : Bool := ok && drOkA f wd.toNat hg.toNat n
def drV (ok : Bool) (f : Nat → Nat) (wd hg : Int) (n : Nat) : List Int := if ok then drA f wd.toNat hg.toNat n else []
theorem drV_len {ok : Bool} {f : Nat → Nat} {wd hg : Int} (n : Nat) : (drV ok f wd hg n).length ≤ n := by
  unfold drV drA
  cases ok
  · exact Nat.zero_le _
  · cases drOkA f wd.toNat hg.toNat n
    · exact Nat.zero_le _
    · show (drL _ _ _ _).length ≤ n
      rw [drL_len]
      exact Nat.le_refl _
theorem RLy.own {T : TypeId} {ok : Bool} {vs : List Value} {w w1 w' : World} {e : Ending} (h : RLy T ok vs w1 e w') (b : Below w.heap.size w w1) (hs : w.heap.size ≤ w1.heap.size) : RLy T ok vs w e w' := by
  obtain ⟨⟨v, he, ho⟩, b1⟩ := h
  exact ⟨⟨v, he, own_lower ho hs⟩, Below.on b b1 hs⟩
set_option maxHeartbeats 4000000 in
theorem sDrains_any {g n k : Nat} {wd hg : Int} {f : Nat → Nat} (hfl : ∀ j, Fl .f32 (f j) (f j)) (w : World) (h : Told w g n f) (hl : n ≤ 1048576) : Calls Try.prog 38 #[gd wd hg (sl g n k)] w (RLy 2 (drB (gridB wd hg n f) f wd hg n) (ils (drV (gridB wd hg n f) f wd hg n)) w) := by
  have H := Hf.mk h
  clear h
  cases h1 : gridB wd hg n f
  · have H1 := Hf.mk h1
    clear h1
    go_enter Try.func38, Try.ntmps38
    go_wp2_with (first | (go_at_call 55; refine (l06Is_any (k := k) (wd := wd) (hg := hg) _ (by simp) (by simp) (by simp) (H.out.below (by repeat (first | exact Below.refl _ _ | with_reducible assumption | refine Below.drews ?_ | refine Below.drew ?_ | refine Below.alloc ?_ (by simp <;> omega) _ | refine Below.setCell ?_ (by simp <;> omega) _))) hl).mono ?_; rw [H1.out]; rintro e w' ⟨rfl, q0, rfl⟩))
    go_ret2
    exact RLy.nil (by repeat (first | exact Below.refl _ _ | with_reducible assumption | refine Below.drews ?_ | refine Below.drew ?_ | refine Below.alloc ?_ (by simp <;> omega) _ | refine Below.setCell ?_ (by simp <;> omega) _))
  · obtain ⟨W, Hh, hG⟩ := gridB_of h1
    have X := Hf.mk (H.out.exact hG.fin)
    have H1 := Hf.mk h1
    obtain rfl := hG.w
    obtain rfl := hG.h
    have HG := Hf.mk hG
    have HF := Hf.mk hfl
    have KV := Keep.mk (show drB true f (W : Int) (Hh : Int) n = drOkA f W Hh n ∧ drV true f (W : Int) (Hh : Int) n = drA f W Hh n from ⟨rfl, rfl⟩)
    clear h1 hG hfl
    go_enter Try.func38, Try.ntmps38
    go_wp2_with (first | (go_at_call 55; refine (l06Is_any (k := k) (wd := (W : Int)) (hg := (Hh : Int)) _ (by simp) (by simp) (by simp) (H.out.below (by repeat (first | exact Below.refl _ _ | with_reducible assumption | refine Below.drews ?_ | refine Below.drew ?_ | refine Below.alloc ?_ (by simp <;> omega) _ | refine Below.setCell ?_ (by simp <;> omega) _))) hl).mono ?_; rw [H1.out]; rintro e w' ⟨rfl, q0, rfl⟩) | (go_at_call 85; refine (l06Drains_any (k := k) (g := g) _ (by simp) (by simp) (by simp) (X.out.below (by repeat (first | exact Below.refl _ _ | with_reducible assumption | refine Below.drews ?_ | refine Below.drew ?_ | refine Below.alloc ?_ (by simp <;> omega) _ | refine Below.setCell ?_ (by simp <;> omega) _))) HF.out HG.out).mono ?_; rintro e w2 h2; obtain ⟨⟨v, rfl, o2⟩, b2⟩ := RLy.own (w := w) h2 (by repeat (first | exact Below.refl _ _ | with_reducible assumption | refine Below.drews ?_ | refine Below.drew ?_ | refine Below.alloc ?_ (by simp <;> omega) _ | refine Below.setCell ?_ (by simp <;> omega) _)) (by simp)))
    go_ret2
    rw [KV.out.1, KV.out.2]
    exact ⟨⟨v, rfl, o2⟩, b2⟩
end Go.Proofs.Ytcgmffpddahgoab
