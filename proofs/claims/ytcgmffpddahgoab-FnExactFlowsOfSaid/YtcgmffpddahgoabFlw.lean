/-
  FlowsOf, of the program and of the model. No premise beyond those named.
-/
import Derived.Test.YtcgmffpddahgoabSni
namespace Go.Proofs.Ytcgmffpddahgoab
open Go Go.RowKit Go.Shelf
set_option maxRecDepth 100000
attribute [local go_sem] Oper.semAt_some

/-- how often water goes through a place, of these -/
def cntV (pre : List (Nat × Nat)) (j : Nat) : Nat := pre.countP (fun x => x.2 == j)
theorem cntV_snoc {pre : List (Nat × Nat)} {x : Nat × Nat} {j : Nat} : cntV (pre ++ [x]) j = cntV pre j + if x.2 = j then 1 else 0 := by
  unfold cntV
  rw [List.countP_append, List.countP_cons, List.countP_nil, Nat.zero_add]
  by_cases h : x.2 = j <;> simp [h]
theorem cntV_le {pre : List (Nat × Nat)} {j : Nat} : cntV pre j ≤ pre.length := List.countP_le_length
theorem cntV_lt {n : Nat} {pre : List (V2 n)} {j : Nat} (h : pre.length < n * n) (h256 : n ≤ 256) : cntV (pre.map Subtype.val) j ≤ 65536 := by
  have h1 := cntV_le (pre := pre.map Subtype.val) (j := j)
  have h2 : n * n ≤ 256 * 256 := Nat.mul_le_mul h256 h256
  rw [List.length_map] at h1
  omega
def flwL (D : Nat → Int) (n : Nat) : List Int := (List.range n).map (fun j => (cntV (visL D n n) j : Int))
theorem flwL_len {D : Nat → Int} {n : Nat} : (flwL D n).length = n := by simp [flwL]
theorem flw_all {D : Nat → Int} {n : Nat} {pre : List (V2 n)} {cu : List Value} (hl : cu.length = n * 1) (hp : pre.map Subtype.val = visL D n n) (h : ∀ j, j < n → cu[j]? = some (.int .i64 (cntV (pre.map Subtype.val) j : Int))) : cu = ils (flwL D n) := by
  refine List.ext_getElem? (fun j => ?_)
  by_cases hj : j < n
  · rw [h j hj, hp]
    simp [ils, flwL, List.getElem?_map, List.getElem?_range hj]
  · rw [List.getElem?_eq_none (by omega), List.getElem?_eq_none (by rw [ils_len, flwL_len]; omega)]
theorem flw_step {n j : Nat} {pre : List (V2 n)} {x : V2 n} {cu : List Value} (hl : cu.length = n * 1) (h : ∀ j, j < n → cu[j]? = some (.int .i64 (cntV (pre.map Subtype.val) j : Int))) (hj : j < n) : (cu.set x.1.2 (.int .i64 ((cntV (pre.map Subtype.val) x.1.2 : Int) + 1)))[j]? = some (.int .i64 (cntV ((pre ++ [x]).map Subtype.val) j : Int)) := by
  rw [List.map_append, List.map_cons, List.map_nil, cntV_snoc]
  by_cases he : x.1.2 = j
  · subst he
    rw [List.getElem?_set_self (by omega), if_pos rfl]
    rfl
  · rw [List.getElem?_set_ne (by omega), if_neg he, Nat.add_zero]
    exact h j hj
def flV (ok : Bool) (f : Nat → Nat) (wd hg : Int) (n : Nat) : List Int := if drB ok f wd hg n then flwL (dnF f wd.toNat hg.toNat) n else []
theorem flV_len {ok : Bool} {f : Nat → Nat} {wd hg : Int} (n : Nat) : (flV ok f wd hg n).length ≤ n := by
  unfold flV
  cases drB ok f wd hg n
  · exact Nat.zero_le _
  · show (flwL _ _).length ≤ n
    rw [flwL_len]
    exact Nat.le_refl _
set_option maxHeartbeats 8000000 in
theorem sFlows_any {g n k : Nat} {wd hg : Int} {f : Nat → Nat} (hfl : ∀ j, Fl .f32 (f j) (f j)) (w : World) (h : Told w g n f) (hl : n ≤ 1048576) : Calls Try.prog 45 #[gd wd hg (sl g n k)] w (RLy 2 (drB (gridB wd hg n f) f wd hg n) (ils (flV (gridB wd hg n f) f wd hg n)) w) := by
  obtain ⟨i0, hi0, hz0, hz1, hz2⟩ := info_parts (P := Try.prog) (e := 2) (z := .int .i64 0) (size := 1) (bytes := 8) (by kernel_rfl)
  have KD := Hf.mk (fun w (h : Told w g n f) => sDrains_any (k := k) (wd := wd) (hg := hg) hfl w h hl)
  have H := Hf.mk h
  have B0 := Hb.mk (Below.refl w.heap.size w)
  clear h
  cases hb : drB (gridB wd hg n f) f wd hg n
  · have KV := Keep.mk (show flV (gridB wd hg n f) f wd hg n = [] by unfold flV; rw [hb]; rfl)
    rw [hb] at KD
    clear hb
    go_enter Try.func45, Try.ntmps45
    go_wp2_with (first | (go_at_call 38; refine (KD.out _ (H.out.below (by repeat (first | exact Below.refl _ _ | with_reducible assumption | refine Below.drews ?_ | refine Below.drew ?_ | refine Below.alloc ?_ (by simp <;> omega) _ | refine Below.setCell ?_ (by simp <;> omega) _)))).mono ?_; rintro e w1 ⟨⟨v, rfl, o1⟩, b1⟩; have B1 := Hb.mk (Below.on (B := w.heap.size) (a := w) (by repeat (first | exact B0.out | refine Below.drews ?_ | refine Below.drew ?_ | refine Below.alloc ?_ (by have hq_ := B0.out.size; first | omega | (simp <;> omega)) _ | refine Below.setCell ?_ (by have hq_ := B0.out.size; first | omega | (simp <;> omega)) _)) b1 (by have hq_ := B0.out.size; first | omega | (simp <;> omega))); clear o1 b1))
    go_ret2
    rw [KV.out]
    exact RLy.nil (by repeat (first | with_reducible refine Below.setCell ?_ (by first | omega | (simp <;> omega)) _ | with_reducible refine Below.drews ?_ | with_reducible refine Below.drew ?_ | with_reducible refine Below.alloc ?_ (by first | omega | (simp <;> omega)) _ | with_reducible exact B1.out | with_reducible exact Below.refl _ _))
  · obtain ⟨hg1, hok⟩ := drB_of hb
    obtain ⟨W, Hh, hG⟩ := gridB_of hg1
    obtain rfl := hG.w
    obtain rfl := hG.h
    have hvl := drV_of hb
    rw [hb] at KD
    rw [hvl] at KD
    have hD := dn_of hG hok
    have KV := Keep.mk (show flV (gridB (W : Int) (Hh : Int) n f) f (W : Int) (Hh : Int) n = flwL (dnF f W Hh) n by unfold flV; rw [hb]; rfl)
    have KL := Hf.mk (drL_len (f := f) (W := W) (Hh := Hh) (m := n))
    have KG := Hf.mk (fun i (hi : i < n) => drL_get (f := f) (W := W) (Hh := Hh) hi)
    rw [Int.toNat_natCast, Int.toNat_natCast] at KD
    have n256 := hG.n256
    have hp : (W : Int) * (Hh : Int) = (n : Int) := by rw [hG.nn, Int.natCast_mul]
    have HD := Hf.mk hD
    clear hb hg1 hok hG hvl hD
    generalize dnF f W Hh = D at *
    generalize drL f W Hh n = L at *
    go_enter Try.func45, Try.ntmps45
    go_wp2_with (first | (go_at_call 38; refine (KD.out _ (H.out.below (by repeat (first | exact Below.refl _ _ | with_reducible assumption | refine Below.drews ?_ | refine Below.drew ?_ | refine Below.alloc ?_ (by simp <;> omega) _ | refine Below.setCell ?_ (by simp <;> omega) _)))).mono ?_; rintro e w1 ⟨⟨v, rfl, o1⟩, b1⟩; have B1 := Hb.mk (Below.on (B := w.heap.size) (a := w) (by repeat (first | exact B0.out | refine Below.drews ?_ | refine Below.drew ?_ | refine Below.alloc ?_ (by have hq_ := B0.out.size; first | omega | (simp <;> omega)) _ | refine Below.setCell ?_ (by have hq_ := B0.out.size; first | omega | (simp <;> omega)) _)) b1 (by have hq_ := B0.out.size; first | omega | (simp <;> omega))); have r0 := Hb.mk (At.keep b1 (p := ⟨(w.heap.size), 0, none⟩) (v := .int .i64 W) (by simp [go_sem]) (by simp [go_sem])); obtain ⟨r0c, r0z, r0l⟩ := r0.out; have r1 := Hb.mk (At.keep b1 (p := ⟨(w.heap.size), 1, none⟩) (v := .int .i64 Hh) (by simp [go_sem]) (by simp [go_sem])); obtain ⟨r1c, r1z, r1l⟩ := r1.out; have r2 := Hb.mk (At.keep b1 (p := ⟨(w.heap.size), 2, none⟩) (v := sl g n k) (by simp [go_sem]) (by simp [go_sem])); obtain ⟨r2c, r2z, r2l⟩ := r2.out; clear b1; rw [ils_len, KL.out] at o1; have L1 := Hf.mk o1.lt; obtain ⟨a1, k1, rfl, hl1, q1⟩ := irow_vown o1; have R1 := Hf.mk q1; clear o1 q1 hl1) | (at_make; refine wpList_make_full _ rfl _ _ 56 rfl w1.heap.size 2 i0 _ 1 Try.underlying56 hi0 hz0 hz1 .i64 .i64 _ _ n rfl rfl rfl rfl (by rw [hz2]; omega) (by unfold maxLen; omega) (Nat.le_refl _) ?_; intro w0 hown0 hgrow0))
    have L0 := own_lt hown0
    have b00 : Below w1.heap.size w1 w0 := (Below.refl _ _).grown hgrow0 (Nat.le_refl _) (fun k h => by cases h)
    have S1 := B1.out.size
    have hlen0 : (madeCells (Value.int .i64 0).cells (n * 1)).toList = List.replicate n (Value.int .i64 0) := mades_int
    rw [hlen0] at hown0
    have HO0 := Hf.mk hown0
    clear hown0 hgrow0
    go_loopw [7] (fun i wr => ∃ (m : Nat) (pre : List (V2 n)) (cu : List Value), m ≤ n ∧ i = .int .i64 m ∧ Hf (pre.map Subtype.val = visL D n m) ∧ Hf (wr.ownsRow w1.heap.size 2 1 (sl w1.heap.size n n) n cu) ∧ Hf (∀ j, j < n → cu[j]? = some (.int .i64 (cntV (pre.map Subtype.val) j : Int))) ∧ Hf (Below w1.heap.size w1 wr)) (fun i _ => n - (intOf i).toNat)
    case atStart => exact ⟨0, [], _, by omega, rfl, ⟨rfl⟩, HO0, ⟨fun j hj => by rw [List.getElem?_replicate]; simp [hj, cntV]⟩, ⟨b00⟩⟩
    case round =>
      obtain ⟨m, pre, cu, hm, rfl, hpre, hown, hcur, hbel⟩ := hrel
      obtain ⟨W1, hW1⟩ : ∃ W1, W1 = wr := ⟨_, rfl⟩
      subst hW1
      have d0 := Below.keep hbel.out r0c
      have d1 := Below.keep hbel.out r1c
      have S2 := hbel.out.size
      by_cases hlt : m < n
      · go_wp2
        go_loopw [8] (fun x wr => ∃ (x' : Int) (pre : List (V2 n)) (vis : List Nat) (cu : List Value), x = .int .i64 x' ∧ Hf (Way D n m x' pre vis) ∧ Hf (wr.ownsRow w1.heap.size 2 1 (sl w1.heap.size n n) n cu) ∧ Hf (∀ j, j < n → cu[j]? = some (.int .i64 (cntV (pre.map Subtype.val) j : Int))) ∧ Hf (Below w1.heap.size w1 wr)) (fun x _ => wayM (rk f n) (intOf x))
        case atStart => exact ⟨(m : Int), pre, [], cu, rfl, ⟨Way.start hpre.out hlt⟩, hown, hcur, hbel⟩
        case round =>
          obtain ⟨x, pre2, vis, cu2, rfl, hw, ho2, hc2, hb2⟩ := hrel
          rcases hw.out.at' with rfl | ⟨j, rfl, hj⟩
          · have HW := Hf.mk (hw.out.all (by decide))
            go_wp2
            go_roundw
            case rel => exact ⟨m + 1, pre2, cu2, by omega, i_ext2 (by omega), HW, ho2, hc2, hb2⟩
            case measure => simp [intOf]; omega
          · have hpl := hw.out.len HD.out hlt hj
            have HO := Hf.mk (hw.out.on HD.out hlt hj)
            have HM := Hf.mk (wayM_on HD.out hj)
            have hlen : cu2.length = n * 1 := ho2.out.1
            have cz : wr.cell? ⟨w1.heap.size, j, none⟩ = some (.int .i64 (cntV (pre2.map Subtype.val) j : Int)) := (ho2.out.cellAt j (by omega)).trans (hc2.out _ hj)
            have fz := ho2.out.frozenAt j
            have lz := own_lt ho2.out
            have hst := Hf.mk (ho2.out.stored j (.int .i64 ((cntV (pre2.map Subtype.val) j : Int) + 1)))
            have hcl := cntV_lt (j := j) hpl n256
            have KS := Hf.mk (fun j' (hj' : j' < n) => flw_step (x := ⟨(m, j), hlt, hj⟩) hlen hc2.out hj')
            dsimp only at KS
            obtain ⟨p2, rfl, cc⟩ := (R1.out.below hb2.out) j (by rw [KL.out]; exact hj)
            rw [KG.out j hj] at cc
            have hA : p2.block < w1.heap.size := (L1.out p2.block rfl).2
            have ne : (w1.heap.size : Nat) ≠ p2.block := by omega
            have cc' : (wr.setCell ⟨w1.heap.size, j, none⟩ (.int .i64 ((cntV (pre2.map Subtype.val) j : Int) + 1))).cell? (p2.add j) = some (.int .i64 (D j)) := by
              rw [World.cell?_setCell_other]
              · exact cc
              · intro he
                have h1 : (p2.add j).block = p2.block := by unfold Addr.add; split <;> rfl
                rw [← he] at h1
                exact ne h1
            generalize cntV (pre2.map Subtype.val) j = c at *
            clear cc
            go_wp2
            go_roundw
            case rel => exact ⟨_, _, _, _, rfl, HO, ⟨hst.out.1⟩, KS, ⟨Below.setCell hb2.out (Nat.le_refl _) _⟩⟩
            case measure => exact HM.out
      · obtain rfl : m = n := by omega
        have KU := Hf.mk (flw_all hown.out.1 hpre.out hcur.out)
        go_wp2
        go_ret2
        rw [KV.out]
        refine ⟨⟨_, rfl, ?_⟩, Below.on B1.out hbel.out S1⟩
        rw [ils_len, flwL_len]
        have := own_lower hown.out S1
        rw [KU.out] at this
        exact this
set_option maxHeartbeats 8000000 in
theorem iFlows_any {g n k : Nat} {wd hg : Int} {f : Nat → Nat} (hfl : ∀ j, Fl .f32 (f j) (f j)) (w : World) (h : Told w g n f) (hl : n ≤ 1048576) : Calls Try.prog 46 #[gd wd hg (sl g n k)] w (RLy 2 (drB (gridB wd hg n f) f wd hg n) (ils (flV (gridB wd hg n f) f wd hg n)) w) := by
  obtain ⟨i0, hi0, hz0, hz1, hz2⟩ := info_parts (P := Try.prog) (e := 2) (z := .int .i64 0) (size := 1) (bytes := 8) (by kernel_rfl)
  have KD := Hf.mk (fun w (h : Told w g n f) => iDrains_any (k := k) (wd := wd) (hg := hg) hfl w h hl)
  have H := Hf.mk h
  have B0 := Hb.mk (Below.refl w.heap.size w)
  clear h
  cases hb : drB (gridB wd hg n f) f wd hg n
  · have KV := Keep.mk (show flV (gridB wd hg n f) f wd hg n = [] by unfold flV; rw [hb]; rfl)
    rw [hb] at KD
    clear hb
    refine (callsIn_wide (n := 4)).1 ?_
    refine callsIn_of_wp_marks Try.func46 rfl trivial ?_ rfl
    simp only [Try.ntmps46, List.size_toArray, List.length_cons, List.length_nil, Nat.reduceAdd, Nat.reduceSub, Array.replicate_succ, Array.replicate_zero, List.push_toArray, List.append_toArray, List.nil_append, List.cons_append]
    gi_wp2_with (first | (refine ⟨trivial, ?_⟩; gi_at_call 39; refine (callsIn_wide.2 (KD.out _ (H.out.below (by repeat (first | exact Below.refl _ _ | with_reducible assumption | refine Below.drews ?_ | refine Below.drew ?_ | refine Below.alloc ?_ (by simp <;> omega) _ | refine Below.setCell ?_ (by simp <;> omega) _))))).mono ?_; rintro e w1 ⟨⟨v, rfl, o1⟩, b1⟩; have B1 := Hb.mk (Below.on (B := w.heap.size) (a := w) (by repeat (first | exact B0.out | refine Below.drews ?_ | refine Below.drew ?_ | refine Below.alloc ?_ (by have hq_ := B0.out.size; first | omega | (simp <;> omega)) _ | refine Below.setCell ?_ (by have hq_ := B0.out.size; first | omega | (simp <;> omega)) _)) b1 (by have hq_ := B0.out.size; first | omega | (simp <;> omega))); clear o1 b1))
    refine ⟨_, results_tmp2 rfl _ _ _, ?_⟩
    rw [KV.out]
    exact RLy.nil (by repeat (first | with_reducible refine Below.setCell ?_ (by first | omega | (simp <;> omega)) _ | with_reducible refine Below.drews ?_ | with_reducible refine Below.drew ?_ | with_reducible refine Below.alloc ?_ (by first | omega | (simp <;> omega)) _ | with_reducible exact B1.out | with_reducible exact Below.refl _ _))
  · obtain ⟨hg1, hok⟩ := drB_of hb
    obtain ⟨W, Hh, hG⟩ := gridB_of hg1
    obtain rfl := hG.w
    obtain rfl := hG.h
    have hvl := drV_of hb
    rw [hb] at KD
    rw [hvl] at KD
    have hD := dn_of hG hok
    have KV := Keep.mk (show flV (gridB (W : Int) (Hh : Int) n f) f (W : Int) (Hh : Int) n = flwL (dnF f W Hh) n by unfold flV; rw [hb]; rfl)
    have KL := Hf.mk (drL_len (f := f) (W := W) (Hh := Hh) (m := n))
    have KG := Hf.mk (fun i (hi : i < n) => drL_get (f := f) (W := W) (Hh := Hh) hi)
    rw [Int.toNat_natCast, Int.toNat_natCast] at KD
    have n256 := hG.n256
    have HD := Hf.mk hD
    clear hb hg1 hok hG hvl hD
    generalize dnF f W Hh = D at *
    generalize drL f W Hh n = L at *
    refine (callsIn_wide (n := 4)).1 ?_
    refine callsIn_of_wp_marks Try.func46 rfl trivial ?_ rfl
    simp only [Try.ntmps46, List.size_toArray, List.length_cons, List.length_nil, Nat.reduceAdd, Nat.reduceSub, Array.replicate_succ, Array.replicate_zero, List.push_toArray, List.append_toArray, List.nil_append, List.cons_append]
    gi_wp2_with (first | (refine ⟨trivial, ?_⟩; gi_at_call 39; refine (callsIn_wide.2 (KD.out _ (H.out.below (by repeat (first | exact Below.refl _ _ | with_reducible assumption | refine Below.drews ?_ | refine Below.drew ?_ | refine Below.alloc ?_ (by simp <;> omega) _ | refine Below.setCell ?_ (by simp <;> omega) _))))).mono ?_; rintro e w1 ⟨⟨v, rfl, o1⟩, b1⟩; have B1 := Hb.mk (Below.on (B := w.heap.size) (a := w) (by repeat (first | exact B0.out | refine Below.drews ?_ | refine Below.drew ?_ | refine Below.alloc ?_ (by have hq_ := B0.out.size; first | omega | (simp <;> omega)) _ | refine Below.setCell ?_ (by have hq_ := B0.out.size; first | omega | (simp <;> omega)) _)) b1 (by have hq_ := B0.out.size; first | omega | (simp <;> omega))); have r0 := Hb.mk (At.keep b1 (p := ⟨(w.heap.size), 0, none⟩) (v := .int .i64 W) (by simp [go_sem]) (by simp [go_sem])); obtain ⟨r0c, r0z, r0l⟩ := r0.out; have r1 := Hb.mk (At.keep b1 (p := ⟨(w.heap.size), 1, none⟩) (v := .int .i64 Hh) (by simp [go_sem]) (by simp [go_sem])); obtain ⟨r1c, r1z, r1l⟩ := r1.out; have r2 := Hb.mk (At.keep b1 (p := ⟨(w.heap.size), 2, none⟩) (v := sl g n k) (by simp [go_sem]) (by simp [go_sem])); obtain ⟨r2c, r2z, r2l⟩ := r2.out; clear b1; rw [ils_len, KL.out] at o1; have L1 := Hf.mk o1.lt; obtain ⟨a1, k1, rfl, hl1, q1⟩ := irow_vown o1; have R1 := Hf.mk q1; clear o1 q1 hl1) | (gi_at_make; refine wpListIn_make_full _ rfl _ _ 56 rfl w1.heap.size 2 i0 _ 1 Try.underlying56 hi0 hz0 hz1 .i64 .i64 _ _ n rfl rfl rfl rfl (by rw [hz2]; omega) (by unfold maxLen; omega) (Nat.le_refl _) ?_; intro w0 hown0 hgrow0) | (refine ⟨trivial, ?_⟩; gi_at_call 87; refine (callsIn_wide.2 (strm_any _ _ _ _)).mono ?_; rintro e w2 ⟨rfl, rfl⟩))
    have L0 := own_lt hown0
    have b00 : Below w1.heap.size w1 w0 := (Below.refl _ _).grown hgrow0 (Nat.le_refl _) (fun k h => by cases h)
    have S1 := B1.out.size
    have hlen0 : (madeCells (Value.int .i64 0).cells (n * 1)).toList = List.replicate n (Value.int .i64 0) := mades_int
    rw [hlen0] at hown0
    have hA : ∀ p, a1 = some p → p.block ≠ w1.heap.size := by
      rintro p rfl
      have h := (L1.out p.block rfl).2
      omega
    have SM : ∀ (o : Obj), (w0.alloc o).heap.size = w0.heap.size + 1 := fun o => by simp
    have z0 : Below w0.heap.size w0 ((w0.alloc (.cells #[.slice (some ⟨w1.heap.size, 0, none⟩) n n] 56)).alloc (.cells #[.slice a1 n k1] 56)) := ((Below.refl _ w0).alloc (Nat.le_refl _) _).alloc (by simp) _
    have bx := Boxed.new w0 56 (.slice (some ⟨w1.heap.size, 0, none⟩) n n)
    have bs := Boxed.new (w0.alloc (.cells #[.slice (some ⟨w1.heap.size, 0, none⟩) n n] 56)) 56 (.slice a1 n k1)
    rw [World.size_alloc] at bs
    have hB1 := Below.on b00 z0 (by omega)
    obtain ⟨W0, hW0⟩ : ∃ W0, ((w0.alloc (.cells #[.slice (some ⟨w1.heap.size, 0, none⟩) n n] 56)).alloc (.cells #[.slice a1 n k1] 56)) = W0 := ⟨_, rfl⟩
    have ZW : W0.heap.size = w0.heap.size + 2 := by rw [← hW0]; simp
    have bx' := bx.alloc (.cells #[.slice a1 n k1] 56)
    have hown1 := iown_below hown0 z0
    have hrow1 := R1.out.below hB1
    rw [hW0] at z0 bs bx' hB1 hown1 hrow1 ⊢
    refine wpIn_rangeFunc_ownF rfl (by decide) (gf := 129) (lb := #[.pointer (some ⟨w0.heap.size + 1, 0, none⟩)]) rfl trivial (enters_of Try.func129 (by kernel_rfl) rfl)
      (show SeqStopsK Fence.wide (4 - 1) Try.prog 129 #[.pointer (some ⟨w0.heap.size + 1, 0, none⟩)] (fun x : V2 n => #[Value.int .i64 (x.1.1 : Int), Value.int .i64 (x.1.2 : Int)]) (KpO w1.heap.size) (fun ys => ys.map Subtype.val = visL D n n) (fun _ => True) (n * n) W0 from fun l J Jx W hW _ _ hY h0 =>
        strm1_in Fence.wide (4 - 1) trivial rfl (by decide) l (w0.heap.size + 1) w1.heap.size k1 a1 L HD.out KL.out KG.out hA (by omega) n256 J Jx hY W ((hW.cell (p := ⟨w0.heap.size + 1, 0, none⟩) (by simp [ZW])).trans bs.cell) (hrow1.below hW) h0)
      kpO_t (fun W l o o' h1 h2 h3 h4 => kpO_b W l o o' h1 h2 h3 h4) (Below.refl _ _) (fun _ => rfl)
      (fun pre W => (W.cell? ⟨w0.heap.size, 0, none⟩ = some (.slice (some ⟨w1.heap.size, 0, none⟩) n n) ∧ ∃ cu, W.ownsRow w1.heap.size 2 1 (.slice (some ⟨w1.heap.size, 0, none⟩) n n) n cu ∧ ∀ j, j < n → cu[j]? = some (.int .i64 (cntV (pre.map Subtype.val) j : Int))) ∧ Below w1.heap.size w1 W)
      (fun _ _ _ => False)
      (OwnFrom.and (fun s A B row hs hg hr => ⟨cell_kept hs.1 hg (fun r e => (hr r e).2), by
        obtain ⟨_, cu, h1, h2⟩ := hs
        exact ⟨cu, h1.kept hg (.inr (fun e => by have := (hr w1.heap.size (by rw [← e]; rfl)).1; omega)), h2⟩⟩) (ownFrom_below (Nat.le_refl _) (by omega)))
      (fun _ _ _ _ _ hs _ _ => hs)
      ⟨⟨bx'.cell, _, hown1, fun j hj => by rw [List.getElem?_replicate]; simp [hj, cntV]⟩, hB1⟩
      (fun x => { tmps := #[gd (W : Int) (Hh : Int) (sl g n k), .pointer (some ⟨w.heap.size, 0, none⟩), .slice none 0 0, .bool false, .slice a1 n k1, .bool true, .pointer (some ⟨w0.heap.size, 0, none⟩), undef, .int .i64 (x.1.2 : Int), .tuple #[.slice a1 n k1, .bool true], .agg #[.int .i64 (W : Int), .int .i64 (Hh : Int), sl g n k], .tuple #[.slice a1 n k1, .bool true], .slice a1 n k1, .bool true, .bool true, .bool false, .slice a1 n k1, .int .i64 (n : Int), .slice (some ⟨w1.heap.size, 0, none⟩) n n, .slice a1 n k1, .func (.func 129) #[] #[.pointer (some ⟨w0.heap.size + 1, 0, none⟩)], .int .i64 (x.1.1 : Int), .int .i64 (x.1.2 : Int), undef, undef, undef, undef, undef, undef, undef], defers := [] }) ?assign ?body ?done ?stop
    case assign =>
      intro l x W K hK
      gi_wp2
      exact hK
    case body =>
      rintro l pre x W ⟨⟨hc, cu, ho, hcu⟩, hB⟩ hpl
      have hx := x.2.2
      have hlen : cu.length = n * 1 := ho.1
      have cz : W.cell? ⟨w1.heap.size, x.1.2, none⟩ = some (.int .i64 (cntV (pre.map Subtype.val) x.1.2 : Int)) := (ho.cellAt x.1.2 (by omega)).trans (hcu _ hx)
      have fz := ho.frozenAt x.1.2
      have hst := ho.stored x.1.2 (.int .i64 ((cntV (pre.map Subtype.val) x.1.2 : Int) + 1))
      have hcl := cntV_lt (j := x.1.2) hpl n256
      have KS := Hf.mk (fun j (hj : j < n) => flw_step (x := x) hlen hcu hj)
      generalize cntV (pre.map Subtype.val) x.1.2 = c at *
      gi_wp2
      exact ⟨KeepsOthers.setCell _ _ _, kpO_set _ _, ⟨(cell_kept_set (by omega) hc), _, hst.1, KS.out⟩, hB.setCell (p := ⟨w1.heap.size, x.1.2, none⟩) (Nat.le_refl _) _⟩
    case done =>
      rintro E ys W hE hys ⟨⟨hc, cu, ho, hcu⟩, hB⟩ hK
      gi_wp2
      refine ⟨by simp, .inl ⟨_, _, rfl, run_takeDeferred hK, ?_⟩⟩
      have KU := Hf.mk (flw_all ho.1 hys hcu)
      refine ⟨_, results_tmp2 rfl _ _ _, ?_⟩
      rw [KV.out]
      refine ⟨⟨_, rfl, ?_⟩, Below.on B1.out (hB.trans (belowK_b (w := w1) (Nat.le_refl _) W E _ _ (by omega) hK rfl rfl)) S1⟩
      rw [ils_len, flwL_len]
      have := own_lower (ownsRow_putObj ho (.deferred none) hK rfl) S1
      rw [KU.out] at this
      exact this
    case stop =>
      rintro E c pre W _ _ h _
      exact h.elim
end Go.Proofs.Ytcgmffpddahgoab
