/-
  A search, of the program: what is told, which place is open, the first open one with the least number, and what is settled. No premise beyond those named.
-/
import Derived.Test.YtcgmffpddahgoabNsr
import Derived.Test.YtcgmffpddahgoabFpm
import Derived.Test.YtcgmffpddahgoabSlp
import Derived.Deep.RegionHeld3
import Derived.Laws.NewBlocks
namespace Go.Proofs.Ytcgmffpddahgoab
open Go Go.RowKit
set_option maxRecDepth 100000

theorem new_at {w W : World} {cs : Array Value} {T : TypeId} {j : Nat} {v : Value} (h : W.heap.size = w.heap.size) (hv : cs[j]? = some v) : (W.alloc (.cells cs T)).drew.cell? ⟨w.heap.size, j, none⟩ = some v := by
  show (W.alloc (.cells cs T)).cell? ⟨w.heap.size, j, none⟩ = some v
  rw [World.cell?_alloc_at (hn := h.symm)]
  exact hv
theorem Sr.below {w w' : World} {base a b c d n : Nat} {x y z u : Nat → Value} (h : Sr w base a b c d n x y z u) (k : Below w.heap.size w w') : Sr w' base a b c d n x y z u :=
  ⟨h.x.below k, h.y.below k, h.z.below k, h.u.below k, h.ab, h.ac, h.ad, h.bc, h.bd, h.cd⟩
theorem Sr.setx {w : World} {base a b c d n i : Nat} {x y z u : Nat → Value} (h : Sr w base a b c d n x y z u) (hi : i < n) (v : Value) : Sr (w.setCell ⟨a, i, none⟩ v) base a b c d n (fun j => if j = i then v else x j) y z u :=
  ⟨h.x.set hi v, h.y.other (Ne.symm h.ab) v, h.z.other (Ne.symm h.ac) v, h.u.other (Ne.symm h.ad) v, h.ab, h.ac, h.ad, h.bc, h.bd, h.cd⟩
theorem Sr.sety {w : World} {base a b c d n i : Nat} {x y z u : Nat → Value} (h : Sr w base a b c d n x y z u) (hi : i < n) (v : Value) : Sr (w.setCell ⟨b, i, none⟩ v) base a b c d n x (fun j => if j = i then v else y j) z u :=
  ⟨h.x.other h.ab v, h.y.set hi v, h.z.other (Ne.symm h.bc) v, h.u.other (Ne.symm h.bd) v, h.ab, h.ac, h.ad, h.bc, h.bd, h.cd⟩
theorem Sr.setz {w : World} {base a b c d n i : Nat} {x y z u : Nat → Value} (h : Sr w base a b c d n x y z u) (hi : i < n) (v : Value) : Sr (w.setCell ⟨c, i, none⟩ v) base a b c d n x y (fun j => if j = i then v else z j) u :=
  ⟨h.x.other h.ac v, h.y.other h.bc v, h.z.set hi v, h.u.other (Ne.symm h.cd) v, h.ab, h.ac, h.ad, h.bc, h.bd, h.cd⟩
theorem Sr.setu {w : World} {base a b c d n i : Nat} {x y z u : Nat → Value} (h : Sr w base a b c d n x y z u) (hi : i < n) (v : Value) : Sr (w.setCell ⟨d, i, none⟩ v) base a b c d n x y z (fun j => if j = i then v else u j) :=
  ⟨h.x.other h.ad v, h.y.other h.bd v, h.z.other h.cd v, h.u.set hi v, h.ab, h.ac, h.ad, h.bc, h.bd, h.cd⟩
theorem Sr.eqx {w : World} {base a b c d n : Nat} {x x' y z u : Nat → Value} (h : Sr w base a b c d n x y z u) (e : ∀ j, j < n → x j = x' j) : Sr w base a b c d n x' y z u := ⟨h.x.eq e, h.y, h.z, h.u, h.ab, h.ac, h.ad, h.bc, h.bd, h.cd⟩
theorem Sr.eqz {w : World} {base a b c d n : Nat} {x y z z' u : Nat → Value} (h : Sr w base a b c d n x y z u) (e : ∀ j, j < n → z j = z' j) : Sr w base a b c d n x y z' u := ⟨h.x, h.y, h.z.eq e, h.u, h.ab, h.ac, h.ad, h.bc, h.bd, h.cd⟩
theorem Sr.equ {w : World} {base a b c d n : Nat} {x y z u u' : Nat → Value} (h : Sr w base a b c d n x y z u) (e : ∀ j, j < n → u j = u' j) : Sr w base a b c d n x y z u' := ⟨h.x, h.y, h.z, h.u.eq e, h.ab, h.ac, h.ad, h.bc, h.bd, h.cd⟩
theorem isOpen_any {base a b c d n j : Nat} {x y : Nat → Value} {K D : Nat → Bool} (hj : j < n) (w : World) (h : Sr w base a b c d n x y (bv K) (bv D)) : Calls Try.prog 131 #[srV a b c d n, .int .i64 j] w (RS (.bool (K j && !D j)) w) := by
  have c1 := h.z.cell hj
  have c2 := h.u.cell hj
  unfold bv at c1 c2
  have l3 := h.z.lt.2
  have l4 := h.u.lt.2
  clear h
  cases hk : K j
  · rw [hk] at c1
    go_enter Try.func131, Try.ntmps131
    go_wp2
    go_ret
    exact ⟨rfl, (by repeat (first | exact Below.refl _ _ | with_reducible assumption | refine Below.drews ?_ | refine Below.drew ?_ | refine Below.alloc ?_ (by simp <;> omega) _ | refine Below.setCell ?_ (by simp <;> omega) _))⟩
  · rw [hk] at c1
    go_enter Try.func131, Try.ntmps131
    go_wp2
    go_ret
    exact ⟨rfl, (by repeat (first | exact Below.refl _ _ | with_reducible assumption | refine Below.drews ?_ | refine Below.drew ?_ | refine Below.alloc ?_ (by simp <;> omega) _ | refine Below.setCell ?_ (by simp <;> omega) _))⟩
set_option maxHeartbeats 4000000 in
theorem tell_yes_any {base a b c d n j v : Nat} {x y : Nat → Value} {K : Nat → Bool} {u : Nat → Value} {bf : Int} (hj : j < n) (hK : K j = false) (w : World) (h : Sr w base a b c d n x y (bv K) u) : Calls Try.prog 93 #[srV a b c d n, .int .i64 j, .float .f32 v, .int .i64 bf] w (fun e w' => e = .returned (.tuple #[]) ∧ (∃ y', Sr w' base a b c d n (fun i => if i = j then .float .f32 v else x i) y' (bv (fun i => if i = j then true else K i)) u) ∧ Below base w w' ∧ Kp4 a b c d w w') := by
  have c1 := h.x.cell hj
  have c2 := h.y.cell hj
  have c3 := h.z.cell hj
  unfold bv at c3
  rw [hK] at c3
  have z1 := h.x.free j
  have z2 := h.y.free j
  have z3 := h.z.free j
  have ab := h.ab
  have ac := h.ac
  have bc := h.bc
  have l1 := h.x.lt
  have l2 := h.y.lt
  have l3 := h.z.lt
  have H := Hf.mk h
  clear h hK
  go_enter Try.func93, Try.ntmps93
  go_wp2
  go_region_held3 (fun w' => w'.cell? ⟨w.heap.size, 0, none⟩ = some (sl a n n) ∧ w'.cell? ⟨w.heap.size, 1, none⟩ = some (sl b n n) ∧ w'.cell? ⟨w.heap.size, 2, none⟩ = some (sl c n n)) (first | exact ⟨new_at (by simp) rfl, new_at (by simp) rfl, new_at (by simp) rfl⟩ | go_keep) (fail)
  change bodyPost _ _ _ _ _ _
  refine bodyPost_end (v := .tuple #[]) (by simp [results, Try.results93, go_sem]) rfl ⟨rfl, ?_, ?_, ?_⟩
  · have h1 := (((H.out.setx hj (.float .f32 v)).sety hj (.int .i64 bf)).setz hj (.bool true)).eqz (z' := bv (fun i => if i = j then true else K i)) (fun i _ => by
      unfold bv
      by_cases e : i = j
      · simp [e]
      · simp [e])
    exact ⟨_, h1.below (Below.drew (Below.alloc (Below.refl _ _) (Nat.le_refl _) _))⟩
  · exact Below.drew (Below.alloc (Below.setCell (Below.setCell (Below.setCell (Below.refl _ _) l1.1 _) l2.1 _) l3.1 _) (by simp; omega) _)
  · exact (((((Kp4.refl (a := a) (b := b) (c := c) (d := d) w).set (o := j) (.float .f32 v) (.inl rfl)).set (o := j) (.int .i64 bf) (.inr (.inl rfl))).set (o := j) (.bool true) (.inr (.inr (.inl rfl))))).below (Below.drew (Below.alloc (Below.refl _ _) (Nat.le_refl _) _))
set_option maxHeartbeats 4000000 in
theorem tell_no_any {base a b c d n j N v : Nat} {x y : Nat → Value} {K : Nat → Bool} {u : Nat → Value} {bf : Int} (hj : j < n) (hK : K j = true) (hx : x j = .float .f32 N) (hN : Fl .f32 N N) (hv : Fl .f32 v v) (hc : fcmp .lss .f32 v N = false) (w : World) (h : Sr w base a b c d n x y (bv K) u) : Calls Try.prog 93 #[srV a b c d n, .int .i64 j, .float .f32 v, .int .i64 bf] w (RS (.tuple #[]) w) := by
  have c1 := h.x.cell hj
  rw [hx] at c1
  have c3 := h.z.cell hj
  unfold bv at c3
  rw [hK] at c3
  have l1 := h.x.lt
  have l3 := h.z.lt
  clear h hK hx
  go_enter Try.func93, Try.ntmps93
  go_wp2_with (refine wpList_fcmp_g rfl rfl rfl rfl rfl (by first | (with_reducible assumption) | (with_reducible exact Fl.ofInt _ _) | exact Fl.not (by decide +kernel) (by decide +kernel)) (by first | (with_reducible assumption) | (with_reducible exact Fl.ofInt _ _) | exact Fl.not (by decide +kernel) (by decide +kernel)) ?_; simp only [Act.put, List.setIfInBounds_toArray, List.set_cons_succ, List.set_cons_zero, hc])
  refine bodyPost_end (v := .tuple #[]) (by simp [results, Try.results93, go_sem]) rfl ⟨rfl, (by repeat (first | exact Below.refl _ _ | with_reducible assumption | refine Below.drews ?_ | refine Below.drew ?_ | refine Below.alloc ?_ (by simp <;> omega) _ | refine Below.setCell ?_ (by simp <;> omega) _))⟩
set_option maxHeartbeats 4000000 in
theorem firstLeast_any {base a b c d n : Nat} {L : Nat → Nat} {y : Nat → Value} {K D : Nat → Bool} (hn : n ≤ 1048576) (hL : ∀ j, j < n → Fl .f32 (L j) (L j)) (w : World) (h : Sr w base a b c d n (fv L) y (bv K) (bv D)) : Calls Try.prog 130 #[sl a n n, .func (.func 131) #[srV a b c d n] #[]] w (RS (.int .i64 (bst L (fun j => K j && !D j) n)) w) := by
  have H := Hf.mk h
  have HL := Hf.mk hL
  have KO := Hf.mk (fun j (hj : j < n) w h => isOpen_any (base := base) (a := a) (b := b) (c := c) (d := d) (x := fv L) (y := y) (K := K) (D := D) hj w h)
  clear h hL
  go_enter Try.func130, Try.ntmps130
  go_wp2
  go_loopw [5, 10] (fun fd i wr => ∃ m : Nat, m ≤ n ∧ fd = .int .i64 (bst L (fun j => K j && !D j) m) ∧ i = .int .i64 m ∧ Hf (Below w.heap.size w wr)) (fun _ i _ => n - (intOf i).toNat)
  case atStart => exact ⟨0, by omega, rfl, rfl, ⟨(by repeat (first | exact Below.refl _ _ | with_reducible assumption | refine Below.drews ?_ | refine Below.drew ?_ | refine Below.alloc ?_ (by simp <;> omega) _ | refine Below.setCell ?_ (by simp <;> omega) _))⟩⟩
  case round =>
    obtain ⟨m, hm, rfl, rfl, hbel⟩ := hrel
    obtain ⟨W1, hW1⟩ : ∃ W1, W1 = wr := ⟨_, rfl⟩
    subst hW1
    have HW := Hf.mk (H.out.below hbel.out)
    have hin := bst_in (L := L) (o := fun j => K j && !D j) m
    by_cases hlt : m < n
    · have cm := HW.out.x.cell hlt
      unfold fv at cm
      have fm := HL.out m hlt
      have KM := Hf.mk (KO.out m hlt)
      have EY := Hf.mk (fun h1 h2 => bst_yes (L := L) (o := fun j => K j && !D j) (m := m) h1 h2)
      have E1 := Hf.mk (fun h1 => bst_no (L := L) (o := fun j => K j && !D j) (m := m) h1)
      have E2 := Hf.mk (fun h2 => bst_no2 (L := L) (o := fun j => K j && !D j) (m := m) h2)
      cases ho : (K m && !D m)
      · have Er := Hf.mk (E1.out ho)
        rw [ho] at KM
        clear ho EY E1 E2
        generalize bst L (fun j => K j && !D j) m = Bm at *
        go_wp2_with (first | (go_at_call 131; refine (KM.out _ (HW.out.below (by repeat (first | exact Below.refl _ _ | with_reducible assumption | refine Below.drews ?_ | refine Below.drew ?_ | refine Below.alloc ?_ (by simp <;> omega) _ | refine Below.setCell ?_ (by simp <;> omega) _)))).mono ?_; rintro e w2 ⟨rfl, b2⟩; have B2 := Hf.mk (Below.on hbel.out b2 hbel.out.size); clear b2))
        go_roundw
        case rel => exact ⟨m + 1, by omega, i_ext2 (by rw [Er.out]), i_ext2 (by omega), B2⟩
        case measure => simp [intOf]; omega
      · rw [ho] at KM
        by_cases hb : bst L (fun j => K j && !D j) m < 0
        · have Er := Hf.mk (EY.out ho (by rw [decide_eq_true hb]; rfl))
          clear ho EY E1 E2
          generalize bst L (fun j => K j && !D j) m = Bm at *
          go_wp2_with (first | (go_at_call 131; refine (KM.out _ (HW.out.below (by repeat (first | exact Below.refl _ _ | with_reducible assumption | refine Below.drews ?_ | refine Below.drew ?_ | refine Below.alloc ?_ (by simp <;> omega) _ | refine Below.setCell ?_ (by simp <;> omega) _)))).mono ?_; rintro e w2 ⟨rfl, b2⟩; have B2 := Hf.mk (Below.on hbel.out b2 hbel.out.size); clear b2))
          go_roundw
          case rel => exact ⟨m + 1, by omega, i_ext2 (by rw [Er.out]), i_ext2 (by omega), B2⟩
          case measure => simp [intOf]; omega
        · obtain ⟨q, hq⟩ : ∃ q : Nat, bst L (fun j => K j && !D j) m = (q : Int) := ⟨(bst L (fun j => K j && !D j) m).toNat, by omega⟩
          have hqn : q < n := by omega
          have cq := fun W (k : Below W1.heap.size W1 W) => (HW.out.below k).x.cell hqn
          unfold fv at cq
          have CQ := Hf.mk cq
          have fq := HL.out q hqn
          cases hc : fcmp .lss .f32 (L m) (L q)
          · have Er := Hf.mk (E2.out (by rw [hq, Int.toNat_natCast, hc, decide_eq_false (by omega)]; rfl))
            rw [hq] at Er
            rw [hq]
            clear ho EY E1 E2 cq hb hin hq
            go_wp2_with (first | (go_at_call 131; refine (KM.out _ (HW.out.below (by repeat (first | exact Below.refl _ _ | with_reducible assumption | refine Below.drews ?_ | refine Below.drew ?_ | refine Below.alloc ?_ (by simp <;> omega) _ | refine Below.setCell ?_ (by simp <;> omega) _)))).mono ?_; rintro e w2 ⟨rfl, b2⟩; have B2 := Hf.mk (Below.on hbel.out b2 hbel.out.size); have c2 := CQ.out _ b2; clear b2) | (refine wpList_fcmp_g rfl rfl rfl rfl rfl (by first | (with_reducible assumption) | (with_reducible exact Fl.ofInt _ _) | exact Fl.not (by decide +kernel) (by decide +kernel)) (by first | (with_reducible assumption) | (with_reducible exact Fl.ofInt _ _) | exact Fl.not (by decide +kernel) (by decide +kernel)) ?_; simp only [Act.put, List.setIfInBounds_toArray, List.set_cons_succ, List.set_cons_zero, hc]))
            go_roundw
            case rel => exact ⟨m + 1, by omega, i_ext2 (by rw [Er.out]), i_ext2 (by omega), B2⟩
            case measure => simp [intOf]; omega
          · have Er := Hf.mk (EY.out ho (by rw [hq, Int.toNat_natCast, hc, Bool.or_true]))
            rw [hq]
            clear ho EY E1 E2 cq hb hin hq
            go_wp2_with (first | (go_at_call 131; refine (KM.out _ (HW.out.below (by repeat (first | exact Below.refl _ _ | with_reducible assumption | refine Below.drews ?_ | refine Below.drew ?_ | refine Below.alloc ?_ (by simp <;> omega) _ | refine Below.setCell ?_ (by simp <;> omega) _)))).mono ?_; rintro e w2 ⟨rfl, b2⟩; have B2 := Hf.mk (Below.on hbel.out b2 hbel.out.size); have c2 := CQ.out _ b2; clear b2) | (refine wpList_fcmp_g rfl rfl rfl rfl rfl (by first | (with_reducible assumption) | (with_reducible exact Fl.ofInt _ _) | exact Fl.not (by decide +kernel) (by decide +kernel)) (by first | (with_reducible assumption) | (with_reducible exact Fl.ofInt _ _) | exact Fl.not (by decide +kernel) (by decide +kernel)) ?_; simp only [Act.put, List.setIfInBounds_toArray, List.set_cons_succ, List.set_cons_zero, hc]))
            go_roundw
            case rel => exact ⟨m + 1, by omega, i_ext2 (by rw [Er.out]), i_ext2 (by omega), B2⟩
            case measure => simp [intOf]; omega
    · obtain rfl : m = n := by omega
      go_wp2
      go_ret
      exact ⟨rfl, hbel.out⟩
set_option maxHeartbeats 4000000 in
theorem settle_any {base a b c d n : Nat} {L : Nat → Nat} {y : Nat → Value} {K D : Nat → Bool} (hn : n ≤ 1048576) (hL : ∀ j, j < n → Fl .f32 (L j) (L j)) (w : World) (h : Sr w base a b c d n (fv L) y (bv K) (bv D)) : Calls Try.prog 94 #[srV a b c d n] w (fun e w' => e = .returned (.int .i64 (bst L (fun j => K j && !D j) n)) ∧ Sr w' base a b c d n (fv L) y (bv K) (bv (fun j => if (j : Int) = bst L (fun j => K j && !D j) n then true else D j)) ∧ Below base w w' ∧ Kp4 a b c d w w') := by
  have KF := Hf.mk (fun w h => firstLeast_any (base := base) (a := a) (b := b) (c := c) (d := d) (y := y) (K := K) (D := D) hn hL w h)
  have H := Hf.mk h
  have B0 := Hb.mk (Below.refl w.heap.size w)
  have hin := bst_in (L := L) (o := fun j => K j && !D j) n
  have l4 := h.u.lt
  clear h hL
  generalize bst L (fun j => K j && !D j) n = B at *
  by_cases hb : B < 0
  · go_enter Try.func94, Try.ntmps94
    go_wp2_with (first | (go_at_call 130; refine (KF.out _ (H.out.below (by repeat (first | exact Below.refl _ _ | with_reducible assumption | refine Below.drews ?_ | refine Below.drew ?_ | refine Below.alloc ?_ (by simp <;> omega) _ | refine Below.setCell ?_ (by simp <;> omega) _)))).mono ?_; rintro e w1 ⟨rfl, b1⟩; have B1 := Hb.mk (Below.on (B := w.heap.size) (a := w) (by repeat (first | exact B0.out | refine Below.drews ?_ | refine Below.drew ?_ | refine Below.alloc ?_ (by have hq_ := B0.out.size; first | omega | (simp <;> omega)) _ | refine Below.setCell ?_ (by have hq_ := B0.out.size; first | omega | (simp <;> omega)) _)) b1 (by have hq_ := B0.out.size; first | omega | (simp <;> omega))); clear b1))
    go_ret
    refine ⟨rfl, (H.out.below (by repeat (first | with_reducible refine Below.setCell ?_ (by first | omega | (simp <;> omega)) _ | with_reducible refine Below.drews ?_ | with_reducible refine Below.drew ?_ | with_reducible refine Below.alloc ?_ (by first | omega | (simp <;> omega)) _ | with_reducible exact B1.out | with_reducible exact Below.refl _ _))).equ (fun j _ => ?_), (show Below w.heap.size w _ from (by repeat (first | with_reducible refine Below.setCell ?_ (by first | omega | (simp <;> omega)) _ | with_reducible refine Below.drews ?_ | with_reducible refine Below.drew ?_ | with_reducible refine Below.alloc ?_ (by first | omega | (simp <;> omega)) _ | with_reducible exact B1.out | with_reducible exact Below.refl _ _))).mono (by omega), (Kp4.refl w).below (by repeat (first | with_reducible refine Below.setCell ?_ (by first | omega | (simp <;> omega)) _ | with_reducible refine Below.drews ?_ | with_reducible refine Below.drew ?_ | with_reducible refine Below.alloc ?_ (by first | omega | (simp <;> omega)) _ | with_reducible exact B1.out | with_reducible exact Below.refl _ _))⟩
    unfold bv
    dsimp only
    rw [if_neg (show ¬ (j : Int) = B by omega)]
  · obtain ⟨q, rfl⟩ : ∃ q : Nat, B = (q : Int) := ⟨B.toNat, by omega⟩
    have hq : q < n := by omega
    go_enter Try.func94, Try.ntmps94
    go_wp2_with (first | (go_at_call 130; refine (KF.out _ (H.out.below (by repeat (first | exact Below.refl _ _ | with_reducible assumption | refine Below.drews ?_ | refine Below.drew ?_ | refine Below.alloc ?_ (by simp <;> omega) _ | refine Below.setCell ?_ (by simp <;> omega) _)))).mono ?_; rintro e w1 ⟨rfl, b1⟩; have r0 := Hb.mk (At.keep b1 (p := ⟨(w.heap.size), 0, none⟩) (v := sl a n n) (by simp [go_sem]) (by simp [go_sem])); obtain ⟨r0c, r0z, r0l⟩ := r0.out; have r1 := Hb.mk (At.keep b1 (p := ⟨(w.heap.size), 1, none⟩) (v := sl b n n) (by simp [go_sem]) (by simp [go_sem])); obtain ⟨r1c, r1z, r1l⟩ := r1.out; have r2 := Hb.mk (At.keep b1 (p := ⟨(w.heap.size), 2, none⟩) (v := sl c n n) (by simp [go_sem]) (by simp [go_sem])); obtain ⟨r2c, r2z, r2l⟩ := r2.out; have r3 := Hb.mk (At.keep b1 (p := ⟨(w.heap.size), 3, none⟩) (v := sl d n n) (by simp [go_sem]) (by simp [go_sem])); obtain ⟨r3c, r3z, r3l⟩ := r3.out; have B1 := Hb.mk (Below.on (B := w.heap.size) (a := w) (by repeat (first | exact B0.out | refine Below.drews ?_ | refine Below.drew ?_ | refine Below.alloc ?_ (by have hq_ := B0.out.size; first | omega | (simp <;> omega)) _ | refine Below.setCell ?_ (by have hq_ := B0.out.size; first | omega | (simp <;> omega)) _)) b1 (by have hq_ := B0.out.size; first | omega | (simp <;> omega))); clear b1; have cd := (H.out.below B1.out).u.cell hq; have zd := (H.out.below B1.out).u.free q))
    go_ret
    refine ⟨rfl, ((((H.out.below B1.out).setu hq (.bool true)).equ upd_bv).equ (fun j _ => ?_)), Below.setCell (B1.out.mono (by omega)) l4.1 _, ((Kp4.refl w).below B1.out).set _ (.inr (.inr (.inr rfl)))⟩
    unfold bv
    dsimp only
    by_cases e : j = q
    · rw [if_pos e, if_pos (show (j : Int) = (q : Int) by omega)]
    · rw [if_neg e, if_neg (show ¬ (j : Int) = (q : Int) by omega)]
end Go.Proofs.Ytcgmffpddahgoab
