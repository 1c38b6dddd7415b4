/-
  SolveEven, of the program: the numbers that it returns. No premise beyond those named.
-/
import Derived.Test.YtconlpgifkknmabEvi
namespace Go.Proofs.Ytconlpgifkknmab
open Go Go.RowKit
set_option maxRecDepth 100000

theorem Told.zero {w : World} {g m : Nat} {f : Nat → Nat} (h : Told w g m f) : ∀ j, j < m → ∃ r, w.cell? ⟨g, 0 + j, none⟩ = some (.float .f32 r) ∧ Fl .f32 (f j) r := fun j hj => by rw [Nat.zero_add]; exact h j hj
theorem RQ.t {T : TypeId} {n N : Nat} {M : Nat → Nat → Nat} {w w' : World} {e : Ending} (h : RQ T true n N M w e w') : (∃ gr gs cap f, e = .returned (.tuple #[.slice (some ⟨gr, 0, none⟩) n n, .bool true]) ∧ (∀ j, j < n → w'.cell? ⟨gr, j, none⟩ = some (.slice (some ⟨gs, j * n, none⟩) n n)) ∧ Own w' w.heap.size T gs cap N f ∧ (∀ x y, x < n → y ≤ x → f (x * n + y) = M x y)) ∧ Below w.heap.size w w' := by
  rcases h with ⟨_, h1, h2⟩ | ⟨h, _⟩
  · exact ⟨h1, h2⟩
  · cases h
theorem RQ.f {T : TypeId} {n N : Nat} {M : Nat → Nat → Nat} {w w' : World} {e : Ending} (h : RQ T false n N M w e w') : e = .returned (.tuple #[.slice none 0 0, .bool false]) ∧ Below w.heap.size w w' := by
  rcases h with ⟨h, _⟩ | ⟨_, h1, h2⟩
  · cases h
  · exact ⟨h1, h2⟩
theorem iSolve_no {ga gb n m k1 k2 : Nat} {xs bs : List Nat} (w : World) (hr : FRow w (some ⟨ga, 0, none⟩) xs) (hw : Wf xs) (hb : FRow w (some ⟨gb, 0, none⟩) bs) (hwb : Wf bs) (hm : xs.length = m) (hn : bs.length = n) (hlm : m ≤ 1048576) (hln : n ≤ 1048576) (hno : okIn xs bs = false) : Calls Try.prog 33 #[.slice (some ⟨ga, 0, none⟩) m k1, .slice (some ⟨gb, 0, none⟩) n k2] w (RT (.tuple #[.slice none 0 0, .bool false]) w) := by
  subst hm
  subst hn
  have TX := Hf.mk (Told.of hr hw)
  have TB := Hf.mk (Told.of hb hwb)
  clear hr hw hb hwb
  by_cases h1 : bs.length < 1
  · clear hno
    go_enter Try.func33, Try.ntmps33
    go_wp2
    go_ret2
    exact RT.any (by repeat (first | exact Drew.refl _ | refine Drew.more ?_))
  · by_cases h2 : 10 < bs.length
    · clear hno
      go_enter Try.func33, Try.ntmps33
      go_wp2
      go_ret2
      exact RT.any (by repeat (first | exact Drew.refl _ | refine Drew.more ?_))
    · obtain ⟨p, hp⟩ : ∃ p : Nat, p = bs.length * bs.length := ⟨_, rfl⟩
      have hpI : (bs.length : Int) * (bs.length : Int) = (p : Int) := by rw [hp]; simp
      have hp1 : p ≤ 100 := by rw [hp]; exact Nat.mul_le_mul (show bs.length ≤ 10 by omega) (show bs.length ≤ 10 by omega)
      by_cases h3 : xs.length = p
      · have hno2 : finB xs.length (fun j => nrm .f32 (xs.getD j 0)) = false ∨ (finB xs.length (fun j => nrm .f32 (xs.getD j 0)) = true ∧ finB bs.length (fun j => nrm .f32 (bs.getD j 0)) = false) := by
          unfold okIn at hno
          rw [decide_eq_true (by omega), Bool.true_and] at hno
          cases hq : finB xs.length (fun j => nrm .f32 (xs.getD j 0))
          · exact .inl rfl
          · rw [hq, Bool.true_and] at hno; exact .inr ⟨rfl, hno⟩
        clear hno hp
        have H3 : ((xs.length : Int) == (p : Int)) = true := by simp [h3]
        have H3' : ((xs.length : Int) != (p : Int)) = false := by simp [h3]
        have H4 := Hf.mk h3
        clear h3
        rcases hno2 with hf | ⟨hf, hf2⟩
        · have HF := Hf.mk (fun W hw => areF_any (k := k1) (g := ga) (m := xs.length) (f := fun j => nrm .f32 (xs.getD j 0)) W hw hlm)
          rw [hf] at HF
          clear hf
          go_enter Try.func33, Try.ntmps33
          go_wp2_with (first | (go_at_call 56; refine (HF.out _ TX.out).mono ?_; rintro e w' ⟨rfl, n1, rfl⟩))
          go_ret2
          exact RT.any (by repeat (first | exact Drew.refl _ | refine Drew.more ?_))
        · have HF := Hf.mk (fun W hw => areF_any (k := k1) (g := ga) (m := xs.length) (f := fun j => nrm .f32 (xs.getD j 0)) W hw hlm)
          have HF2 := Hf.mk (fun W hw => areF_any (k := k2) (g := gb) (m := bs.length) (f := fun j => nrm .f32 (bs.getD j 0)) W hw hln)
          rw [hf] at HF
          rw [hf2] at HF2
          clear hf hf2
          have tk_a : True := trivial; have tk_b : True := trivial
          go_enter Try.func33, Try.ntmps33
          go_wp2_with (first | (go_at_call 56; clear tk_a; refine (HF.out _ TX.out).mono ?_; rintro e w' ⟨rfl, n1, rfl⟩) | (go_at_call 56; clear tk_b; refine (HF2.out _ (TB.out.drew _)).mono ?_; rintro e w' ⟨rfl, n2, rfl⟩))
          go_ret2
          exact RT.any (by repeat (first | exact Drew.refl _ | refine Drew.more ?_))
      · have H3 : ((xs.length : Int) == (p : Int)) = false := by rw [beq_eq_false_iff_ne]; omega
        have H3' : ((xs.length : Int) != (p : Int)) = true := by rw [bne_iff_ne]; omega
        clear hno hp
        go_enter Try.func33, Try.ntmps33
        go_wp2
        go_ret2
        exact RT.any (by repeat (first | exact Drew.refl _ | refine Drew.more ?_))
set_option maxHeartbeats 8000000 in
theorem iSolve_yes {ga gb n m k1 k2 : Nat} {xs bs : List Nat} (w : World) (hr : FRow w (some ⟨ga, 0, none⟩) xs) (hw : Wf xs) (hb : FRow w (some ⟨gb, 0, none⟩) bs) (hwb : Wf bs) (hm : xs.length = m) (hn : bs.length = n) (hyes : okIn xs bs = true)
    {M : Nat → Nat → Nat} (hM : Rt (sqF xs n) n M) {Y X : Nat → Nat} (hY : ∀ i, i < n → Y i = fop .quo .f32 (lpF (M i) Y (nrm .f32 (bs.getD i 0)) i) (M i i)) (hX : ∀ i, i < n → X i = fop .quo .f32 (lpF (fun d => M (i + 1 + d) i) (fun d => X (i + 1 + d)) (Y i) (n - 1 - i)) (M i i)) : Calls Try.prog 33 #[.slice (some ⟨ga, 0, none⟩) m k1, .slice (some ⟨gb, 0, none⟩) n k2] w (RE 41 (goodB (sqF xs n) M n && finB n X) n X w) := by
  subst hm
  subst hn
  have hy := hyes
  unfold okIn at hy
  rw [Bool.and_eq_true, Bool.and_eq_true, decide_eq_true_iff] at hy
  obtain ⟨⟨h1, h10, hN⟩, hf, hf2⟩ := hy
  have hN100 : xs.length ≤ 100 := by rw [hN]; exact Nat.mul_le_mul h10 h10
  have TX := Hf.mk (Told.of hr hw)
  have TB := Hf.mk (Told.of hb hwb)
  have HE := Hf.mk (fun W (hrW : FRow W (some ⟨ga, 0, none⟩) xs) => rootSq_any (k1 := k1) W hrW hw hN rfl h1 h10 hM)
  have HYe := Hf.mk hY
  have HXe := Hf.mk hX
  have HN := Hf.mk hN
  have HR := Hf.mk hr
  have HB := Hf.mk hb
  have HF := Hf.mk (fun W hw => areF_any (k := k1) (g := ga) (m := xs.length) (f := fun j => nrm .f32 (xs.getD j 0)) W hw (by omega))
  have HF2 := Hf.mk (fun W hw => areF_any (k := k2) (g := gb) (m := bs.length) (f := fun j => nrm .f32 (bs.getD j 0)) W hw (by omega))
  rw [hf] at HF
  rw [hf2] at HF2
  have hpI : (bs.length : Int) * (bs.length : Int) = (xs.length : Int) := by rw [hN]; simp
  clear hf hf2 hr hb hM hY hX hyes hN
  have HW := Hf.mk hw
  have HWB := Hf.mk hwb
  clear hw hwb
  cases hgd : goodB (sqF xs bs.length) M bs.length
  · rw [hgd] at HE
    rw [Bool.false_and]
    clear hgd
    have tk_a : True := trivial; have tk_b : True := trivial
    go_enter Try.func33, Try.ntmps33
    go_wp2_with (first | (go_at_call 56; clear tk_a; refine (HF.out _ TX.out).mono ?_; rintro e w' ⟨rfl, n1, rfl⟩) | (go_at_call 56; clear tk_b; refine (HF2.out _ (TB.out.drew _)).mono ?_; rintro e w' ⟨rfl, n2, rfl⟩) | (go_at_call 57; refine (HE.out _ (HR.out.drew _)).mono ?_; intro e w1 hre; obtain ⟨rfl, b1⟩ := hre.f; have B1 := Hb.mk b1; clear hre b1))
    go_ret2
    exact .inr ⟨rfl, rfl, below_dr B1.out⟩
  · rw [hgd] at HE
    rw [Bool.true_and]
    clear hgd
    generalize hnn : bs.length = n at *
    have HNB := Hf.mk hnn
    clear hnn
    generalize hNx : xs.length = N at *
    have HNX := Hf.mk hNx
    clear hNx
    have tk_a : True := trivial; have tk_b : True := trivial
    go_enter Try.func33, Try.ntmps33
    go_wp2_with (first | (go_at_call 56; clear tk_a; refine (HF.out _ TX.out).mono ?_; rintro e w' ⟨rfl, n1, rfl⟩) | (go_at_call 56; clear tk_b; refine (HF2.out _ (TB.out.drew _)).mono ?_; rintro e w' ⟨rfl, n2, rfl⟩) | (go_at_call 57; refine (HE.out _ (HR.out.drew _)).mono ?_; intro e w1 hre; obtain ⟨⟨gr, gs, cap, f, rfl, cr, o1, hf1⟩, b1⟩ := hre.t; have B1 := Hb.mk (below_dr b1); have O1 := Hf.mk o1; have CR := Hf.mk cr; have HF1 := Hf.mk hf1; have lgs := o1.lt; have lgr := block_lt_of_cell (cr 0 (by omega)); simp at lgr lgs; clear hre b1 cr hf1 o1) | (go_at_call 58; refine (cloneF_any _ (HB.out.below B1.out) HWB.out HNB.out (by omega) (by omega)).mono ?_; rintro e w2 ⟨gx, cx, rfl, hcx, o2, b2⟩; have O2 := Hf.mk o2; have B2 := Hb.mk (Below.on (B := w.heap.size) (a := w) (by repeat (first | exact B1.out | refine Below.drews ?_ | refine Below.drew ?_ | refine Below.alloc ?_ (by have hq_ := B1.out.size; first | omega | (simp <;> omega)) _ | refine Below.setCell ?_ (by have hq_ := B1.out.size; first | omega | (simp <;> omega)) _)) b2 (by have hq_ := B1.out.size; first | omega | (simp <;> omega))); have lgx := o2.lt; have R2 := Hf.mk (O1.out.below b2); have CR2 := Hf.mk (fun j hj => Below.keep b2 (CR.out j hj)); clear o2 b2))
    have hxs : gx ≠ gs := by omega
    have hxr : gr ≠ gx := by omega
    have sW := B1.out.size
    have hn9 : n ≤ 10 := by omega
    go_loopw [52] (fun i wr => ∃ a : Nat, a ≤ n ∧ i = .int .i64 a ∧ Hf (∃ h, Own wr w1.heap.size 41 gx cx n h ∧ (∀ j, j < a → h j = Y j) ∧ ∀ j, a ≤ j → j < n → h j = nrm .f32 (bs.getD j 0)) ∧ Hf (Own wr w.heap.size 41 gs cap N f) ∧ Hf (∀ j, j < n → wr.cell? ⟨gr, j, none⟩ = some (.slice (some ⟨gs, j * n, none⟩) n n)) ∧ Hf (Below w.heap.size w wr)) (fun i _ => n - (intOf i).toNat)
    case atStart => exact ⟨0, by omega, rfl, ⟨⟨_, O2.out, fun j h => absurd h (Nat.not_lt_zero j), fun _ _ _ => rfl⟩⟩, R2, CR2, ⟨B2.out⟩⟩
    case round =>
      obtain ⟨a, ha, rfl, hx1, hr1, hcr1, hb1⟩ := hrel
      obtain ⟨W1, hW1⟩ : ∃ W1, W1 = wr := ⟨_, rfl⟩
      subst hW1
      by_cases hlt : a < n
      · obtain ⟨p, hp⟩ : ∃ p : Nat, p = a * n := ⟨_, rfl⟩
        have hpN : p + n ≤ N := by rw [HN.out, hp]; have := Nat.mul_le_mul_right n (show a + 1 ≤ n from hlt); rw [Nat.add_mul, Nat.one_mul] at this; exact this
        have ca := hcr1.out a hlt
        rw [← hp] at ca
        have HP := Hf.mk hp
        clear hp
        obtain ⟨h, hO, hY1, hB1⟩ := hx1.out
        have OX := Hf.mk hO
        have HY1 := Hf.mk hY1
        have HB1 := Hf.mk hB1
        clear hO hY1 hB1
        obtain ⟨r0, k0, g0⟩ := OX.out.cell hlt
        rw [HB1.out a (Nat.le_refl _) hlt] at g0
        have z0 := OX.out.free a
        obtain ⟨r3, k3, g3⟩ := hr1.out.cell (show p + a < N by omega)
        rw [show f (p + a) = M a a by rw [HP.out]; exact HF1.out a a hlt (Nat.le_refl _)] at g3
        have CA := Hf.mk (fun (q : Nat) (j : Nat) (hj : j < a) => by
          obtain ⟨r, hc1, hf1⟩ := hr1.out.cell (show p + j < N by omega)
          rw [show f (p + j) = M a j by rw [HP.out]; exact HF1.out a j hlt (by omega)] at hf1
          exact ⟨r, hc1, hf1⟩ : ∀ q j, j < a → ∃ r, (W1.drewN q).cell? ⟨gs, p + j, none⟩ = some (.float .f32 r) ∧ Fl .f32 (M a j) r)
        have CX := Hf.mk (fun (q : Nat) (j : Nat) (hj : j < a) => by
          obtain ⟨r, hc1, hf1⟩ := OX.out.cell (show j < n by omega)
          rw [HY1.out j hj] at hf1
          rw [Nat.zero_add]
          exact ⟨r, hc1, hf1⟩ : ∀ q j, j < a → ∃ r, (W1.drewN q).cell? ⟨gx, 0 + j, none⟩ = some (.float .f32 r) ∧ Fl .f32 (Y j) r)
        have KL := Hf.mk (fun q => lessP_any (W1.drewN q) g0 (CA.out q) (CX.out q) (m := a) (mb := a) (ca := n) (cb := cx) (Nat.le_refl _) (by omega))
        have HME := Hf.mk (HYe.out a hlt)
        have han2 : a ≤ n := by omega
        have hac : a ≤ cx := by omega
        go_wp2
        refine region_tell (C := Dr W1) 19 (by kernel_rfl) (by kernel_rfl) ⟨1, rfl⟩ (fun K L hK => lexS_start ?_)
        simp only [List.take_succ_cons, List.take_zero]
        repeat (refine tS_val ?_ rfl (fun i hi q => ?_) ?_; rotate_left; (focus (go_simp; rfl)); simp only [Act.put, List.setIfInBounds_toArray, List.set_cons_succ, List.set_cons_zero])
        refine tS_call (f := 59) (args := #[.float .f32 r0, .slice (some ⟨gs, p, none⟩) a n, .slice (some ⟨gx, 0, none⟩) a cx]) _ rfl (fun i hi z => ?_) KL.out ?_
        · go_simp
        simp only [Act.put, List.setIfInBounds_toArray, List.set_cons_succ, List.set_cons_zero]
        repeat (refine tS_val ?_ rfl (fun i hi q => ?_) ?_; rotate_left; (focus (go_simp; rfl)); simp only [Act.put, List.setIfInBounds_toArray, List.set_cons_succ, List.set_cons_zero])
        refine tS_fop _ _ rfl rfl rfl (fun i hi => ⟨_, rfl, hi.2⟩) (fun i hi => ⟨_, rfl, g3⟩) ?_
        simp only [Act.put, List.setIfInBounds_toArray, List.set_cons_succ, List.set_cons_zero]
        repeat (refine tS_val ?_ rfl (fun i hi q => ?_) ?_; rotate_left; (focus (go_simp; rfl)); simp only [Act.put, List.setIfInBounds_toArray, List.set_cons_succ, List.set_cons_zero])
        refine lexS_end ?_
        rintro ⟨⟨_, r⟩, r2⟩ ⟨⟨_, hr⟩, hr2⟩
        refine hK _ ?_
        rintro w' ⟨z, rfl⟩
        simp only [List.drop_succ_cons, List.drop_zero]
        go_wp2
        go_roundw
        case rel =>
          refine ⟨a + 1, by omega, i_ext2 (by omega), ⟨⟨_, (OX.out.drews _).set hlt hr2, fun j hj => ?_, fun j hj1 hj2 => ?_⟩⟩, ⟨(hr1.out.drews _).other (a := ⟨gx, a, none⟩) (Ne.symm hxs) _⟩, ⟨fun j hj => by rw [cell_off hxr]; exact hcr1.out j hj⟩, ⟨Below.setCell (p := ⟨gx, a, none⟩) (Below.drews hb1.out) (show w.heap.size ≤ gx by omega) _⟩⟩
          · by_cases he : j = a
            · exact (if_pos he).trans (by rw [he, HME.out])
            · exact (if_neg he).trans (HY1.out j (by omega))
          · exact (if_neg (by omega)).trans (HB1.out j (by omega) hj2)
        case measure =>
          simp [intOf]
          try omega
      · have han : a = n := by omega
        subst han
        obtain ⟨h0, hO0, hY0, _⟩ := hx1.out
        have OX0 := Hf.mk hO0
        have HY0 := Hf.mk hY0
        clear hO0 hY0
        go_wp2
        go_loopw [12] (fun i wr => ∃ (t : Nat) (e : Int), t ≤ a ∧ i = .int .i64 e ∧ e = (a : Int) - 1 - (t : Int) ∧ Hf (∃ h, Own wr w1.heap.size 41 gx cx a h ∧ (∀ j, j < a - t → h j = Y j) ∧ ∀ j, a - t ≤ j → j < a → h j = X j) ∧ Hf (Own wr w.heap.size 41 gs cap N f) ∧ Hf (∀ j, j < a → wr.cell? ⟨gr, j, none⟩ = some (.slice (some ⟨gs, j * a, none⟩) a a)) ∧ Hf (Below w.heap.size w wr)) (fun i _ => (intOf i + 1).toNat)
        case atStart => exact ⟨0, _, by omega, rfl, by omega, ⟨⟨h0, OX0.out, fun j hj => HY0.out j (by omega), fun j h1 h2 => by omega⟩⟩, hr1, hcr1, hb1⟩
        case round =>
          obtain ⟨t, e', ht, rfl, he', hx2, hr2, hcr2, hb2⟩ := hrel
          obtain ⟨W2, hW2⟩ : ∃ W2, W2 = wr := ⟨_, rfl⟩
          subst hW2
          by_cases htc : t < a
          · obtain ⟨e, he⟩ : ∃ e : Nat, e + t + 1 = a := ⟨a - 1 - t, by omega⟩
            obtain rfl : e' = (e : Int) := by omega
            have he1 : e + t + 1 ≤ a := by omega
            have he2 : a ≤ e + t + 1 := by omega
            clear he' he
            obtain ⟨h, hOx, hY1, hX1⟩ := hx2.out
            have OX := Hf.mk hOx
            have HY1 := Hf.mk hY1
            have HX1 := Hf.mk hX1
            clear hOx hY1 hX1
            go_wp2
            go_loopw [13] (fun k wr => ∃ (d : Nat), e + 1 ≤ d ∧ d ≤ a ∧ k = .int .i64 d ∧ Hf (∃ h, Own wr w1.heap.size 41 gx cx a h ∧ (∀ j, j < e → h j = Y j) ∧ h e = lpF (fun d => M (e + 1 + d) e) (fun d => X (e + 1 + d)) (Y e) (d - (e + 1)) ∧ ∀ j, e < j → j < a → h j = X j) ∧ Hf (Own wr w.heap.size 41 gs cap N f) ∧ Hf (∀ j, j < a → wr.cell? ⟨gr, j, none⟩ = some (.slice (some ⟨gs, j * a, none⟩) a a)) ∧ Hf (Below w.heap.size w wr)) (fun k _ => a - (intOf k).toNat)
            case atStart => exact ⟨e + 1, by omega, by omega, i_ext2 (by omega), ⟨⟨h, OX.out, fun j hj => HY1.out j (by omega), by rw [Nat.sub_self]; exact HY1.out e (by omega), fun j h1 h2 => HX1.out j (by omega) h2⟩⟩, hr2, hcr2, hb2⟩
            case round =>
              obtain ⟨d, hd1, hd2, rfl, hx3, hr3, hcr3, hb3⟩ := hrel
              obtain ⟨W3, hW3⟩ : ∃ W3, W3 = wr := ⟨_, rfl⟩
              subst hW3
              obtain ⟨h3, hO3, hY3, hE3, hX3⟩ := hx3.out
              have OX3 := Hf.mk hO3
              have HY3 := Hf.mk hY3
              have HE3 := Hf.mk hE3
              have HX3 := Hf.mk hX3
              clear hO3 hY3 hE3 hX3
              have hea : e < a := by omega
              obtain ⟨r0, k0, g0⟩ := OX3.out.cell hea
              rw [HE3.out] at g0
              have z0 := OX3.out.free e
              by_cases hdc : d < a
              · obtain ⟨p, hp⟩ : ∃ p : Nat, p = d * a := ⟨_, rfl⟩
                have hpN : p + a ≤ N := by rw [HN.out, hp]; have := Nat.mul_le_mul_right a (show d + 1 ≤ a from hdc); rw [Nat.add_mul, Nat.one_mul] at this; exact this
                have cd := hcr3.out d hdc
                rw [← hp] at cd
                obtain ⟨r1, k1, g1⟩ := hr3.out.cell (show p + e < N by omega)
                rw [show f (p + e) = M d e by rw [hp]; exact HF1.out d e hdc (by omega)] at g1
                obtain ⟨r2, k2, g2⟩ := OX3.out.cell hdc
                rw [HX3.out d (by omega) hdc] at g2
                have HP := Hf.mk hp
                clear hp
                have KS := Hf.mk (lpF_step (f := fun d => M d e) (g := X) (s := Y e) hd1)
                go_wp2
                refine region_tell (C := Dr W3) 18 (by kernel_rfl) (by kernel_rfl) ⟨1, rfl⟩ (fun K L hK => lexS_start ?_)
                simp only [List.take_succ_cons, List.take_zero]
                repeat (refine tS_val ?_ rfl (fun i hi q => ?_) ?_; rotate_left; (focus (go_simp; rfl)); simp only [Act.put, List.setIfInBounds_toArray, List.set_cons_succ, List.set_cons_zero])
                refine tS_fop _ _ rfl rfl rfl (fun i hi => ⟨_, rfl, g1⟩) (fun i hi => ⟨_, rfl, g2⟩) ?_
                simp only [Act.put, List.setIfInBounds_toArray, List.set_cons_succ, List.set_cons_zero]
                refine tS_fop _ _ rfl rfl rfl (fun i hi => ⟨_, rfl, g0⟩) (fun i hi => ⟨_, rfl, hi.2⟩) ?_
                simp only [Act.put, List.setIfInBounds_toArray, List.set_cons_succ, List.set_cons_zero]
                repeat (refine tS_val ?_ rfl (fun i hi q => ?_) ?_; rotate_left; (focus (go_simp; rfl)); simp only [Act.put, List.setIfInBounds_toArray, List.set_cons_succ, List.set_cons_zero])
                refine lexS_end ?_
                rintro ⟨⟨_, r⟩, r4⟩ ⟨⟨_, hr⟩, hr4⟩
                refine hK _ ?_
                rintro w' ⟨z, rfl⟩
                simp only [List.drop_succ_cons, List.drop_zero]
                go_wp2
                go_roundw
                case rel =>
                  refine ⟨d + 1, by omega, by omega, i_ext2 (by omega), ⟨⟨_, (OX3.out.drews _).set hea hr4, fun j hj => ?_, ?_, fun j hj1 hj2 => ?_⟩⟩, ⟨(hr3.out.drews _).other (a := ⟨gx, e, none⟩) (Ne.symm hxs) _⟩, ⟨fun j hj => by rw [cell_off hxr]; exact hcr3.out j hj⟩, ⟨Below.setCell (p := ⟨gx, e, none⟩) (Below.drews hb3.out) (show w.heap.size ≤ gx by omega) _⟩⟩
                  · exact (if_neg (by omega)).trans (HY3.out j hj)
                  · exact (if_pos rfl).trans KS.out
                  · exact (if_neg (by omega)).trans (HX3.out j hj1 hj2)
                case measure =>
                  simp [intOf]
                  try omega
              · have hdc2 : a = d := by omega
                obtain ⟨p, hp⟩ : ∃ p : Nat, p = e * a := ⟨_, rfl⟩
                have hpN : p + a ≤ N := by rw [HN.out, hp]; have := Nat.mul_le_mul_right a (show e + 1 ≤ a by omega); rw [Nat.add_mul, Nat.one_mul] at this; exact this
                have cd := hcr3.out e hea
                rw [← hp] at cd
                obtain ⟨r3, k3, g3⟩ := hr3.out.cell (show p + e < N by omega)
                rw [show f (p + e) = M e e by rw [hp]; exact HF1.out e e hea (Nat.le_refl _)] at g3
                have G0 := Hf.mk (show Fl .f32 (lpF (fun d => M (e + 1 + d) e) (fun d => X (e + 1 + d)) (Y e) (a - 1 - e)) r0 by rw [show a - 1 - e = d - (e + 1) by omega]; exact g0)
                clear g0
                have HP := Hf.mk hp
                have HD := Hf.mk hdc2
                clear hp hdc2
                have HME := Hf.mk (HXe.out e hea)
                go_wp2
                refine region_tell (C := Dr W3) 13 (by kernel_rfl) (by kernel_rfl) ⟨1, rfl⟩ (fun K L hK => lexS_start ?_)
                simp only [List.take_succ_cons, List.take_zero]
                repeat (refine tS_val ?_ rfl (fun i hi q => ?_) ?_; rotate_left; (focus (go_simp; rfl)); simp only [Act.put, List.setIfInBounds_toArray, List.set_cons_succ, List.set_cons_zero])
                refine tS_fop _ _ rfl rfl rfl (fun i hi => ⟨_, rfl, G0.out⟩) (fun i hi => ⟨_, rfl, g3⟩) ?_
                simp only [Act.put, List.setIfInBounds_toArray, List.set_cons_succ, List.set_cons_zero]
                repeat (refine tS_val ?_ rfl (fun i hi q => ?_) ?_; rotate_left; (focus (go_simp; rfl)); simp only [Act.put, List.setIfInBounds_toArray, List.set_cons_succ, List.set_cons_zero])
                refine lexS_end ?_
                rintro ⟨_, r4⟩ ⟨_, hr4⟩
                refine hK _ ?_
                rintro w' ⟨z, rfl⟩
                simp only [List.drop_succ_cons, List.drop_zero]
                go_wp2
                go_roundw
                case rel =>
                  refine ⟨t + 1, _, by omega, rfl, by omega, ⟨⟨_, (OX3.out.drews _).set hea hr4, fun j hj => ?_, fun j hj1 hj2 => ?_⟩⟩, ⟨(hr3.out.drews _).other (a := ⟨gx, e, none⟩) (Ne.symm hxs) _⟩, ⟨fun j hj => by rw [cell_off hxr]; exact hcr3.out j hj⟩, ⟨Below.setCell (p := ⟨gx, e, none⟩) (Below.drews hb3.out) (show w.heap.size ≤ gx by omega) _⟩⟩
                  · exact (if_neg (by omega)).trans (HY3.out j (by omega))
                  · by_cases hje : j = e
                    · exact (if_pos hje).trans (by rw [hje, HME.out])
                    · exact (if_neg hje).trans (HX3.out j (by omega) hj2)
                case measure =>
                  simp [intOf]
                  try omega
          · obtain rfl : t = a := by omega
            obtain ⟨h, hOx, hY1, hX1⟩ := hx2.out
            have FC := Hf.mk (finB_congr (m := t) (f := h) (g := X) (fun j hj => hX1 j (by omega) hj))
            have OX := Hf.mk (hOx.mono (base' := w.heap.size) (f' := X) (by omega) (fun j hj => hX1 j (by omega) hj))
            have HTo := Hf.mk hOx.told
            clear hOx hY1 hX1
            obtain rfl : e' = -1 := by omega
            clear he'
            cases hfin : finB t X
            · have KA := Hf.mk (fun W (hw : Told W gx t h) => allF_no (k := cx) W hw (by omega) (by rw [FC.out]; exact hfin))
              have HFI := Hf.mk hfin
              clear hfin
              go_wp2_with (first | (go_at_call 60; refine (KA.out _ HTo.out).mono ?_; rintro ex w' ⟨rfl, n1, rfl⟩))
              go_ret2
              exact .inr ⟨HFI.out, rfl, Below.drews hb2.out⟩
            · have KA := Hf.mk (fun W (hw : Told W gx t h) => allF_yes (k := cx) W hw (by omega) (by rw [FC.out]; exact hfin))
              have HFI := Hf.mk hfin
              clear hfin
              go_wp2_with (first | (go_at_call 60; refine (KA.out _ HTo.out).mono ?_; rintro ex w' ⟨rfl, n1, rfl⟩))
              go_ret2
              exact .inl ⟨HFI.out, ⟨gx, cx, rfl, OX.out.drews _⟩, Below.drews hb2.out⟩
end Go.Proofs.Ytconlpgifkknmab
