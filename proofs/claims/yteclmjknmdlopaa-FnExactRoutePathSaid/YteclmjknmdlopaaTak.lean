/-
Taken from the heap of stops of the program: the least one; the others are a heap. No premise beyond those named.
-/
import Derived.Test.YteclmjknmdlopaaStp
import Derived.BigQuiet
import Derived.WalkSmall
namespace Go.Proofs.Yteclmjknmdlopaa
open Go Go.RowKit
set_option maxRecDepth 100000

theorem SRow.pop {w : World} {base : Nat} {T : TypeId} {g cap n : Nat} {G : Nat → Int × Int} (h : SRow w base T g cap (n + 1) G) : SRow w base T g cap n G := by
  have e : il ((n + 1) * 2) (c2 G) = il (n * 2) (c2 G) ++ [.int .i64 (G n).1, .int .i64 (G n).2] := by
    rw [show (n + 1) * 2 = n * 2 + 1 + 1 by omega, ← il_more, ← il_more, List.append_assoc, c2_0, c2_1]; rfl
  unfold SRow at h ⊢
  rw [e] at h
  exact ownsRow_pop (by rw [il_len]) h
theorem kid_min {n i k kk : Nat} {G : Nat → Int × Int} (hk : k = 2 * i + 1) (hkk : (kk = k + 1 ∧ bef (G (k + 1)) (G k)) ∨ (kk = k ∧ (n ≤ k + 1 ∨ ¬ bef (G (k + 1)) (G k)))) : ∀ j, 0 < j → j < n → (j - 1) / 2 = i → ¬ bef (G j) (G kk) := by
  intro j h0 hj hp
  have hj2 : j = k ∨ j = k + 1 := by omega
  rcases hkk with ⟨rfl, hb⟩ | ⟨rfl, hb⟩
  · rcases hj2 with rfl | rfl
    · exact bef_ordr.asym _ _ hb
    · intro h; exact bef_ordr.asym _ _ h h
  · rcases hj2 with rfl | rfl
    · intro h; exact bef_ordr.asym _ _ h h
    · rcases hb with hb | hb
      · omega
      · exact hb
theorem take_perm2 {n : Nat} {G G' : Nat → Int × Int} (h : (lst n G').Perm (lst n (fun j => if j = 0 then G n else G j))) : (G 0 :: lst n G').Perm (lst (n + 1) G) := (h.cons _).trans take_perm
theorem SRow.cap_le {w : World} {base : Nat} {T : TypeId} {g cap n : Nat} {G : Nat → Int × Int} (h : SRow w base T g cap n G) : n ≤ cap := by
  rcases h.2 with ⟨h1, _⟩ | ⟨g', cap', cur, hv, _, _, hn, _⟩
  · cases h1
  · cases hv; exact hn
/-- The result and the first stop, in two blocks of two cells. -/
structure Two (w : World) (b : Nat) (x : Int × Int) : Prop where
  r0 : At w ⟨b, 0, none⟩ (.int .i64 0)
  r1 : At w ⟨b, 1, none⟩ (.int .i64 0)
  x0 : At w ⟨b + 1, 0, none⟩ (.int .i64 x.1)
  x1 : At w ⟨b + 1, 1, none⟩ (.int .i64 x.2)
theorem Two.set {w : World} {b : Nat} {x : Int × Int} (h : Two w b x) {g o : Nat} (hg : g < b) (v : Value) : Two (w.setCell ⟨g, o, none⟩ v) b x :=
  ⟨h.r0.ot0 (.inl (by omega)) _, h.r1.ot0 (.inl (by omega)) _, h.x0.ot0 (.inl (by omega)) _, h.x1.ot0 (.inl (by omega)) _⟩
theorem Two.below {w w' : World} {b : Nat} {x : Int × Int} (h : Two w b x) (k : Below w.heap.size w w') : Two w' b x :=
  ⟨At.keep k h.r0.cell h.r0.free, At.keep k h.r1.cell h.r1.free, At.keep k h.x0.cell h.x0.free, At.keep k h.x1.cell h.x1.free⟩
theorem Two.drews {w : World} {b : Nat} {x : Int × Int} (h : Two w b x) (q : Nat) : Two (w.drewN q) b x := ⟨h.r0.drws0 q, h.r1.drws0 q, h.x0.drws0 q, h.x1.drws0 q⟩
set_option maxHeartbeats 8000000 in
theorem take_any {hb g cap n base : Nat} {G : Nat → Int × Int} (w : World) (hs : SRow w base 120 g cap (n + 1) G) (h0 : w.cell? ⟨hb, 0, none⟩ = some (.slice (some ⟨g, 0, none⟩) (n + 1) cap)) (z0 : w.frozen? ⟨hb, 0, none⟩ = false) (hn : n ≤ 10000) (hgb : g ≠ hb) (hH : Heap bef (n + 1) G) : Calls Try.prog 75 #[.pointer (some ⟨hb, 0, none⟩)] w (fun e w' => ∃ G', e = .returned (st2 (G 0).1 (G 0).2) ∧ SRow w' base 120 g cap n G' ∧ At w' ⟨hb, 0, none⟩ (.slice (some ⟨g, 0, none⟩) n cap) ∧ Heap bef n G' ∧ (G 0 :: lst n G').Perm (lst (n + 1) G) ∧ Kp2 hb (some g) w w') := by
  have hlb := World.block_lt_of_cell? w _ h0
  have p0 := hs.cell0 (by omega : 0 < n + 1)
  have p1 := hs.cell1 (by omega : 0 < n + 1)
  have q0 := hs.cell0 (by omega : n < n + 1)
  have q1 := hs.cell1 (by omega : n < n + 1)
  have zp0 := hs.free (0 * 2)
  have zp1 := hs.free (0 * 2 + 1)
  have hlg := World.block_lt_of_cell? w _ p0
  simp only [Nat.zero_mul, Nat.zero_add] at p0 p1 zp0 zp1
  simp only at hlb hlg
  have n0 := World.new_ne w _ h0
  have n1 := World.new_ne w _ p0
  have hcap := hs.cap_le
  have HS := Hf.mk hs
  have HD := Hf.mk (Down.first hH)
  clear hs hH
  have hG0 : ∃ x : Int × Int, x = G 0 := ⟨_, rfl⟩
  obtain ⟨x0, hx0⟩ := hG0
  have hGn : ∃ x : Int × Int, x = G n := ⟨_, rfl⟩
  obtain ⟨xn, hxn⟩ := hGn
  rw [← hx0] at p0 p1
  rw [← hxn] at q0 q1
  go_enter Try.func75, Try.ntmps75
  go_wp2
  go_region
  go_wp2
  go_region
  go_wp2
  have S1 : Hf (SRow ((((((w.setCell ⟨g, 0, none⟩ (.int .i64 (G n).1)).setCell ⟨g, 1, none⟩ (.int .i64 (G n).2)).setCell ⟨hb, 0, none⟩ (.slice (some ⟨g, 0, none⟩) n cap)).alloc (.cells #[.int .i64 0, .int .i64 0] 120)).alloc (.cells #[.int .i64 (G 0).1, .int .i64 (G 0).2] 120)).drew.drew) base 120 g cap n (fun j => if j = 0 then G n else G j)) := ⟨SRow.pop (by
    have a0 : SRow ((w.setCell ⟨g, 0, none⟩ (.int .i64 (G n).1)).setCell ⟨g, 1, none⟩ (.int .i64 (G n).2)) base 120 g cap (n + 1) (fun j => if j = 0 then G n else G j) := HS.out.set (by omega) (G n)
    have a1 : SRow (((w.setCell ⟨g, 0, none⟩ (.int .i64 (G n).1)).setCell ⟨g, 1, none⟩ (.int .i64 (G n).2)).setCell ⟨hb, 0, none⟩ (.slice (some ⟨g, 0, none⟩) n cap)) base 120 g cap (n + 1) (fun j => if j = 0 then G n else G j) := rown_other a0 hgb _
    exact rown_below a1 (by repeat (first | exact Below.refl _ _ | with_reducible assumption | refine Below.drews ?_ | refine Below.drew ?_ | refine Below.alloc ?_ (by simp <;> omega) _ | refine Below.setCell ?_ (by simp <;> omega) _)))⟩
  have C1 : Hf (At ((((((w.setCell ⟨g, 0, none⟩ (.int .i64 (G n).1)).setCell ⟨g, 1, none⟩ (.int .i64 (G n).2)).setCell ⟨hb, 0, none⟩ (.slice (some ⟨g, 0, none⟩) n cap)).alloc (.cells #[.int .i64 0, .int .i64 0] 120)).alloc (.cells #[.int .i64 (G 0).1, .int .i64 (G 0).2] 120)).drew.drew) ⟨hb, 0, none⟩ (.slice (some ⟨g, 0, none⟩) n cap)) := ⟨by
    have a0 := ((At.mk h0 z0 hlb).ot0 (b2 := g) (o2 := 0) (.inl (Ne.symm hgb)) (.int .i64 (G n).1)).ot0 (b2 := g) (o2 := 1) (.inl (Ne.symm hgb)) (.int .i64 (G n).2)
    have a1 := a0.st0 (.slice (some ⟨g, 0, none⟩) n cap)
    exact At.keep (by repeat (first | exact Below.refl _ _ | with_reducible assumption | refine Below.drews ?_ | refine Below.drew ?_ | refine Below.alloc ?_ (by simp <;> omega) _ | refine Below.setCell ?_ (by simp <;> omega) _)) a1.cell a1.free⟩
  have T1 : Hf (Two ((((((w.setCell ⟨g, 0, none⟩ (.int .i64 (G n).1)).setCell ⟨g, 1, none⟩ (.int .i64 (G n).2)).setCell ⟨hb, 0, none⟩ (.slice (some ⟨g, 0, none⟩) n cap)).alloc (.cells #[.int .i64 0, .int .i64 0] 120)).alloc (.cells #[.int .i64 (G 0).1, .int .i64 (G 0).2] 120)).drew.drew) w.heap.size (G 0)) := ⟨⟨⟨by simp [go_sem], by simp [go_sem], by simp <;> omega⟩, ⟨by simp [go_sem], by simp [go_sem], by simp <;> omega⟩, ⟨by simp [go_sem], by simp [go_sem], by simp <;> omega⟩, ⟨by simp [go_sem], by simp [go_sem], by simp <;> omega⟩⟩⟩
  have K1 : Hf (Kp2 hb (some g) w ((((((w.setCell ⟨g, 0, none⟩ (.int .i64 (G n).1)).setCell ⟨g, 1, none⟩ (.int .i64 (G n).2)).setCell ⟨hb, 0, none⟩ (.slice (some ⟨g, 0, none⟩) n cap)).alloc (.cells #[.int .i64 0, .int .i64 0] 120)).alloc (.cells #[.int .i64 (G 0).1, .int .i64 (G 0).2] 120)).drew.drew)) := ⟨by
    have k0 : Kp2 hb (some g) w w := ⟨rfl, rfl, rfl, Nat.le_refl _, fun _ _ _ _ => rfl⟩
    exact Kp2.below (Kp2.set (Kp2.set (Kp2.set k0 _ (.inr (.inl rfl))) _ (.inr (.inl rfl))) _ (.inl rfl)) (by repeat (first | exact Below.refl _ _ | with_reducible assumption | refine Below.drews ?_ | refine Below.drew ?_ | refine Below.alloc ?_ (by simp <;> omega) _ | refine Below.setCell ?_ (by simp <;> omega) _))⟩
  have P1 : Hf ((lst n (fun j => if j = 0 then G n else G j)).Perm (lst n (fun j => if j = 0 then G n else G j))) := ⟨List.Perm.refl _⟩
  have HG0 : Hf (∀ (_ : Unit) (G' : Nat → Int × Int), (lst n G').Perm (lst n (fun j => if j = 0 then G n else G j)) → (G 0 :: lst n G').Perm (lst (n + 1) G)) := ⟨fun _ _ h => take_perm2 h⟩
  generalize hG1 : (fun j => if j = 0 then G n else G j) = G1 at *
  clear hG1 HS p0 p1 q0 q1 hx0 hxn zp0 zp1 n0 n1
  generalize ((((((w.setCell ⟨g, 0, none⟩ (.int .i64 (G n).1)).setCell ⟨g, 1, none⟩ (.int .i64 (G n).2)).setCell ⟨hb, 0, none⟩ (.slice (some ⟨g, 0, none⟩) n cap)).alloc (.cells #[.int .i64 0, .int .i64 0] 120)).alloc (.cells #[.int .i64 (G 0).1, .int .i64 (G 0).2] 120)).drew.drew) = W at *
  clear h0 z0
  go_loopw [5, 6] (fun v5 v6 wr => ∃ (i k : Nat) (G' : Nat → Int × Int), Hf (k = 2 * i + 1) ∧ i ≤ n ∧ k ≤ 20001 ∧ v5 = .int .i64 i ∧ v6 = .int .i64 k ∧ Hf (SRow wr base 120 g cap n G') ∧ Hf (At wr ⟨hb, 0, none⟩ (.slice (some ⟨g, 0, none⟩) n cap)) ∧ Hf (Two wr w.heap.size (G 0)) ∧ Hf (Down bef n G' i) ∧ Hf ((lst n G').Perm (lst n G1)) ∧ Hf (Kp2 hb (some g) w wr)) (fun v5 _ _ => n - (intOf v5).toNat)
  case atStart => exact ⟨0, 1, G1, ⟨rfl⟩, Nat.zero_le _, by omega, rfl, rfl, S1, C1, T1, HD, P1, K1⟩
  case round =>
    clear S1 C1 T1 HD P1 K1
    obtain ⟨i, k, G', hkk, hin, hk20, rfl, rfl, hS, hC, hT, hD, hP, hK⟩ := hrel
    obtain ⟨W2, hW2⟩ : ∃ W2, W2 = wr := ⟨_, rfl⟩
    subst hW2
    have d0 := hC.out.cell
    have HKN : Hf (k = 2 * i + 1) := hkk
    clear hkk
    by_cases hkn : k < n
    · by_cases hk1 : k + 1 < n
      · by_cases hbf : bef (G' (k + 1)) (G' k)
        · skip
          have i0 := hS.out.cell0 hk1
          have i1 := hS.out.cell1 hk1
          have j0 := hS.out.cell0 hkn
          have j1 := hS.out.cell1 hkn
          have KB := Hf.mk (fun w => isBefore_any (a := (G' (k + 1)).1) (b := (G' (k + 1)).2) (c := (G' k).1) (d := (G' k).2) w)
          rw [show decide (bef ((G' (k + 1)).1, (G' (k + 1)).2) ((G' k).1, (G' k).2)) = true from decide_eq_true hbf] at KB
          have D1 := Hb.mk (show decide ((k : Int) + 1 < (n : Int)) = true from decide_eq_true (by omega))
          have hw1 : IntKind.i64.wrap ((k : Int) + 1) = (k : Int) + 1 := IntWalk.i64_in _ ⟨by omega, by omega⟩
          have hw2 : ((k : Int) + 1).toNat = k + 1 := by omega
          have HM := Hf.mk (kid_min (n := n) (G := G') (kk := k + 1) HKN.out (.inl ⟨rfl, hbf⟩))
          have HKK := Hf.mk (show (k + 1 - 1) / 2 = i from by have := HKN.out; omega)
          have HKn := Hf.mk (show k + 1 < n from by omega)
          clear hbf
          go_wp2
          refine region_all (by kernel_rfl) (by kernel_rfl) (fun I F hne HB hcl => ?_)
          have f0 := keepF HB (p := ⟨hb, 0, none⟩) d0
          have f1 := keepF HB (p := ⟨g, (k + 1) * 2, none⟩) i0
          have f2 := keepF HB (p := ⟨g, (k + 1) * 2 + 1, none⟩) i1
          have f3 := keepF HB (p := ⟨g, k * 2, none⟩) j0
          have f4 := keepF HB (p := ⟨g, k * 2 + 1, none⟩) j1
          repeat (first | go_big_quiet_step ((simp only [meth_stop]; go_simp; exact callS hcl (KB.out _))) | rw [D1.out])
          refine wpQuiet_nil ?_
          intro _ hw'
          obtain ⟨iq, rfl⟩ := hw'
          clear hcl
          have E1 := Hb.mk (HB.out iq)
          clear f0 f1 f2 f3 f4 i0 i1 j0 j1
          clear HB KB D1
          generalize F iq = W3 at E1 ⊢
          replace hS := Hf.mk (show SRow W3 base 120 g cap n G' from rown_below hS.out E1.out)
          replace hC := Hf.mk (At.keep E1.out hC.out.cell hC.out.free)
          replace hT := Hf.mk (hT.out.below E1.out)
          replace hK := Hf.mk (hK.out.below E1.out)
          clear E1 d0
          have d0 := hC.out.cell
          have hik : i ≠ k + 1 := by have := HKN.out; omega
          have hii : i < n := by have := HKN.out; omega
          by_cases hsw : bef (G' (k + 1)) (G' i)
          · have KC := swapIf_yes (i := i) (k := k + 1) W3 hS.out d0 hii HKn.out hik (by omega) hsw
            rw [show (((k + 1 : Nat) : Int)) = (k : Int) + 1 by omega] at KC
            replace KC := Hf.mk KC
            have KD := Hf.mk (hD.out.step bef_ordr (by have := HKN.out; omega) HKn.out HKK.out hsw HM.out)
            have KP := Hf.mk ((swp_perm (G := G') hii HKn.out).trans hP.out)
            have SS := Hf.mk (fun (w3 : World) (b : Below W3.heap.size W3 w3) (q : Nat) => SRow.drews (SRow.set (SRow.set (show SRow w3 base 120 g cap n G' from rown_below hS.out b) hii (G' (k + 1))) HKn.out (G' i)) q)
            clear hsw
            go_wp2_with (go_at_call 91; refine (KC.out).mono ?_; rintro e w' ⟨rfl, w3, b3, q, rfl⟩; have B3 := Hf.mk b3; clear b3)
            go_roundw
            case rel =>
              have hgb2 : w.heap.size ≠ g := Ne.symm (Nat.ne_of_lt hlg)
              have hgl : g < w.heap.size := hlg
              refine ⟨k + 1, 2 * (k + 1) + 1, swp G' i (k + 1), ⟨rfl⟩, by omega, by omega, by first | rfl | exact i_ext2 (by omega), by first | rfl | exact i_ext2 (by omega), ⟨SRow.eqv (SS.out w3 B3.out q) fun j => ?_⟩, ⟨?_⟩, ⟨?_⟩, KD, KP, ⟨?_⟩⟩
              · unfold swp
                by_cases e1 : j = k + 1
                · subst e1; simp [Ne.symm hik]
                · by_cases e2 : j = i
                  · subst e2; simp [hik]
                  · simp [e1, e2]
              · exact At.drws0 (((((At.keep B3.out hC.out.cell hC.out.free).ot0 (.inl (Ne.symm hgb)) _).ot0 (.inl (Ne.symm hgb)) _).ot0 (.inl (Ne.symm hgb)) _).ot0 (.inl (Ne.symm hgb)) _) q
              · exact Two.drews ((((((hT.out.below B3.out).set hgl _).set hgl _).set hgl _).set hgl _)) q
              · exact Kp2.drews (Kp2.set (Kp2.set (Kp2.set (Kp2.set (hK.out.below B3.out) _ (.inr (.inl rfl))) _ (.inr (.inl rfl))) _ (.inr (.inl rfl))) _ (.inr (.inl rfl))) q
            case measure => have := HKN.out; simp [intOf]; omega
          · have KC := swapIf_no (i := i) (k := k + 1) W3 hS.out d0 hii HKn.out (by omega) hsw
            rw [show (((k + 1 : Nat) : Int)) = (k : Int) + 1 by omega] at KC
            replace KC := Hf.mk KC
            have HL := Hf.mk (hD.out.done bef_ordr hsw HM.out)
            clear hsw
            have r0c := hT.out.r0.cell
            have r1c := hT.out.r1.cell
            have x0c := hT.out.x0.cell
            have x1c := hT.out.x1.cell
            have y0c := hT.out.r0.free
            have y1c := hT.out.r1.free
            go_wp2_with (go_at_call 91; refine (KC.out).mono ?_; rintro e w' ⟨rfl, b3⟩; have B3 := Hf.mk b3; clear b3; have r0 := Below.keep B3.out r0c; have r1 := Below.keep B3.out r1c; have x0 := Below.keep B3.out x0c; have x1 := Below.keep B3.out x1c; have y0 := (At.keep B3.out r0c y0c).free; have y1 := (At.keep B3.out r1c y1c).free)
            have hbne : w.heap.size ≠ hb := Ne.symm (Nat.ne_of_lt hlb)
            have hgne : g ≠ w.heap.size := Nat.ne_of_lt hlg
            (try simp only [Exit.inBlock, Exit.then])
            refine bodyPost_ret (v := st2 (G 0).1 (G 0).2) (by simp [results, Try.results75, go_sem, r0, r1]) rfl ⟨G', rfl, ?_, ?_, HL.out, HG0.out () _ hP.out, ?_⟩
            · exact rown_other (rown_other (rown_below hS.out B3.out) hgne _) hgne _
            · exact (((At.keep B3.out hC.out.cell hC.out.free).ot0 (.inl (Ne.symm hbne)) _).ot0 (.inl (Ne.symm hbne)) _)
            · exact Kp2.set (Kp2.set (hK.out.below B3.out) _ (.inr (.inr (Nat.le_refl _)))) _ (.inr (.inr (Nat.le_refl _)))
        · skip
          have i0 := hS.out.cell0 hk1
          have i1 := hS.out.cell1 hk1
          have j0 := hS.out.cell0 hkn
          have j1 := hS.out.cell1 hkn
          have KB := Hf.mk (fun w => isBefore_any (a := (G' (k + 1)).1) (b := (G' (k + 1)).2) (c := (G' k).1) (d := (G' k).2) w)
          rw [show decide (bef ((G' (k + 1)).1, (G' (k + 1)).2) ((G' k).1, (G' k).2)) = false from decide_eq_false hbf] at KB
          have D1 := Hb.mk (show decide ((k : Int) + 1 < (n : Int)) = true from decide_eq_true (by omega))
          have hw1 : IntKind.i64.wrap ((k : Int) + 1) = (k : Int) + 1 := IntWalk.i64_in _ ⟨by omega, by omega⟩
          have hw2 : ((k : Int) + 1).toNat = k + 1 := by omega
          have HM := Hf.mk (kid_min (n := n) (G := G') (kk := k) HKN.out (.inr ⟨rfl, .inr hbf⟩))
          have HKK := Hf.mk (show (k - 1) / 2 = i from by have := HKN.out; omega)
          have HKn := Hf.mk (show k < n from by omega)
          clear hbf
          go_wp2
          refine region_all (by kernel_rfl) (by kernel_rfl) (fun I F hne HB hcl => ?_)
          have f0 := keepF HB (p := ⟨hb, 0, none⟩) d0
          have f1 := keepF HB (p := ⟨g, (k + 1) * 2, none⟩) i0
          have f2 := keepF HB (p := ⟨g, (k + 1) * 2 + 1, none⟩) i1
          have f3 := keepF HB (p := ⟨g, k * 2, none⟩) j0
          have f4 := keepF HB (p := ⟨g, k * 2 + 1, none⟩) j1
          repeat (first | go_big_quiet_step ((simp only [meth_stop]; go_simp; exact callS hcl (KB.out _))) | rw [D1.out])
          refine wpQuiet_nil ?_
          intro _ hw'
          obtain ⟨iq, rfl⟩ := hw'
          clear hcl
          have E1 := Hb.mk (HB.out iq)
          clear f0 f1 f2 f3 f4 i0 i1 j0 j1
          clear HB KB D1
          generalize F iq = W3 at E1 ⊢
          replace hS := Hf.mk (show SRow W3 base 120 g cap n G' from rown_below hS.out E1.out)
          replace hC := Hf.mk (At.keep E1.out hC.out.cell hC.out.free)
          replace hT := Hf.mk (hT.out.below E1.out)
          replace hK := Hf.mk (hK.out.below E1.out)
          clear E1 d0
          have d0 := hC.out.cell
          have hik : i ≠ k := by have := HKN.out; omega
          have hii : i < n := by have := HKN.out; omega
          by_cases hsw : bef (G' (k)) (G' i)
          · have KC := swapIf_yes (i := i) (k := k) W3 hS.out d0 hii HKn.out hik (by omega) hsw
            replace KC := Hf.mk KC
            have KD := Hf.mk (hD.out.step bef_ordr (by have := HKN.out; omega) HKn.out HKK.out hsw HM.out)
            have KP := Hf.mk ((swp_perm (G := G') hii HKn.out).trans hP.out)
            have SS := Hf.mk (fun (w3 : World) (b : Below W3.heap.size W3 w3) (q : Nat) => SRow.drews (SRow.set (SRow.set (show SRow w3 base 120 g cap n G' from rown_below hS.out b) hii (G' (k))) HKn.out (G' i)) q)
            clear hsw
            go_wp2_with (go_at_call 91; refine (KC.out).mono ?_; rintro e w' ⟨rfl, w3, b3, q, rfl⟩; have B3 := Hf.mk b3; clear b3)
            go_roundw
            case rel =>
              have hgb2 : w.heap.size ≠ g := Ne.symm (Nat.ne_of_lt hlg)
              have hgl : g < w.heap.size := hlg
              refine ⟨k, 2 * (k) + 1, swp G' i (k), ⟨rfl⟩, by omega, by omega, by first | rfl | exact i_ext2 (by omega), by first | rfl | exact i_ext2 (by omega), ⟨SRow.eqv (SS.out w3 B3.out q) fun j => ?_⟩, ⟨?_⟩, ⟨?_⟩, KD, KP, ⟨?_⟩⟩
              · unfold swp
                by_cases e1 : j = k
                · subst e1; simp [Ne.symm hik]
                · by_cases e2 : j = i
                  · subst e2; simp [hik]
                  · simp [e1, e2]
              · exact At.drws0 (((((At.keep B3.out hC.out.cell hC.out.free).ot0 (.inl (Ne.symm hgb)) _).ot0 (.inl (Ne.symm hgb)) _).ot0 (.inl (Ne.symm hgb)) _).ot0 (.inl (Ne.symm hgb)) _) q
              · exact Two.drews ((((((hT.out.below B3.out).set hgl _).set hgl _).set hgl _).set hgl _)) q
              · exact Kp2.drews (Kp2.set (Kp2.set (Kp2.set (Kp2.set (hK.out.below B3.out) _ (.inr (.inl rfl))) _ (.inr (.inl rfl))) _ (.inr (.inl rfl))) _ (.inr (.inl rfl))) q
            case measure => have := HKN.out; simp [intOf]; omega
          · have KC := swapIf_no (i := i) (k := k) W3 hS.out d0 hii HKn.out (by omega) hsw
            replace KC := Hf.mk KC
            have HL := Hf.mk (hD.out.done bef_ordr hsw HM.out)
            clear hsw
            have r0c := hT.out.r0.cell
            have r1c := hT.out.r1.cell
            have x0c := hT.out.x0.cell
            have x1c := hT.out.x1.cell
            have y0c := hT.out.r0.free
            have y1c := hT.out.r1.free
            go_wp2_with (go_at_call 91; refine (KC.out).mono ?_; rintro e w' ⟨rfl, b3⟩; have B3 := Hf.mk b3; clear b3; have r0 := Below.keep B3.out r0c; have r1 := Below.keep B3.out r1c; have x0 := Below.keep B3.out x0c; have x1 := Below.keep B3.out x1c; have y0 := (At.keep B3.out r0c y0c).free; have y1 := (At.keep B3.out r1c y1c).free)
            have hbne : w.heap.size ≠ hb := Ne.symm (Nat.ne_of_lt hlb)
            have hgne : g ≠ w.heap.size := Nat.ne_of_lt hlg
            (try simp only [Exit.inBlock, Exit.then])
            refine bodyPost_ret (v := st2 (G 0).1 (G 0).2) (by simp [results, Try.results75, go_sem, r0, r1]) rfl ⟨G', rfl, ?_, ?_, HL.out, HG0.out () _ hP.out, ?_⟩
            · exact rown_other (rown_other (rown_below hS.out B3.out) hgne _) hgne _
            · exact (((At.keep B3.out hC.out.cell hC.out.free).ot0 (.inl (Ne.symm hbne)) _).ot0 (.inl (Ne.symm hbne)) _)
            · exact Kp2.set (Kp2.set (hK.out.below B3.out) _ (.inr (.inr (Nat.le_refl _)))) _ (.inr (.inr (Nat.le_refl _)))
      · skip
        have j0 := hS.out.cell0 hkn
        have j1 := hS.out.cell1 hkn
        have D1 := Hb.mk (show decide ((k : Int) + 1 < (n : Int)) = false from decide_eq_false (by omega))
        have hw1 : IntKind.i64.wrap ((k : Int) + 1) = (k : Int) + 1 := IntWalk.i64_in _ ⟨by omega, by omega⟩
        have hw2 : ((k : Int) + 1).toNat = k + 1 := by omega
        have HM := Hf.mk (kid_min (n := n) (G := G') (kk := k) HKN.out (.inr ⟨rfl, .inl (by omega)⟩))
        have HKK := Hf.mk (show (k - 1) / 2 = i from by have := HKN.out; omega)
        have HKn := Hf.mk (show k < n from by omega)
        go_wp2
        refine region_all (by kernel_rfl) (by kernel_rfl) (fun I F hne HB hcl => ?_)
        have f0 := keepF HB (p := ⟨hb, 0, none⟩) d0
        repeat (first | go_big_quiet_step (fail) | rw [D1.out])
        refine wpQuiet_nil ?_
        intro _ hw'
        obtain ⟨iq, rfl⟩ := hw'
        clear hcl
        have E1 := Hb.mk (HB.out iq)
        clear f0 j0 j1
        clear HB D1
        generalize F iq = W3 at E1 ⊢
        replace hS := Hf.mk (show SRow W3 base 120 g cap n G' from rown_below hS.out E1.out)
        replace hC := Hf.mk (At.keep E1.out hC.out.cell hC.out.free)
        replace hT := Hf.mk (hT.out.below E1.out)
        replace hK := Hf.mk (hK.out.below E1.out)
        clear E1 d0
        have d0 := hC.out.cell
        have hik : i ≠ k := by have := HKN.out; omega
        have hii : i < n := by have := HKN.out; omega
        by_cases hsw : bef (G' (k)) (G' i)
        · have KC := swapIf_yes (i := i) (k := k) W3 hS.out d0 hii HKn.out hik (by omega) hsw
          replace KC := Hf.mk KC
          have KD := Hf.mk (hD.out.step bef_ordr (by have := HKN.out; omega) HKn.out HKK.out hsw HM.out)
          have KP := Hf.mk ((swp_perm (G := G') hii HKn.out).trans hP.out)
          have SS := Hf.mk (fun (w3 : World) (b : Below W3.heap.size W3 w3) (q : Nat) => SRow.drews (SRow.set (SRow.set (show SRow w3 base 120 g cap n G' from rown_below hS.out b) hii (G' (k))) HKn.out (G' i)) q)
          clear hsw
          go_wp2_with (go_at_call 91; refine (KC.out).mono ?_; rintro e w' ⟨rfl, w3, b3, q, rfl⟩; have B3 := Hf.mk b3; clear b3)
          go_roundw
          case rel =>
            have hgb2 : w.heap.size ≠ g := Ne.symm (Nat.ne_of_lt hlg)
            have hgl : g < w.heap.size := hlg
            refine ⟨k, 2 * (k) + 1, swp G' i (k), ⟨rfl⟩, by omega, by omega, by first | rfl | exact i_ext2 (by omega), by first | rfl | exact i_ext2 (by omega), ⟨SRow.eqv (SS.out w3 B3.out q) fun j => ?_⟩, ⟨?_⟩, ⟨?_⟩, KD, KP, ⟨?_⟩⟩
            · unfold swp
              by_cases e1 : j = k
              · subst e1; simp [Ne.symm hik]
              · by_cases e2 : j = i
                · subst e2; simp [hik]
                · simp [e1, e2]
            · exact At.drws0 (((((At.keep B3.out hC.out.cell hC.out.free).ot0 (.inl (Ne.symm hgb)) _).ot0 (.inl (Ne.symm hgb)) _).ot0 (.inl (Ne.symm hgb)) _).ot0 (.inl (Ne.symm hgb)) _) q
            · exact Two.drews ((((((hT.out.below B3.out).set hgl _).set hgl _).set hgl _).set hgl _)) q
            · exact Kp2.drews (Kp2.set (Kp2.set (Kp2.set (Kp2.set (hK.out.below B3.out) _ (.inr (.inl rfl))) _ (.inr (.inl rfl))) _ (.inr (.inl rfl))) _ (.inr (.inl rfl))) q
          case measure => have := HKN.out; simp [intOf]; omega
        · have KC := swapIf_no (i := i) (k := k) W3 hS.out d0 hii HKn.out (by omega) hsw
          replace KC := Hf.mk KC
          have HL := Hf.mk (hD.out.done bef_ordr hsw HM.out)
          clear hsw
          have r0c := hT.out.r0.cell
          have r1c := hT.out.r1.cell
          have x0c := hT.out.x0.cell
          have x1c := hT.out.x1.cell
          have y0c := hT.out.r0.free
          have y1c := hT.out.r1.free
          go_wp2_with (go_at_call 91; refine (KC.out).mono ?_; rintro e w' ⟨rfl, b3⟩; have B3 := Hf.mk b3; clear b3; have r0 := Below.keep B3.out r0c; have r1 := Below.keep B3.out r1c; have x0 := Below.keep B3.out x0c; have x1 := Below.keep B3.out x1c; have y0 := (At.keep B3.out r0c y0c).free; have y1 := (At.keep B3.out r1c y1c).free)
          have hbne : w.heap.size ≠ hb := Ne.symm (Nat.ne_of_lt hlb)
          have hgne : g ≠ w.heap.size := Nat.ne_of_lt hlg
          (try simp only [Exit.inBlock, Exit.then])
          refine bodyPost_ret (v := st2 (G 0).1 (G 0).2) (by simp [results, Try.results75, go_sem, r0, r1]) rfl ⟨G', rfl, ?_, ?_, HL.out, HG0.out () _ hP.out, ?_⟩
          · exact rown_other (rown_other (rown_below hS.out B3.out) hgne _) hgne _
          · exact (((At.keep B3.out hC.out.cell hC.out.free).ot0 (.inl (Ne.symm hbne)) _).ot0 (.inl (Ne.symm hbne)) _)
          · exact Kp2.set (Kp2.set (hK.out.below B3.out) _ (.inr (.inr (Nat.le_refl _)))) _ (.inr (.inr (Nat.le_refl _)))
    · have HL := Hf.mk (hD.out.leaf (by have := HKN.out; omega))
      have r0 := (hT.out).r0.cell
      have r1 := (hT.out).r1.cell
      have x0 := (hT.out).x0.cell
      have x1 := (hT.out).x1.cell
      have y0 := (hT.out).r0.free
      have y1 := (hT.out).r1.free
      go_wp2
      have hbne : w.heap.size ≠ hb := Ne.symm (Nat.ne_of_lt hlb)
      have hgne : g ≠ w.heap.size := Nat.ne_of_lt hlg
      (try simp only [Exit.inBlock, Exit.then])
      refine bodyPost_ret (v := st2 (G 0).1 (G 0).2) (by simp [results, Try.results75, go_sem, r0, r1]) rfl ⟨G', rfl, ?_, ?_, HL.out, HG0.out () _ hP.out, ?_⟩
      · exact rown_other (rown_other hS.out hgne _) hgne _
      · exact ((hC.out.ot0 (.inl (Ne.symm hbne)) _).ot0 (.inl (Ne.symm hbne)) _)
      · exact Kp2.set (Kp2.set hK.out _ (.inr (.inr (Nat.le_refl _)))) _ (.inr (.inr (Nat.le_refl _)))
end Go.Proofs.Yteclmjknmdlopaa
