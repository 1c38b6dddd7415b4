/-
  Marks in lists of rises; the exact law of ShareMiss. No premise beyond those named.
-/
import Derived.Test.YtconlpgifkknmabRsh
namespace Go.Proofs.Ytconlpgifkknmab
open Go Go.RowKit
set_option maxRecDepth 100000

def seqI (k : Int) (m : Nat) : List Int := (List.range m).map fun (j : Nat) => k + (j : Int)
theorem seqI_len (k : Int) (m : Nat) : (seqI k m).length = m := by simp [seqI]
theorem seqI_at {k : Int} {m j : Nat} (h : j < m) : (seqI k m).getD j 0 = k + (j : Int) := by simp [seqI, List.getD, h]
theorem gb_refl (w : World) (g : Option Nat) : w.grownBy w g := ⟨rfl, rfl, rfl, Nat.le_refl _, fun _ _ _ => rfl⟩
theorem gb_trans {w w1 w2 : World} {g : Option Nat} (h : w.grownBy w1 g) (k : w1.grownBy w2 g) : w.grownBy w2 g :=
  ⟨k.os.trans h.os, k.tape.trans h.tape, k.output.trans h.output, Nat.le_trans h.size k.size, fun i hi hg => (k.block i (Nat.lt_of_lt_of_le hi h.size) hg).trans (h.block i hi hg)⟩
theorem irow_gb {w w' : World} {b g : Nat} {xs : List Int} (h : IRow w (some ⟨b, 0, none⟩) xs) (hg : w.grownBy w' (some g)) (hne : b ≠ g) : IRow w' (some ⟨b, 0, none⟩) xs := by
  intro i hi
  obtain ⟨p, hp, hc⟩ := h i hi
  refine ⟨p, hp, ?_⟩
  obtain rfl := Option.some.inj hp
  rw [World.cell?_of_block (w := w) (hg.block _ (block_lt_of_cell hc) (by rw [addr_add]; simp; exact hne))]
  exact hc
theorem own_gb {w w' : World} {base : Nat} {e : TypeId} {size b n cap g : Nat} {xs : List Value} (h : w.ownsRow base e size (.slice (some ⟨b, 0, none⟩) n cap) n xs) (hg : w.grownBy w' (some g)) (hne : b ≠ g) : w'.ownsRow base e size (.slice (some ⟨b, 0, none⟩) n cap) n xs :=
  h.kept hg (.inr (by simp [Value.ownBlock]; exact hne))
theorem below_gb {B : Nat} {w w1 w' : World} {g : Nat} (h : Below B w w1) (hg : w1.grownBy w' (some g)) (hB : B ≤ w1.heap.size) (hb : B ≤ g) : Below B w w' := h.grown hg hB (fun k hk => by cases hk; exact hb)
set_option maxHeartbeats 4000000 in
theorem markRS_any {g n cap base : Nat} {cur : List Value} {k : Int} (w : World) (ho : w.ownsRow base 52 4 (.slice (some ⟨g, 0, none⟩) n cap) n cur) (hl : n ≤ 1048576) (hk0 : 0 ≤ k) (hk1 : k ≤ 1048576) : Calls Try.prog 18 #[.slice (some ⟨g, 0, none⟩) n cap, .int .i64 k] w (fun e w' => e = .returned (.int .i64 (k + 4 * (n : Int))) ∧ IRow w' (some ⟨g, 0, none⟩) (seqI k (4 * n)) ∧ w.grownBy w' (some g)) := by
  have HO := Hf.mk ho
  clear ho
  go_enter Try.func18, Try.ntmps18
  go_wp2
  go_loopw [5, 1] (fun i kk wr => ∃ (m : Nat) (cu : List Value), m ≤ n ∧ i = .int .i64 m ∧ kk = .int .i64 (k + 4 * (m : Int)) ∧ Hf (wr.ownsRow base 52 4 (.slice (some ⟨g, 0, none⟩) n cap) n cu) ∧ Hf (∀ j, j < 4 * m → cu[j]? = some (.int .i64 (k + (j : Int)))) ∧ Hf (w.grownBy wr (some g))) (fun i _ _ => n - (intOf i).toNat)
  case atStart => exact ⟨0, _, by omega, rfl, i_ext2 (by omega), HO, ⟨fun j hj => absurd hj (Nat.not_lt_zero j)⟩, ⟨gb_refl _ _⟩⟩
  case round =>
    obtain ⟨m, cu, hm, rfl, rfl, hown, hcur, hgb⟩ := hrel
    by_cases hlt : m < n
    · have hlen : cu.length = n * 4 := hown.out.1
      obtain ⟨old0, hold0⟩ : ∃ old, cu[m * 4]? = some old := ⟨_, List.getElem?_eq_getElem (by omega)⟩
      obtain ⟨old1, hold1⟩ : ∃ old, cu[m * 4 + 1]? = some old := ⟨_, List.getElem?_eq_getElem (by omega)⟩
      obtain ⟨old2, hold2⟩ : ∃ old, cu[m * 4 + 2]? = some old := ⟨_, List.getElem?_eq_getElem (by omega)⟩
      obtain ⟨old3, hold3⟩ : ∃ old, cu[m * 4 + 3]? = some old := ⟨_, List.getElem?_eq_getElem (by omega)⟩
      have d0 : wr.cell? ⟨g, m * 4, none⟩ = some old0 := (hown.out.cellAt (m * 4) (by omega)).trans hold0
      have d1 : wr.cell? ⟨g, m * 4 + 1, none⟩ = some old1 := (hown.out.cellAt (m * 4 + 1) (by omega)).trans hold1
      have d2 : wr.cell? ⟨g, m * 4 + 2, none⟩ = some old2 := (hown.out.cellAt (m * 4 + 2) (by omega)).trans hold2
      have d3 : wr.cell? ⟨g, m * 4 + 3, none⟩ = some old3 := (hown.out.cellAt (m * 4 + 3) (by omega)).trans hold3
      have z0 := hown.out.frozenAt (m * 4)
      have z1 := hown.out.frozenAt (m * 4 + 1)
      have z2 := hown.out.frozenAt (m * 4 + 2)
      have z3 := hown.out.frozenAt (m * 4 + 3)
      have lw := block_lt_of_cell d0
      simp at lw
      clear hold0 hold1 hold2 hold3
      go_wp2
      go_roundw
      case rel =>
        have hst := hown.out.stored (m * 4) (.int .i64 (k + 4 * (m : Int)))
        have hst2 := hst.1.stored (m * 4 + 1) (.int .i64 (k + 4 * (m : Int) + 1))
        have hst3 := hst2.1.stored (m * 4 + 2) (.int .i64 (k + 4 * (m : Int) + 1 + 1))
        have hst4 := hst3.1.stored (m * 4 + 3) (.int .i64 (k + 4 * (m : Int) + 1 + 1 + 1))
        refine ⟨m + 1, _, by omega, i_ext2 (by omega), i_ext2 (by omega), ⟨hst4.1⟩, ⟨?_⟩, ⟨gb_trans (gb_trans (gb_trans (gb_trans hgb.out hst.2) hst2.2) hst3.2) hst4.2⟩⟩
        intro j hj
        by_cases he : j = m * 4 + 3
        · subst he; rw [List.getElem?_set_self (by simp; omega)]; exact congrArg some (i_ext2 (by omega))
        · rw [List.getElem?_set_ne (by omega)]
          by_cases he : j = m * 4 + 2
          · subst he; rw [List.getElem?_set_self (by simp; omega)]; exact congrArg some (i_ext2 (by omega))
          · rw [List.getElem?_set_ne (by omega)]
            by_cases he : j = m * 4 + 1
            · subst he; rw [List.getElem?_set_self (by simp; omega)]; exact congrArg some (i_ext2 (by omega))
            · rw [List.getElem?_set_ne (by omega)]
              by_cases he : j = m * 4
              · subst he; rw [List.getElem?_set_self (by omega)]; exact congrArg some (i_ext2 (by omega))
              · rw [List.getElem?_set_ne (by omega)]; exact hcur.out j (by omega)
      case measure => simp [intOf]; omega
    · obtain rfl : m = n := by omega
      go_wp2
      go_ret
      have hlen : cu.length = 4 * m := by have := hown.out.1; omega
      have hc : cu = ils (seqI k (4 * m)) := ils_of (by rw [hlen, seqI_len]) (fun j hj => by rw [seqI_len] at hj; rw [seqI_at hj]; exact hcur.out j hj)
      rw [hc] at hown
      exact ⟨rfl, irow_own (by rw [seqI_len]) hown.out, hgb.out⟩
theorem markRS_nil {k : Int} (w : World) : Calls Try.prog 18 #[.slice none 0 0, .int .i64 k] w (RI .i64 k w) := by
  go_enter Try.func18, Try.ntmps18
  go_wp2
  go_loopw [5, 1] (fun i kk wr => i = .int .i64 0 ∧ kk = .int .i64 k ∧ Drew w wr) (fun _ _ _ => 0)
  case atStart => exact ⟨rfl, rfl, (by repeat (first | exact Drew.refl _ | refine Drew.more ?_))⟩
  case round =>
    obtain ⟨rfl, rfl, q, rfl⟩ := hrel
    go_wp2
    go_ret
    exact RI.any rfl (by repeat (first | exact Drew.refl _ | refine Drew.more ?_))
theorem heldRS_nil {k : Int} (w : World) : Calls Try.prog 19 #[.slice none 0 0, .int .i64 k] w (RI .i64 k w) := by
  go_enter Try.func19, Try.ntmps19
  go_wp2
  go_loopw [5, 1] (fun i kk wr => i = .int .i64 0 ∧ kk = .int .i64 k ∧ Drew w wr) (fun _ _ _ => 0)
  case atStart => exact ⟨rfl, rfl, (by repeat (first | exact Drew.refl _ | refine Drew.more ?_))⟩
  case round =>
    obtain ⟨rfl, rfl, q, rfl⟩ := hrel
    go_wp2
    go_ret
    exact RI.any rfl (by repeat (first | exact Drew.refl _ | refine Drew.more ?_))
set_option maxHeartbeats 4000000 in
theorem heldRS_any {g n cap : Nat} {k : Int} (w : World) (hr : IRow w (some ⟨g, 0, none⟩) (seqI k (4 * n))) (hl : n ≤ 1048576) (hk0 : 0 ≤ k) (hk1 : k ≤ 1048576) : Calls Try.prog 19 #[.slice (some ⟨g, 0, none⟩) n cap, .int .i64 k] w (RI .i64 (k + 4 * (n : Int)) w) := by
  have HR := Hf.mk hr
  clear hr
  go_enter Try.func19, Try.ntmps19
  go_wp2
  go_loopw [5, 1] (fun i kk wr => ∃ m : Nat, m ≤ n ∧ i = .int .i64 m ∧ kk = .int .i64 (k + 4 * (m : Int)) ∧ Drew w wr) (fun i _ _ => n - (intOf i).toNat)
  case atStart => exact ⟨0, by omega, rfl, i_ext2 (by omega), (by repeat (first | exact Drew.refl _ | refine Drew.more ?_))⟩
  case round =>
    obtain ⟨m, hm, rfl, rfl, q, rfl⟩ := hrel
    by_cases hlt : m < n
    · obtain ⟨c0, c1, c2, c3⟩ := HR.out.fourAt (seqI_len _ _) hlt
      rw [show fR (seqI k (4 * n)) m = k + 4 * (m : Int) by unfold fR; rw [seqI_at (by omega)]; omega] at c0
      rw [show tR (seqI k (4 * n)) m = k + 4 * (m : Int) + 1 by unfold tR; rw [seqI_at (by omega)]; omega] at c1
      rw [show sR (seqI k (4 * n)) m = k + 4 * (m : Int) + 1 + 1 by unfold sR; rw [seqI_at (by omega)]; omega] at c2
      rw [show lR (seqI k (4 * n)) m = k + 4 * (m : Int) + 1 + 1 + 1 by unfold lR; rw [seqI_at (by omega)]; omega] at c3
      go_wp2
      go_roundw
      case rel => exact ⟨m + 1, by omega, i_ext2 (by omega), i_ext2 (by omega), (by repeat (first | exact Drew.refl _ | refine Drew.more ?_))⟩
      case measure => simp [intOf]; omega
    · obtain rfl : m = n := by omega
      go_wp2
      go_ret
      exact RI.any rfl (by repeat (first | exact Drew.refl _ | refine Drew.more ?_))
theorem eqRS_nil (w : World) : Calls Try.prog 13 #[.slice none 0 0, .slice none 0 0] w (RB true w) := by
  go_enter Try.func13, Try.ntmps13
  go_wp2
  go_loopw [5] (fun i wr => i = .int .i64 0 ∧ Drew w wr) (fun _ _ => 0)
  case atStart => exact ⟨rfl, (by repeat (first | exact Drew.refl _ | refine Drew.more ?_))⟩
  case round =>
    obtain ⟨rfl, q, rfl⟩ := hrel
    go_wp2
    go_ret
    exact RB.any rfl (by repeat (first | exact Drew.refl _ | refine Drew.more ?_))
theorem own_dr {w : World} {base : Nat} {e : TypeId} {size : Nat} {v : Value} {n : Nat} {xs : List Value} (h : w.ownsRow base e size v n xs) (q : Nat) : (w.drewN q).ownsRow base e size v n xs := h
theorem row_of {w : World} {base g n cap : Nat} {xs : List Int} {e : TypeId} (h : w.ownsRow base e 4 (.slice (some ⟨g, 0, none⟩) n cap) n (ils xs)) (hn : 4 * n = xs.length) : IRow w (some ⟨g, 0, none⟩) xs := irow_own hn h
theorem own_lt {w : World} {base g n cap size : Nat} {xs : List Value} {e : TypeId} (h : w.ownsRow base e size (.slice (some ⟨g, 0, none⟩) n cap) n xs) : base ≤ g ∧ g < w.heap.size := h.lt g rfl
set_option maxHeartbeats 2000000 in
theorem law_ShareMiss_no {a : Option Addr} {cap n : Nat} {xs : List Int} (w : World) (hr : IRow w a xs) (hn : xs.length = 4 * n) (hl : n ≤ 1048576) (hb : rinB xs n = false) : Calls Try.prog 5 #[.slice a n cap] w (RS (.bool true) w) := by
  have HR := Hf.mk hr
  have HN := Hf.mk hn
  clear hr hn
  have B0 := Hb.mk (Below.refl w.heap.size w)
  have KZ := Hf.mk (szRS_yes (a := a) (cap := cap) hl)
  have H4 := Hf.mk HN.out.symm
  have HB := Hf.mk hb
  clear hb
  go_enter Try.func5, Try.ntmps5
  have tk_a : True := trivial; have tk_b : True := trivial; have tk_c : True := trivial; have tk_d : True := trivial; have tk_i : True := trivial; have tk_j : True := trivial; have tk_m : True := trivial; have tk_e : True := trivial
  go_wp2_with (first
    | (go_at_call 9; refine (KZ.out _).mono ?_; rintro e w' ⟨rfl, n0, rfl⟩)
    | (go_at_call 11; clear tk_a; refine (toRS_any _ (HR.out.drew _) HN.out hl).mono ?_; rintro e w1 ⟨rfl, o1, b1⟩; have O1 := Hf.mk (irow_own H4.out o1); have B1 := Hb.mk (Below.on (B := w.heap.size) (a := w) (by repeat (first | exact B0.out | refine Below.drews ?_ | refine Below.drew ?_ | refine Below.alloc ?_ (by have hq_ := B0.out.size; first | omega | (simp <;> omega)) _ | refine Below.setCell ?_ (by have hq_ := B0.out.size; first | omega | (simp <;> omega)) _)) b1 (by have hq_ := B0.out.size; first | omega | (simp <;> omega))); clear o1 b1)
    | (go_at_call 16; refine (sShareMiss_no _ O1.out HN.out hl HB.out).mono ?_; rintro e w2 ⟨rfl, n2, rfl⟩)
    | (go_at_call 11; clear tk_b; refine (toRS_any _ ((HR.out.below B1.out).drew _) HN.out hl).mono ?_; rintro e w3 ⟨rfl, o3, b3⟩; have O3 := Hf.mk o3; have B3 := Hb.mk (Below.on (B := w.heap.size) (a := w) (by repeat (first | exact B1.out | refine Below.drews ?_ | refine Below.drew ?_ | refine Below.alloc ?_ (by have hq_ := B1.out.size; first | omega | (simp <;> omega)) _ | refine Below.setCell ?_ (by have hq_ := B1.out.size; first | omega | (simp <;> omega)) _)) b3 (by have hq_ := B1.out.size; first | omega | (simp <;> omega))); have S1 := B1.out.size; clear o3 b3)
    | (go_at_call 17; clear tk_i; refine (iShareMiss_no _ (irow_own H4.out O3.out) HN.out hl HB.out).mono ?_; rintro e w4 ⟨rfl, b4⟩; have O4 := Hf.mk (iown_below O3.out b4); have B4 := Hb.mk (Below.on (B := w.heap.size) (a := w) (by repeat (first | exact B3.out | refine Below.drews ?_ | refine Below.drew ?_ | refine Below.alloc ?_ (by have hq_ := B3.out.size; first | omega | (simp <;> omega)) _ | refine Below.setCell ?_ (by have hq_ := B3.out.size; first | omega | (simp <;> omega)) _)) b4 (by have hq_ := B3.out.size; first | omega | (simp <;> omega))); clear b4)
    | (go_at_call 11; clear tk_c; refine (toRS_any _ ((HR.out.below B4.out).drew _) HN.out hl).mono ?_; rintro e w5 ⟨rfl, o5, b5⟩; have O5 := Hf.mk (irow_own H4.out o5); have O6 := Hf.mk (iown_below (own_dr O4.out _) b5); have B5 := Hb.mk (Below.on (B := w.heap.size) (a := w) (by repeat (first | exact B4.out | refine Below.drews ?_ | refine Below.drew ?_ | refine Below.alloc ?_ (by have hq_ := B4.out.size; first | omega | (simp <;> omega)) _ | refine Below.setCell ?_ (by have hq_ := B4.out.size; first | omega | (simp <;> omega)) _)) b5 (by have hq_ := B4.out.size; first | omega | (simp <;> omega))); clear o5 b5)
    | (go_at_call 13; have _tk := O6; clear tk_e; refine (eqRS_any _ (irow_own H4.out O6.out) O5.out HN.out hl).mono ?_; rintro e w6 ⟨rfl, b6⟩; have O7 := Hf.mk (iown_below O6.out b6); have B6 := Hb.mk (Below.on (B := w.heap.size) (a := w) (by repeat (first | exact B5.out | refine Below.drews ?_ | refine Below.drew ?_ | refine Below.alloc ?_ (by have hq_ := B5.out.size; first | omega | (simp <;> omega)) _ | refine Below.setCell ?_ (by have hq_ := B5.out.size; first | omega | (simp <;> omega)) _)) b6 (by have hq_ := B5.out.size; first | omega | (simp <;> omega))); clear b6)
    | (go_at_call 13; (with_reducible refine (eqRS_nil _).mono ?_); rintro e w' ⟨rfl, ne, rfl⟩)
    | (go_at_call 18; clear tk_m; refine (markRS_any _ O7.out hl (by omega) (by omega)).mono ?_; rintro e w7 ⟨rfl, _, g7⟩; have S6 := B6.out.size; have B7 := Hb.mk (below_gb B6.out g7 S6 (by simp; omega)); clear g7)
    | (go_at_call 18; refine (markRS_nil _).mono ?_; rintro e w' ⟨rfl, nm, rfl⟩)
    | (go_at_call 19; refine (heldRS_nil _).mono ?_; rintro e w' ⟨rfl, nh, rfl⟩)
    | (go_at_call 11; clear tk_d; refine (toRS_any _ ((HR.out.below B7.out).drew _) HN.out hl).mono ?_; rintro e w8 ⟨rfl, o8, b8⟩; have O8 := Hf.mk (irow_own H4.out o8); have B8 := Hb.mk (Below.on (B := w.heap.size) (a := w) (by repeat (first | exact B7.out | refine Below.drews ?_ | refine Below.drew ?_ | refine Below.alloc ?_ (by have hq_ := B7.out.size; first | omega | (simp <;> omega)) _ | refine Below.setCell ?_ (by have hq_ := B7.out.size; first | omega | (simp <;> omega)) _)) b8 (by have hq_ := B7.out.size; first | omega | (simp <;> omega))); clear o8 b8)
    | (go_at_call 17; clear tk_j; refine (iShareMiss_no _ O8.out HN.out hl HB.out).mono ?_; rintro e w9 ⟨rfl, b9⟩; have B9 := Hb.mk (Below.on (B := w.heap.size) (a := w) (by repeat (first | exact B8.out | refine Below.drews ?_ | refine Below.drew ?_ | refine Below.alloc ?_ (by have hq_ := B8.out.size; first | omega | (simp <;> omega)) _ | refine Below.setCell ?_ (by have hq_ := B8.out.size; first | omega | (simp <;> omega)) _)) b9 (by have hq_ := B8.out.size; first | omega | (simp <;> omega))); clear b9))
  go_ret
  exact ⟨rfl, (by repeat (first | exact Below.refl _ _ | exact B9.out | refine Below.drews ?_ | refine Below.drew ?_ | refine Below.alloc ?_ (by first | omega | (simp <;> omega)) _ | refine Below.setCell ?_ (by first | omega | (simp <;> omega)) _))⟩
set_option maxHeartbeats 8000000 in
theorem law_ShareMiss_yes {a : Option Addr} {cap n : Nat} {xs : List Int} (w : World) (hr : IRow w a xs) (hn : xs.length = 4 * n) (hl : n ≤ 1048576) (hb : rinB xs n = true) : Calls Try.prog 5 #[.slice a n cap] w (RS (.bool true) w) := by
  have HR := Hf.mk hr
  have HN := Hf.mk hn
  clear hr hn
  have B0 := Hb.mk (Below.refl w.heap.size w)
  have KZ := Hf.mk (szRS_yes (a := a) (cap := cap) hl)
  have H4 := Hf.mk HN.out.symm
  have HY := Hf.mk (fun g k w hr => sShareMiss_yes (g := g) (k := k) w hr HN.out hl hb)
  have HI := Hf.mk (fun g k w hr => iShareMiss_yes (g := g) (k := k) w hr HN.out hl hb)
  have HM := Hf.mk (mxL_len xs n n)
  have H5 := Hf.mk HM.out.symm
  generalize mxL xs n n = ms at *
  clear hb
  go_enter Try.func5, Try.ntmps5
  have tk_a : True := trivial; have tk_b : True := trivial; have tk_c : True := trivial; have tk_d : True := trivial; have tk_i : True := trivial; have tk_j : True := trivial; have tk_m : True := trivial; have tk_n : True := trivial; have tk_e1 : True := trivial; have tk_e2 : True := trivial; have tk_e3 : True := trivial; have tk_e4 : True := trivial; have tk_h1 : True := trivial; have tk_h2 : True := trivial
  go_wp2_with (first
    | (go_at_call 9; refine (KZ.out _).mono ?_; rintro e w' ⟨rfl, n0, rfl⟩)
    | (go_at_call 11; clear tk_a; refine (toRS_any _ (HR.out.drew _) HN.out hl).mono ?_; rintro e w1 ⟨rfl, o1, b1⟩; have O1 := Hf.mk (irow_own H4.out o1); have B1 := Hb.mk (Below.on (B := w.heap.size) (a := w) (by repeat (first | exact B0.out | refine Below.drews ?_ | refine Below.drew ?_ | refine Below.alloc ?_ (by have hq_ := B0.out.size; first | omega | (simp <;> omega)) _ | refine Below.setCell ?_ (by have hq_ := B0.out.size; first | omega | (simp <;> omega)) _)) b1 (by have hq_ := B0.out.size; first | omega | (simp <;> omega))); clear o1 b1)
    | (go_at_call 16; refine (HY.out _ _ _ O1.out).mono ?_; rintro e w2 ⟨gw, cw, rfl, lw1, lw2, ow, b2⟩; have OW := Hf.mk (row_of ow H5.out); have B2 := Hb.mk (Below.on (B := w.heap.size) (a := w) (by repeat (first | exact B1.out | refine Below.drews ?_ | refine Below.drew ?_ | refine Below.alloc ?_ (by have hq_ := B1.out.size; first | omega | (simp <;> omega)) _ | refine Below.setCell ?_ (by have hq_ := B1.out.size; first | omega | (simp <;> omega)) _)) b2 (by have hq_ := B1.out.size; first | omega | (simp <;> omega))); clear ow b2)
    | (go_at_call 11; clear tk_b; refine (toRS_any _ (HR.out.below B2.out) HN.out hl).mono ?_; rintro e w3 ⟨rfl, o3, b3⟩; have O3 := Hf.mk o3; have W3 := Hf.mk (OW.out.below b3); have B3 := Hb.mk (Below.on (B := w.heap.size) (a := w) (by repeat (first | exact B2.out | refine Below.drews ?_ | refine Below.drew ?_ | refine Below.alloc ?_ (by have hq_ := B2.out.size; first | omega | (simp <;> omega)) _ | refine Below.setCell ?_ (by have hq_ := B2.out.size; first | omega | (simp <;> omega)) _)) b3 (by have hq_ := B2.out.size; first | omega | (simp <;> omega))); have S2 := B2.out.size; have S3 := (own_lt o3).2; clear o3 b3)
    | (go_at_call 17; clear tk_i; refine (HI.out _ _ _ (irow_own H4.out O3.out)).mono ?_; rintro e w4 ⟨gg, cg, rfl, lg1, lg2, og, b4⟩; have O4 := Hf.mk (iown_below O3.out b4); have W4 := Hf.mk (W3.out.below b4); have G4 := Hf.mk og; have B4 := Hb.mk (Below.on (B := w.heap.size) (a := w) (by repeat (first | exact B3.out | refine Below.drews ?_ | refine Below.drew ?_ | refine Below.alloc ?_ (by have hq_ := B3.out.size; first | omega | (simp <;> omega)) _ | refine Below.setCell ?_ (by have hq_ := B3.out.size; first | omega | (simp <;> omega)) _)) b4 (by have hq_ := B3.out.size; first | omega | (simp <;> omega))); clear b4 og)
    | (go_at_call 13; clear tk_e1; refine (eqRS_any _ (row_of G4.out H5.out) W4.out HM.out hl).mono ?_; rintro e w5 ⟨rfl, b5⟩; have O5 := Hf.mk (iown_below O4.out b5); have W5 := Hf.mk (W4.out.below b5); have G5 := Hf.mk (iown_below G4.out b5); have B5 := Hb.mk (Below.on (B := w.heap.size) (a := w) (by repeat (first | exact B4.out | refine Below.drews ?_ | refine Below.drew ?_ | refine Below.alloc ?_ (by have hq_ := B4.out.size; first | omega | (simp <;> omega)) _ | refine Below.setCell ?_ (by have hq_ := B4.out.size; first | omega | (simp <;> omega)) _)) b5 (by have hq_ := B4.out.size; first | omega | (simp <;> omega))); clear b5)
    | (go_at_call 11; clear tk_c; refine (toRS_any _ (HR.out.below B5.out) HN.out hl).mono ?_; rintro e w6 ⟨rfl, o6, b6⟩; have R6 := Hf.mk (irow_own H4.out o6); have O6 := Hf.mk (iown_below O5.out b6); have W6 := Hf.mk (W5.out.below b6); have G6 := Hf.mk (iown_below G5.out b6); have B6 := Hb.mk (Below.on (B := w.heap.size) (a := w) (by repeat (first | exact B5.out | refine Below.drews ?_ | refine Below.drew ?_ | refine Below.alloc ?_ (by have hq_ := B5.out.size; first | omega | (simp <;> omega)) _ | refine Below.setCell ?_ (by have hq_ := B5.out.size; first | omega | (simp <;> omega)) _)) b6 (by have hq_ := B5.out.size; first | omega | (simp <;> omega))); clear o6 b6)
    | (go_at_call 13; clear tk_e2; refine (eqRS_any _ (irow_own H4.out O6.out) R6.out HN.out hl).mono ?_; rintro e w7 ⟨rfl, b7⟩; have O7 := Hf.mk (iown_below O6.out b7); have W7 := Hf.mk (W6.out.below b7); have G7 := Hf.mk (iown_below G6.out b7); have B7 := Hb.mk (Below.on (B := w.heap.size) (a := w) (by repeat (first | exact B6.out | refine Below.drews ?_ | refine Below.drew ?_ | refine Below.alloc ?_ (by have hq_ := B6.out.size; first | omega | (simp <;> omega)) _ | refine Below.setCell ?_ (by have hq_ := B6.out.size; first | omega | (simp <;> omega)) _)) b7 (by have hq_ := B6.out.size; first | omega | (simp <;> omega))); clear b7)
    | (go_at_call 18; clear tk_m; refine (markRS_any _ O7.out hl (by omega) (by omega)).mono ?_; rintro e w8 ⟨rfl, _, g8⟩; have W8 := Hf.mk (irow_gb W7.out g8 (by omega)); have G8 := Hf.mk (own_gb G7.out g8 (by omega)); have B8 := Hb.mk (below_gb B7.out g8 B7.out.size (by omega)); clear g8)
    | (go_at_call 13; clear tk_e3; refine (eqRS_any _ (row_of G8.out H5.out) W8.out HM.out hl).mono ?_; rintro e w9 ⟨rfl, b9⟩; have W9 := Hf.mk (W8.out.below b9); have G9 := Hf.mk (iown_below G8.out b9); have B9 := Hb.mk (Below.on (B := w.heap.size) (a := w) (by repeat (first | exact B8.out | refine Below.drews ?_ | refine Below.drew ?_ | refine Below.alloc ?_ (by have hq_ := B8.out.size; first | omega | (simp <;> omega)) _ | refine Below.setCell ?_ (by have hq_ := B8.out.size; first | omega | (simp <;> omega)) _)) b9 (by have hq_ := B8.out.size; first | omega | (simp <;> omega))); clear b9)
    | (go_at_call 18; clear tk_n; refine (markRS_any _ G9.out hl (by omega) (by omega)).mono ?_; rintro e w10 ⟨rfl, q10, g10⟩; have W10 := Hf.mk (irow_gb W9.out g10 (by omega)); have Q10 := Hf.mk q10; have B10 := Hb.mk (below_gb B9.out g10 B9.out.size (by omega)); clear g10 q10)
    | (go_at_call 19; clear tk_h1; refine (heldRS_any _ Q10.out hl (by omega) (by omega)).mono ?_; rintro e w' ⟨rfl, nh, rfl⟩)
    | (go_at_call 11; clear tk_d; refine (toRS_any _ ((HR.out.below B10.out).drew _) HN.out hl).mono ?_; rintro e w11 ⟨rfl, o11, b11⟩; have R11 := Hf.mk (irow_own H4.out o11); have W11 := Hf.mk ((W10.out.drew _).below b11); have Q11 := Hf.mk ((Q10.out.drew _).below b11); have B11 := Hb.mk (Below.on (B := w.heap.size) (a := w) (by repeat (first | exact B10.out | refine Below.drews ?_ | refine Below.drew ?_ | refine Below.alloc ?_ (by have hq_ := B10.out.size; first | omega | (simp <;> omega)) _ | refine Below.setCell ?_ (by have hq_ := B10.out.size; first | omega | (simp <;> omega)) _)) b11 (by have hq_ := B10.out.size; first | omega | (simp <;> omega))); clear o11 b11)
    | (go_at_call 17; clear tk_j; refine (HI.out _ _ _ R11.out).mono ?_; rintro e w12 ⟨gh, ch, rfl, lh1, lh2, oh, b12⟩; have W12 := Hf.mk (W11.out.below b12); have Q12 := Hf.mk (Q11.out.below b12); have H12 := Hf.mk (row_of oh H5.out); have B12 := Hb.mk (Below.on (B := w.heap.size) (a := w) (by repeat (first | exact B11.out | refine Below.drews ?_ | refine Below.drew ?_ | refine Below.alloc ?_ (by have hq_ := B11.out.size; first | omega | (simp <;> omega)) _ | refine Below.setCell ?_ (by have hq_ := B11.out.size; first | omega | (simp <;> omega)) _)) b12 (by have hq_ := B11.out.size; first | omega | (simp <;> omega))); clear b12 oh)
    | (go_at_call 13; clear tk_e4; refine (eqRS_any _ H12.out W12.out HM.out hl).mono ?_; rintro e w13 ⟨rfl, b13⟩; have Q13 := Hf.mk (Q12.out.below b13); have B13 := Hb.mk (Below.on (B := w.heap.size) (a := w) (by repeat (first | exact B12.out | refine Below.drews ?_ | refine Below.drew ?_ | refine Below.alloc ?_ (by have hq_ := B12.out.size; first | omega | (simp <;> omega)) _ | refine Below.setCell ?_ (by have hq_ := B12.out.size; first | omega | (simp <;> omega)) _)) b13 (by have hq_ := B12.out.size; first | omega | (simp <;> omega))); clear b13)
    | (go_at_call 19; clear tk_h2; refine (heldRS_any _ Q13.out hl (by omega) (by omega)).mono ?_; rintro e w' ⟨rfl, nh2, rfl⟩))
  go_ret
  exact ⟨rfl, (by repeat (first | exact Below.refl _ _ | exact B13.out | refine Below.drews ?_ | refine Below.drew ?_ | refine Below.alloc ?_ (by first | omega | (simp <;> omega)) _ | refine Below.setCell ?_ (by first | omega | (simp <;> omega)) _))⟩
theorem law_ShareMiss {a : Option Addr} {cap n : Nat} {xs : List Int} (w : World) (hr : IRow w a xs) (hn : xs.length = 4 * n) (hm : n ≤ 9223372036854775807) : Calls Try.prog 5 #[.slice a n cap] w (RS (.bool true) w) := by
  by_cases hl : n ≤ 1048576
  · cases hb : rinB xs n
    · exact law_ShareMiss_no w hr hn hl hb
    · exact law_ShareMiss_yes w hr hn hl hb
  · have KZ := Hf.mk (szRS_no (a := a) (cap := cap) (n := n) (by omega) hm)
    clear hr hn
    go_enter Try.func5, Try.ntmps5
    go_wp2_with (first | (go_at_call 9; refine (KZ.out _).mono ?_; rintro e w' ⟨rfl, n0, rfl⟩))
    go_ret
    exact ⟨rfl, (by repeat (first | exact Below.refl _ _ | with_reducible assumption | refine Below.drews ?_ | refine Below.drew ?_ | refine Below.alloc ?_ (by simp <;> omega) _ | refine Below.setCell ?_ (by simp <;> omega) _))⟩
end Go.Proofs.Ytconlpgifkknmab
