/-
  Rows of places: what 'toPlaceS' copies, what 'eqPlaceS' compares, whether all are valid. No premise beyond those named.
-/
import Derived.Test.YtmioclcipdifpaaSum
import Derived.Test.YtmioclcipdifpaaWay
namespace Go.Proofs.Ytmioclcipdifpaa
open Go Go.RowKit
set_option maxRecDepth 100000

/-- The words of the north and of the east of place i of a row. -/
def nW (ys : List Nat) (i : Nat) : Nat := ys.getD (i * 2) 0
def eW (ys : List Nat) (i : Nat) : Nat := ys.getD (i * 2 + 1) 0
def nC (ys : List Nat) (i : Nat) : Nat := nrm .f32 (nW ys i)
def eC (ys : List Nat) (i : Nat) : Nat := nrm .f32 (eW ys i)
def vAt (ys : List Nat) (i : Nat) : Bool := validC (nC ys i) (eC ys i)
def allV (ys : List Nat) : Nat → Bool
  | 0 => true
  | m + 1 => allV ys m && vAt ys m
def arePl (ys : List Nat) (n : Nat) : Bool := decide (1 ≤ n ∧ n ≤ 64) && allV ys n
theorem allV_at {ys : List Nat} : ∀ {n : Nat}, allV ys n = true → ∀ i, i < n → vAt ys i = true := by
  intro n
  induction n with
  | zero => intro _ i hi; omega
  | succ n ih =>
    intro h i hi
    unfold allV at h
    rw [Bool.and_eq_true] at h
    by_cases he : i = n
    · rw [he]; exact h.2
    · exact ih h.1 i (by omega)
theorem allV_no {ys : List Nat} : ∀ {n i : Nat}, i < n → vAt ys i = false → allV ys n = false := by
  intro n
  induction n with
  | zero => intro i hi; omega
  | succ n ih =>
    intro i hi h
    unfold allV
    by_cases he : i = n
    · rw [← he, h, Bool.and_false]
    · rw [ih (by omega) h, Bool.false_and]
theorem add_next (p : Addr) (k : Nat) : p.add (k + 1) = ⟨(p.add k).block, (p.add k).off + 1, none⟩ := by
  unfold Addr.add
  rw [if_neg (by omega)]
  split
  · next h => rw [h]
  · simp; omega
theorem FRow.two {w : World} {p : Addr} {ys : List Nat} {n i : Nat} (h : FRow w (some p) ys) (hn : ys.length = 2 * n) (hi : i < n) : w.cell? (p.add (i * 2)) = some (.float .f32 (nW ys i)) ∧ w.cell? ⟨(p.add (i * 2)).block, (p.add (i * 2)).off + 1, none⟩ = some (.float .f32 (eW ys i)) := by
  obtain ⟨p1, h1, c1⟩ := h (i * 2) (by omega)
  obtain ⟨p2, h2, c2⟩ := h (i * 2 + 1) (by omega)
  obtain rfl := Option.some.inj h1
  obtain rfl := Option.some.inj h2
  rw [add_next] at c2
  exact ⟨c1, c2⟩
theorem FRow.twoAt {w : World} {g : Nat} {ys : List Nat} {n i : Nat} (h : FRow w (some ⟨g, 0, none⟩) ys) (hn : ys.length = 2 * n) (hi : i < n) : w.cell? ⟨g, i * 2, none⟩ = some (.float .f32 (nW ys i)) ∧ w.cell? ⟨g, i * 2 + 1, none⟩ = some (.float .f32 (eW ys i)) := by
  have := h.two hn hi
  rw [add_at] at this
  exact this
theorem FRow.some_of {w : World} {a : Option Addr} {ys : List Nat} (h : FRow w a ys) (hl : 0 < ys.length) : ∃ p, a = some p := by
  obtain ⟨p, hp, _⟩ := h 0 hl
  exact ⟨p, hp⟩
theorem wfAt {ys : List Nat} (hw : Wf ys) {j : Nat} (hj : j < ys.length) : (Lit.float .f32 (ys.getD j 0)).wf = true := by
  have e : ys.getD j 0 = ys[j]'hj := by simp [List.getD, hj]
  rw [e]
  exact hw _ (List.getElem_mem hj)
theorem flN {ys : List Nat} {n i : Nat} (hw : Wf ys) (hn : ys.length = 2 * n) (hi : i < n) : Fl .f32 (nC ys i) (nW ys i) := Fl.own (wfAt hw (by omega))
theorem flE {ys : List Nat} {n i : Nat} (hw : Wf ys) (hn : ys.length = 2 * n) (hi : i < n) : Fl .f32 (eC ys i) (eW ys i) := Fl.own (wfAt hw (by omega))
theorem owns_below {w w' : World} {base : Nat} {e : TypeId} {size : Nat} {v : Value} {n : Nat} {xs : List Value} (h : w.ownsRow base e size v n xs) (b : Below w.heap.size w w') : w'.ownsRow base e size v n xs := by
  refine h.kept (row := none) ⟨b.os, b.tape, b.output, b.size, fun k hk _ => b.block k hk⟩ ?_
  cases hv : v.ownBlock
  · exact .inl rfl
  · exact .inr (by simp)
theorem toPS_any {a : Option Addr} {n cap : Nat} {ys : List Nat} (w : World) (hr : FRow w a ys) (hn : ys.length = 2 * n) (hl : n ≤ 1048576) : Calls Try.prog 12 #[.slice a n cap] w (fun e w' => e = .returned (.slice (some ⟨w.heap.size, 0, none⟩) n n) ∧ FRow w' (some ⟨w.heap.size, 0, none⟩) ys ∧ Below w.heap.size w w') := by
  obtain ⟨i0, hi, hz0, hz1, hz2⟩ := info_parts (P := Try.prog) (e := 52) (z := pl 0 0) (size := 2) (bytes := 8) (by kernel_rfl)
  have HR := Hf.mk hr
  have HN := Hf.mk hn
  clear hr hn
  go_enter Try.func12, Try.ntmps12
  go_wp2_with (at_make; refine wpList_make_full _ rfl _ _ 28 rfl w.heap.size 52 i0 _ 2 Try.underlying28 hi hz0 hz1 .i64 .i64 _ _ n rfl rfl rfl rfl (by rw [hz2]; omega) (by unfold maxLen; omega) (Nat.le_refl _) ?_; intro w0 hown0 hgrow0)
  go_loopw [4] (fun i wr => ∃ (m : Nat) (cur : List Value), m ≤ n ∧ i = .int .i64 m ∧ Hf (wr.ownsRow w.heap.size 52 2 (.slice (some ⟨w.heap.size, 0, none⟩) n n) n cur) ∧ Hf (∀ j, j < 2 * m → cur[j]? = some (.float .f32 (ys.getD j 0))) ∧ Hf (Below w.heap.size w wr)) (fun i _ => n - (intOf i).toNat)
  case atStart => exact ⟨0, _, by omega, rfl, ⟨hown0⟩, ⟨fun j hj => absurd hj (Nat.not_lt_zero j)⟩, ⟨(Below.refl _ _).grown hgrow0 (Nat.le_refl _) (fun k h => by cases h)⟩⟩
  case round =>
    obtain ⟨m, cur, hm, rfl, hown, hcur, hbel⟩ := hrel
    by_cases hlt : m < n
    · obtain ⟨p, rfl⟩ := HR.out.some_of (by rw [HN.out]; omega)
      obtain ⟨c0, c1⟩ := (HR.out.below hbel.out).two HN.out hlt
      have hlen : cur.length = n * 2 := hown.out.1
      obtain ⟨old0, hold0⟩ : ∃ old, cur[m * 2]? = some old := ⟨_, List.getElem?_eq_getElem (by omega)⟩
      obtain ⟨old1, hold1⟩ : ∃ old, cur[m * 2 + 1]? = some old := ⟨_, List.getElem?_eq_getElem (by omega)⟩
      have d0 : wr.cell? ⟨w.heap.size, m * 2, none⟩ = some old0 := (hown.out.cellAt (m * 2) (by omega)).trans hold0
      have d1 : wr.cell? ⟨w.heap.size, m * 2 + 1, none⟩ = some old1 := (hown.out.cellAt (m * 2 + 1) (by omega)).trans hold1
      have z0 := hown.out.frozenAt (m * 2)
      have z1 := hown.out.frozenAt (m * 2 + 1)
      have lw := block_lt_of_cell d0
      simp at lw
      clear hold0 hold1
      go_wp2_with (first | (go_at_call 22; refine (toPlace_any _ _ _).mono ?_; rintro e w1 ⟨rfl, b1⟩; have B1 := Hb.mk b1; have e0 := Hb.mk (At.keep b1 d0 z0); have e1 := Hb.mk (At.keep b1 d1 z1); obtain ⟨e0c, e0z, e0l⟩ := e0.out; obtain ⟨e1c, e1z, e1l⟩ := e1.out; clear b1))
      go_roundw
      case rel =>
        have hst := (owns_below hown.out B1.out).stored (m * 2) (.float .f32 (nW ys m))
        have hst2 := hst.1.stored (m * 2 + 1) (.float .f32 (eW ys m))
        refine ⟨m + 1, _, by omega, i_ext2 (by omega), ⟨hst2.1⟩, ⟨?_⟩, ⟨Below.setCell (Below.setCell (Below.on hbel.out B1.out hbel.out.size) (Nat.le_refl _) _) (Nat.le_refl _) _⟩⟩
        intro j hj
        by_cases he : j = m * 2 + 1
        · subst he; rw [List.getElem?_set_self (by simp; omega)]; rfl
        · rw [List.getElem?_set_ne (by omega)]
          by_cases he : j = m * 2
          · subst he; rw [List.getElem?_set_self (by omega)]; rfl
          · rw [List.getElem?_set_ne (by omega)]; exact hcur.out j (by omega)
      case measure => simp [intOf]; omega
    · obtain rfl : m = n := by omega
      go_wp2
      go_ret
      have hlen : cur.length = 2 * m := by have := hown.out.1; omega
      refine ⟨rfl, ?_, hbel.out⟩
      have hc : cur = fls ys := fls_of (by rw [hlen, HN.out]) (fun j hj => hcur.out j (by rw [HN.out] at hj; omega))
      rw [hc] at hown
      intro i hi
      refine ⟨_, rfl, ?_⟩
      have := hown.out.cellAt i (by rw [HN.out] at hi; omega)
      rw [add_at, this]
      simp [fls, List.getElem?_map, List.getElem?_eq_getElem hi]
theorem l02IsAt_any {n e a b : Nat} {p o : Nat} (h1 : Fl .f32 n a) (h2 : Fl .f32 e b) (w : World) (c1 : w.cell? ⟨p, o, none⟩ = some (.float .f32 a)) (c2 : w.cell? ⟨p, o + 1, none⟩ = some (.float .f32 b)) : Calls Try.prog 39 #[.pointer (some ⟨p, o, none⟩)] w (RB (validC n e) w) := by
  cases g1 : fcmp .geq .f32 n 3196059648
  · have KV := Keep.mk (show validC n e = false by unfold validC isNorthC; rw [g1]; rfl)
    go_enter Try.func39, Try.ntmps39
    go_wp2_with (first | (refine wpList_fcmp rfl rfl rfl rfl rfl (by first | (with_reducible assumption) | (with_reducible exact Fl.ofInt _ _) | exact Fl.not (by decide +kernel) (by decide +kernel)) (by first | (with_reducible assumption) | (with_reducible exact Fl.ofInt _ _) | exact Fl.not (by decide +kernel) (by decide +kernel)) ?_; simp only [Act.put, List.setIfInBounds_toArray, List.set_cons_succ, List.set_cons_zero, g1]))
    go_ret
    rw [KV.out]
    exact RB.any rfl (by repeat (first | exact Drew.refl _ | refine Drew.more ?_))
  · cases g2 : fcmp .leq .f32 n 1048576000
    · have KV := Keep.mk (show validC n e = false by unfold validC isNorthC; rw [g1, g2]; rfl)
      go_enter Try.func39, Try.ntmps39
      go_wp2_with (first | (refine wpList_fcmp rfl rfl rfl rfl rfl (by first | (with_reducible assumption) | (with_reducible exact Fl.ofInt _ _) | exact Fl.not (by decide +kernel) (by decide +kernel)) (by first | (with_reducible assumption) | (with_reducible exact Fl.ofInt _ _) | exact Fl.not (by decide +kernel) (by decide +kernel)) ?_; simp only [Act.put, List.setIfInBounds_toArray, List.set_cons_succ, List.set_cons_zero, g1]) | (refine wpList_fcmp_g rfl rfl rfl rfl rfl (by first | (with_reducible assumption) | (with_reducible exact Fl.ofInt _ _) | exact Fl.not (by decide +kernel) (by decide +kernel)) (by first | (with_reducible assumption) | (with_reducible exact Fl.ofInt _ _) | exact Fl.not (by decide +kernel) (by decide +kernel)) ?_; simp only [Act.put, List.setIfInBounds_toArray, List.set_cons_succ, List.set_cons_zero, g2]))
      go_ret
      rw [KV.out]
      exact RB.any rfl (by repeat (first | exact Drew.refl _ | refine Drew.more ?_))
    · cases g3 : fcmp .geq .f32 e 3204448256
      · have KV := Keep.mk (show validC n e = false by unfold validC isNorthC isEastC; rw [g1, g2, g3]; rfl)
        go_enter Try.func39, Try.ntmps39
        go_wp2_with (first | (refine wpList_fcmp rfl rfl rfl rfl rfl (by first | (with_reducible assumption) | (with_reducible exact Fl.ofInt _ _) | exact Fl.not (by decide +kernel) (by decide +kernel)) (by first | (with_reducible assumption) | (with_reducible exact Fl.ofInt _ _) | exact Fl.not (by decide +kernel) (by decide +kernel)) ?_; simp only [Act.put, List.setIfInBounds_toArray, List.set_cons_succ, List.set_cons_zero, g1]) | (refine wpList_fcmp_g rfl rfl rfl rfl rfl (by first | (with_reducible assumption) | (with_reducible exact Fl.ofInt _ _) | exact Fl.not (by decide +kernel) (by decide +kernel)) (by first | (with_reducible assumption) | (with_reducible exact Fl.ofInt _ _) | exact Fl.not (by decide +kernel) (by decide +kernel)) ?_; simp only [Act.put, List.setIfInBounds_toArray, List.set_cons_succ, List.set_cons_zero, g2, g3]))
        go_ret
        rw [KV.out]
        exact RB.any rfl (by repeat (first | exact Drew.refl _ | refine Drew.more ?_))
      · have KV := Keep.mk (show validC n e = fcmp .lss .f32 e 1056964608 by unfold validC isNorthC isEastC; rw [g1, g2, g3]; rfl)
        go_enter Try.func39, Try.ntmps39
        go_wp2_with (first | (refine wpList_fcmp rfl rfl rfl rfl rfl (by first | (with_reducible assumption) | (with_reducible exact Fl.ofInt _ _) | exact Fl.not (by decide +kernel) (by decide +kernel)) (by first | (with_reducible assumption) | (with_reducible exact Fl.ofInt _ _) | exact Fl.not (by decide +kernel) (by decide +kernel)) ?_; simp only [Act.put, List.setIfInBounds_toArray, List.set_cons_succ, List.set_cons_zero, g1]) | (refine wpList_fcmp_g rfl rfl rfl rfl rfl (by first | (with_reducible assumption) | (with_reducible exact Fl.ofInt _ _) | exact Fl.not (by decide +kernel) (by decide +kernel)) (by first | (with_reducible assumption) | (with_reducible exact Fl.ofInt _ _) | exact Fl.not (by decide +kernel) (by decide +kernel)) ?_; simp only [Act.put, List.setIfInBounds_toArray, List.set_cons_succ, List.set_cons_zero, g2, g3]))
        go_ret
        rw [KV.out]
        exact RB.any rfl (by repeat (first | exact Drew.refl _ | refine Drew.more ?_))
theorem szPS_yes {a : Option Addr} {n cap : Nat} (hl : n ≤ 1048576) (w : World) : Calls Try.prog 9 #[.slice a n cap, .int .i64 1048576] w (RI .i64 (1048576 - (n : Int)) w) := by
  go_enter Try.func9, Try.ntmps9
  go_wp2
  go_ret
  exact RI.any rfl (by repeat (first | exact Drew.refl _ | refine Drew.more ?_))
theorem szPS_no {a : Option Addr} {n cap : Nat} (hl : 1048576 < n) (hm : n ≤ 9223372036854775807) (w : World) : Calls Try.prog 9 #[.slice a n cap, .int .i64 1048576] w (RI .i64 (-1) w) := by
  go_enter Try.func9, Try.ntmps9
  go_wp2
  go_ret
  exact RI.any rfl (by repeat (first | exact Drew.refl _ | refine Drew.more ?_))
theorem l02Are_any {g n : Nat} {ys : List Nat} (w : World) (hr : FRow w (some ⟨g, 0, none⟩) ys) (hw : Wf ys) (hn : ys.length = 2 * n) (hl : n ≤ 1048576) : Calls Try.prog 28 #[.slice (some ⟨g, 0, none⟩) n n] w (RB (arePl ys n) w) := by
  have HR := Hf.mk hr
  have HW := Hf.mk hw
  have HN := Hf.mk hn
  clear hr hw hn
  go_enter Try.func28, Try.ntmps28
  go_wp2
  go_loopw [3] (fun i wr => ∃ m : Nat, m ≤ n ∧ i = .int .i64 m ∧ Hf (allV ys m = true) ∧ Drew w wr) (fun i _ => n - (intOf i).toNat)
  case atStart => exact ⟨0, by omega, rfl, ⟨rfl⟩, (by repeat (first | exact Drew.refl _ | refine Drew.more ?_))⟩
  case round =>
    obtain ⟨m, hm, rfl, ha, q, rfl⟩ := hrel
    by_cases hlt : m < n
    · obtain ⟨c0, c1⟩ := (HR.out.drew q).twoAt HN.out hlt
      have hv := l02IsAt_any (flN HW.out HN.out hlt) (flE HW.out HN.out hlt) (p := g) (o := m * 2) (w.drewN q) c0 c1
      cases hv1 : validC (nC ys m) (eC ys m)
      · rw [hv1] at hv
        have HV := Hf.mk hv
        have KR := Hf.mk (show arePl ys n = false by unfold arePl; rw [allV_no hlt hv1, Bool.and_false])
        clear hv
        go_wp2_with (first | (go_at_call 39; refine HV.out.mono ?_; rintro e w' ⟨rfl, n1, rfl⟩))
        go_ret
        rw [KR.out]
        exact RB.any rfl (by repeat (first | exact Drew.refl _ | refine Drew.more ?_))
      · rw [hv1] at hv
        have HV := Hf.mk hv
        have KS := Hf.mk (show allV ys (m + 1) = true by unfold allV; rw [ha.out, Bool.true_and]; exact hv1)
        clear hv
        go_wp2_with (first | (go_at_call 39; refine HV.out.mono ?_; rintro e w' ⟨rfl, n1, rfl⟩))
        go_roundw
        case rel => exact ⟨m + 1, by omega, i_ext2 (by omega), KS, (by repeat (first | exact Drew.refl _ | refine Drew.more ?_))⟩
        case measure => simp [intOf]; omega
    · obtain rfl : m = n := by omega
      by_cases h1 : 1 ≤ m
      · by_cases h2 : m ≤ 64
        · have KR := Hf.mk (show arePl ys m = true by unfold arePl; rw [ha.out, decide_eq_true ⟨h1, h2⟩]; rfl)
          go_wp2
          go_ret
          rw [KR.out]
          exact RB.any (by rw [decide_eq_true (by omega)]) (by repeat (first | exact Drew.refl _ | refine Drew.more ?_))
        · have KR := Hf.mk (show arePl ys m = false by unfold arePl; rw [decide_eq_false (by omega)]; rfl)
          go_wp2
          go_ret
          rw [KR.out]
          exact RB.any (by rw [decide_eq_false (by omega)]) (by repeat (first | exact Drew.refl _ | refine Drew.more ?_))
      · have KR := Hf.mk (show arePl ys m = false by unfold arePl; rw [decide_eq_false (by omega)]; rfl)
        go_wp2
        go_ret
        rw [KR.out]
        exact RB.any rfl (by repeat (first | exact Drew.refl _ | refine Drew.more ?_))
set_option maxHeartbeats 1000000 in
theorem iArePl_any {g n : Nat} {ys : List Nat} (w : World) (hr : FRow w (some ⟨g, 0, none⟩) ys) (hw : Wf ys) (hn : ys.length = 2 * n) (hl : n ≤ 1048576) : Calls Try.prog 33 #[.slice (some ⟨g, 0, none⟩) n n] w (RS (.bool (arePl ys n)) w) := by
  have HR := Hf.mk hr
  have HW := Hf.mk hw
  have HN := Hf.mk hn
  clear hr hw hn
  by_cases h1 : 1 ≤ n
  · by_cases h2 : n ≤ 64
    · go_enter Try.func33, Try.ntmps33
      go_wp2
      go_loopw [15] (fun i wr => ∃ m : Nat, m ≤ n ∧ i = .int .i64 m ∧ Hf (allV ys m = true) ∧ Hf (Below w.heap.size w wr)) (fun i _ => n - (intOf i).toNat)
      case atStart => exact ⟨0, by omega, rfl, ⟨rfl⟩, ⟨(by repeat (first | exact Below.refl _ _ | with_reducible assumption | refine Below.drews ?_ | refine Below.drew ?_ | refine Below.alloc ?_ (by simp <;> omega) _ | refine Below.setCell ?_ (by simp <;> omega) _))⟩⟩
      case round =>
        obtain ⟨m, hm, rfl, ha, hb⟩ := hrel
        by_cases hlt : m < n
        · obtain ⟨c0, c1⟩ := (HR.out.below hb.out).twoAt HN.out hlt
          have hv := iValidPlace_any (flN HW.out HN.out hlt) (flE HW.out HN.out hlt)
          cases hv1 : validC (nC ys m) (eC ys m)
          · rw [hv1] at hv
            have HV := Hf.mk hv
            have KR := Hf.mk (show arePl ys n = false by unfold arePl; rw [allV_no hlt hv1, Bool.and_false])
            have BR := Hb.mk hb.out
            clear hv
            go_wp2_with (first | (go_at_call 36; refine (HV.out _).mono ?_; rintro e w1 ⟨rfl, b1⟩; have B1 := Hb.mk (Below.on (B := w.heap.size) (a := w) (by repeat (first | exact BR.out | refine Below.drews ?_ | refine Below.drew ?_ | refine Below.alloc ?_ (by have hq_ := BR.out.size; first | omega | (simp <;> omega)) _ | refine Below.setCell ?_ (by have hq_ := BR.out.size; first | omega | (simp <;> omega)) _)) b1 (by have hq_ := BR.out.size; first | omega | (simp <;> omega))); clear b1))
            go_ret
            rw [KR.out]
            exact ⟨rfl, (by repeat (first | exact Below.refl _ _ | exact B1.out | refine Below.drews ?_ | refine Below.drew ?_ | refine Below.alloc ?_ (by first | omega | (simp <;> omega)) _ | refine Below.setCell ?_ (by first | omega | (simp <;> omega)) _))⟩
          · rw [hv1] at hv
            have HV := Hf.mk hv
            have KS := Hf.mk (show allV ys (m + 1) = true by unfold allV; rw [ha.out, Bool.true_and]; exact hv1)
            have BR := Hb.mk hb.out
            clear hv
            go_wp2_with (first | (go_at_call 36; refine (HV.out _).mono ?_; rintro e w1 ⟨rfl, b1⟩; have B1 := Hb.mk (Below.on (B := w.heap.size) (a := w) (by repeat (first | exact BR.out | refine Below.drews ?_ | refine Below.drew ?_ | refine Below.alloc ?_ (by have hq_ := BR.out.size; first | omega | (simp <;> omega)) _ | refine Below.setCell ?_ (by have hq_ := BR.out.size; first | omega | (simp <;> omega)) _)) b1 (by have hq_ := BR.out.size; first | omega | (simp <;> omega))); clear b1))
            go_roundw
            case rel => exact ⟨m + 1, by omega, i_ext2 (by omega), KS, ⟨(by repeat (first | exact Below.refl _ _ | exact B1.out | refine Below.drews ?_ | refine Below.drew ?_ | refine Below.alloc ?_ (by first | omega | (simp <;> omega)) _ | refine Below.setCell ?_ (by first | omega | (simp <;> omega)) _))⟩⟩
            case measure => simp [intOf]; omega
        · obtain rfl : m = n := by omega
          have KR := Hf.mk (show arePl ys m = true by unfold arePl; rw [ha.out, decide_eq_true ⟨h1, h2⟩]; rfl)
          go_wp2
          go_ret
          rw [KR.out]
          exact ⟨rfl, hb.out⟩
    · have KR := Hf.mk (show arePl ys n = false by unfold arePl; rw [decide_eq_false (by omega)]; rfl)
      go_enter Try.func33, Try.ntmps33
      go_wp2
      go_ret
      rw [KR.out]
      exact ⟨rfl, Below.refl _ _⟩
  · have KR := Hf.mk (show arePl ys n = false by unfold arePl; rw [decide_eq_false (by omega)]; rfl)
    go_enter Try.func33, Try.ntmps33
    go_wp2
    go_ret
    rw [KR.out]
    exact ⟨rfl, Below.refl _ _⟩
set_option maxHeartbeats 4000000 in
theorem eqPS_any {g1 g2 n : Nat} {ys : List Nat} (w : World) (h1 : FRow w (some ⟨g1, 0, none⟩) ys) (h2 : FRow w (some ⟨g2, 0, none⟩) ys) (hw : Wf ys) (hn : ys.length = 2 * n) (hl : n ≤ 1048576) : Calls Try.prog 17 #[.slice (some ⟨g1, 0, none⟩) n n, .slice (some ⟨g2, 0, none⟩) n n] w (RS (.bool true) w) := by
  have H1 := Hf.mk h1
  have H2 := Hf.mk h2
  have HW := Hf.mk hw
  have HN := Hf.mk hn
  clear h1 h2 hw hn
  go_enter Try.func17, Try.ntmps17
  go_wp2
  go_loopw [5] (fun i wr => ∃ m : Nat, m ≤ n ∧ i = .int .i64 m ∧ Hf (Below w.heap.size w wr)) (fun i _ => n - (intOf i).toNat)
  case atStart => exact ⟨0, by omega, rfl, ⟨(by repeat (first | exact Below.refl _ _ | with_reducible assumption | refine Below.drews ?_ | refine Below.drew ?_ | refine Below.alloc ?_ (by simp <;> omega) _ | refine Below.setCell ?_ (by simp <;> omega) _))⟩⟩
  case round =>
    obtain ⟨m, hm, rfl, hb⟩ := hrel
    by_cases hlt : m < n
    · obtain ⟨c0, c1⟩ := (H1.out.below hb.out).twoAt HN.out hlt
      obtain ⟨d0, d1⟩ := (H2.out.below hb.out).twoAt HN.out hlt
      have KE := Hb.mk (eqPlace_any (flN HW.out HN.out hlt) (flE HW.out HN.out hlt) (flN HW.out HN.out hlt) (flE HW.out HN.out hlt))
      have BR := Hb.mk hb.out
      go_wp2
      refine region_all (by kernel_rfl) (by kernel_rfl) (fun I F hne HB hcl => ?_)
      have p0 := keepF HB c0
      have p1 := keepF HB c1
      have q0 := keepF HB d0
      have q1 := keepF HB d1
      repeat (quiet_step (first | (go_at_call 27; exact callS hcl (KE.out _))))
      refine wpQuiet_nil ?_
      intro _ hw'
      obtain ⟨iq, rfl⟩ := hw'
      clear hcl
      have E1 := Hb.mk (HB.out iq)
      have sB := BR.out.size
      clear p0 p1 q0 q1
      go_wp2
      go_roundw
      case rel => exact ⟨m + 1, by omega, i_ext2 (by omega), ⟨(by repeat (first | exact Below.refl _ _ | refine Below.on ?_ E1.out (by first | omega | (simp <;> omega)) | exact BR.out | refine Below.drews ?_ | refine Below.drew ?_ | refine Below.alloc ?_ (by first | omega | (simp <;> omega)) _ | refine Below.setCell ?_ (by first | omega | (simp <;> omega)) _))⟩⟩
      case measure => simp [intOf]; omega
    · obtain rfl : m = n := by omega
      go_wp2
      go_ret
      exact ⟨rfl, hb.out⟩
end Go.Proofs.Ytmioclcipdifpaa
