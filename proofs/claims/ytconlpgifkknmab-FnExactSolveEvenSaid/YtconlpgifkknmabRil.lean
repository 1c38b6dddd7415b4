/-
  Lists of rises: copied, compared, and whether all are rises, of the program and of the model; the exact law of AreRises. No premise beyond those named.
-/
import Derived.Test.YtconlpgifkknmabRis
import Derived.Test.YtconlpgifkknmabTail
namespace Go.Proofs.Ytconlpgifkknmab
open Go Go.RowKit
set_option maxRecDepth 100000

theorem iown_below {w w' : World} {base : Nat} {e : TypeId} {size : Nat} {v : Value} {n : Nat} {xs : List Value} (h : w.ownsRow base e size v n xs) (b : Below w.heap.size w w') : w'.ownsRow base e size v n xs := by
  refine h.kept (row := none) ⟨b.os, b.tape, b.output, b.size, fun k hk _ => b.block k hk⟩ ?_
  cases hv : v.ownBlock
  · exact .inl rfl
  · exact .inr (by simp)
def rAt (xs : List Int) (c : Int) (i : Nat) : Bool := risB (fR xs i) (tR xs i) (sR xs i) (lR xs i) c
def allR (xs : List Int) (c : Int) : Nat → Bool
  | 0 => true
  | m + 1 => allR xs c m && rAt xs c m
def areR (xs : List Int) (n : Nat) (c : Int) : Bool := decide (1 ≤ c ∧ c ≤ 32 ∧ n ≤ 32) && allR xs c n
theorem allR_at {xs : List Int} {c : Int} : ∀ {n : Nat}, allR xs c n = true → ∀ i, i < n → rAt xs c i = true := by
  intro n
  induction n with
  | zero => intro _ i hi; omega
  | succ n ih =>
    intro h i hi
    unfold allR at h
    rw [Bool.and_eq_true] at h
    by_cases he : i = n
    · rw [he]; exact h.2
    · exact ih h.1 i (by omega)
theorem allR_no {xs : List Int} {c : Int} : ∀ {n i : Nat}, i < n → rAt xs c i = false → allR xs c n = false := by
  intro n
  induction n with
  | zero => intro i hi; omega
  | succ n ih =>
    intro i hi h
    unfold allR
    by_cases he : i = n
    · rw [← he, h, Bool.and_false]
    · rw [ih (by omega) h, Bool.false_and]
theorem risB_split {f t s l c : Int} (h : risB f t s l c = false) : rsB f t s l = false ∨ (rsB f t s l = true ∧ (f < 0 ∨ c - 1 < f)) ∨ (rsB f t s l = true ∧ 0 ≤ f ∧ f ≤ c - 1 ∧ (t < 0 ∨ c - 1 < t)) := by
  cases hr : rsB f t s l
  · exact .inl rfl
  · right
    unfold rsB at hr
    rw [decide_eq_true_iff] at hr
    unfold risB at h
    rw [decide_eq_false_iff_not] at h
    unfold rises at h
    by_cases h1 : f < 0 ∨ c - 1 < f
    · exact .inl ⟨rfl, h1⟩
    · exact .inr ⟨rfl, by omega, by omega, by omega⟩
theorem risB_all {f t s l c : Int} (h : risB f t s l c = true) : rsB f t s l = true ∧ 0 ≤ f ∧ f ≤ c - 1 ∧ 0 ≤ t ∧ t ≤ c - 1 := by
  unfold risB at h
  rw [decide_eq_true_iff] at h
  unfold rises at h
  unfold rsB
  rw [decide_eq_true_iff]
  omega
theorem toRS_any {a : Option Addr} {n cap : Nat} {xs : List Int} (w : World) (hr : IRow w a xs) (hn : xs.length = 4 * n) (hl : n ≤ 1048576) : Calls Try.prog 11 #[.slice a n cap] w (fun e w' => e = .returned (.slice (some ⟨w.heap.size, 0, none⟩) n n) ∧ w'.ownsRow w.heap.size 52 4 (.slice (some ⟨w.heap.size, 0, none⟩) n n) n (ils xs) ∧ Below w.heap.size w w') := by
  obtain ⟨i0, hi, hz0, hz1, hz2⟩ := info_parts (P := Try.prog) (e := 52) (z := ri 0 0 0 0) (size := 4) (bytes := 32) (by kernel_rfl)
  have HR := Hf.mk hr
  have HN := Hf.mk hn
  clear hr hn
  go_enter Try.func11, Try.ntmps11
  go_wp2_with (at_make; refine wpList_make_full _ rfl _ _ 25 rfl w.heap.size 52 i0 _ 4 Try.underlying25 hi hz0 hz1 .i64 .i64 _ _ n rfl rfl rfl rfl (by rw [hz2]; omega) (by unfold maxLen; omega) (Nat.le_refl _) ?_; intro w0 hown0 hgrow0)
  go_loopw [4] (fun i wr => ∃ (m : Nat) (cur : List Value), m ≤ n ∧ i = .int .i64 m ∧ Hf (wr.ownsRow w.heap.size 52 4 (.slice (some ⟨w.heap.size, 0, none⟩) n n) n cur) ∧ Hf (∀ j, j < 4 * m → cur[j]? = some (.int .i64 (xs.getD j 0))) ∧ Hf (Below w.heap.size w wr)) (fun i _ => n - (intOf i).toNat)
  case atStart => exact ⟨0, _, by omega, rfl, ⟨hown0⟩, ⟨fun j hj => absurd hj (Nat.not_lt_zero j)⟩, ⟨(Below.refl _ _).grown hgrow0 (Nat.le_refl _) (fun k h => by cases h)⟩⟩
  case round =>
    obtain ⟨m, cur, hm, rfl, hown, hcur, hbel⟩ := hrel
    by_cases hlt : m < n
    · obtain ⟨p, rfl⟩ := HR.out.some_of (by rw [HN.out]; omega)
      obtain ⟨c0, c1, c2, c3⟩ := (HR.out.below hbel.out).four HN.out hlt
      have hlen : cur.length = n * 4 := hown.out.1
      obtain ⟨old0, hold0⟩ : ∃ old, cur[m * 4]? = some old := ⟨_, List.getElem?_eq_getElem (by omega)⟩
      obtain ⟨old1, hold1⟩ : ∃ old, cur[m * 4 + 1]? = some old := ⟨_, List.getElem?_eq_getElem (by omega)⟩
      obtain ⟨old2, hold2⟩ : ∃ old, cur[m * 4 + 2]? = some old := ⟨_, List.getElem?_eq_getElem (by omega)⟩
      obtain ⟨old3, hold3⟩ : ∃ old, cur[m * 4 + 3]? = some old := ⟨_, List.getElem?_eq_getElem (by omega)⟩
      have d0 : wr.cell? ⟨w.heap.size, m * 4, none⟩ = some old0 := (hown.out.cellAt (m * 4) (by omega)).trans hold0
      have d1 : wr.cell? ⟨w.heap.size, m * 4 + 1, none⟩ = some old1 := (hown.out.cellAt (m * 4 + 1) (by omega)).trans hold1
      have d2 : wr.cell? ⟨w.heap.size, m * 4 + 2, none⟩ = some old2 := (hown.out.cellAt (m * 4 + 2) (by omega)).trans hold2
      have d3 : wr.cell? ⟨w.heap.size, m * 4 + 3, none⟩ = some old3 := (hown.out.cellAt (m * 4 + 3) (by omega)).trans hold3
      have z0 := hown.out.frozenAt (m * 4)
      have z1 := hown.out.frozenAt (m * 4 + 1)
      have z2 := hown.out.frozenAt (m * 4 + 2)
      have z3 := hown.out.frozenAt (m * 4 + 3)
      have lw := block_lt_of_cell d0
      simp at lw
      clear hold0 hold1 hold2 hold3
      go_wp2_with (first | (go_at_call 35; refine (toRise_any _ _ _ _ _).mono ?_; rintro e w1 ⟨rfl, b1⟩; have B1 := Hb.mk b1; have e0 := Hb.mk (At.keep b1 d0 z0); have e1 := Hb.mk (At.keep b1 d1 z1); have e2 := Hb.mk (At.keep b1 d2 z2); have e3 := Hb.mk (At.keep b1 d3 z3); obtain ⟨e0c, e0z, e0l⟩ := e0.out; obtain ⟨e1c, e1z, e1l⟩ := e1.out; obtain ⟨e2c, e2z, e2l⟩ := e2.out; obtain ⟨e3c, e3z, e3l⟩ := e3.out; clear b1))
      go_roundw
      case rel =>
        have hst := (iown_below hown.out B1.out).stored (m * 4) (.int .i64 (fR xs m))
        have hst2 := hst.1.stored (m * 4 + 1) (.int .i64 (tR xs m))
        have hst3 := hst2.1.stored (m * 4 + 2) (.int .i64 (sR xs m))
        have hst4 := hst3.1.stored (m * 4 + 3) (.int .i64 (lR xs m))
        refine ⟨m + 1, _, by omega, i_ext2 (by omega), ⟨hst4.1⟩, ⟨?_⟩, ⟨Below.setCell (Below.setCell (Below.setCell (Below.setCell (Below.on hbel.out B1.out hbel.out.size) (Nat.le_refl _) _) (Nat.le_refl _) _) (Nat.le_refl _) _) (Nat.le_refl _) _⟩⟩
        intro j hj
        by_cases he : j = m * 4 + 3
        · subst he; rw [List.getElem?_set_self (by simp; omega)]; rfl
        · rw [List.getElem?_set_ne (by omega)]
          by_cases he : j = m * 4 + 2
          · subst he; rw [List.getElem?_set_self (by simp; omega)]; rfl
          · rw [List.getElem?_set_ne (by omega)]
            by_cases he : j = m * 4 + 1
            · subst he; rw [List.getElem?_set_self (by simp; omega)]; rfl
            · rw [List.getElem?_set_ne (by omega)]
              by_cases he : j = m * 4
              · subst he; rw [List.getElem?_set_self (by omega)]; rfl
              · rw [List.getElem?_set_ne (by omega)]; exact hcur.out j (by omega)
      case measure => simp [intOf]; omega
    · obtain rfl : m = n := by omega
      go_wp2
      go_ret
      have hlen : cur.length = 4 * m := by have := hown.out.1; omega
      refine ⟨rfl, ?_, hbel.out⟩
      have hc : cur = ils xs := ils_of (by rw [hlen, HN.out]) (fun j hj => hcur.out j (by rw [HN.out] at hj; omega))
      rw [hc] at hown
      exact hown.out
theorem szRS_yes {a : Option Addr} {n cap : Nat} (hl : n ≤ 1048576) (w : World) : Calls Try.prog 9 #[.slice a n cap, .int .i64 1048576] w (RI .i64 (1048576 - (n : Int)) w) := by
  go_enter Try.func9, Try.ntmps9
  go_wp2
  go_ret
  exact RI.any rfl (by repeat (first | exact Drew.refl _ | refine Drew.more ?_))
theorem szRS_no {a : Option Addr} {n cap : Nat} (hl : 1048576 < n) (hm : n ≤ 9223372036854775807) (w : World) : Calls Try.prog 9 #[.slice a n cap, .int .i64 1048576] w (RI .i64 (-1) w) := by
  go_enter Try.func9, Try.ntmps9
  go_wp2
  go_ret
  exact RI.any rfl (by repeat (first | exact Drew.refl _ | refine Drew.more ?_))
set_option maxHeartbeats 4000000 in
theorem eqRS_any {g1 g2 n k1 k2 : Nat} {xs : List Int} (w : World) (h1 : IRow w (some ⟨g1, 0, none⟩) xs) (h2 : IRow w (some ⟨g2, 0, none⟩) xs) (hn : xs.length = 4 * n) (hl : n ≤ 1048576) : Calls Try.prog 13 #[.slice (some ⟨g1, 0, none⟩) n k1, .slice (some ⟨g2, 0, none⟩) n k2] w (RS (.bool true) w) := by
  have H1 := Hf.mk h1
  have H2 := Hf.mk h2
  have HN := Hf.mk hn
  clear h1 h2 hn
  go_enter Try.func13, Try.ntmps13
  go_wp2
  go_loopw [5] (fun i wr => ∃ m : Nat, m ≤ n ∧ i = .int .i64 m ∧ Hf (Below w.heap.size w wr)) (fun i _ => n - (intOf i).toNat)
  case atStart => exact ⟨0, by omega, rfl, ⟨(by repeat (first | exact Below.refl _ _ | with_reducible assumption | refine Below.drews ?_ | refine Below.drew ?_ | refine Below.alloc ?_ (by simp <;> omega) _ | refine Below.setCell ?_ (by simp <;> omega) _))⟩⟩
  case round =>
    obtain ⟨m, hm, rfl, hb⟩ := hrel
    by_cases hlt : m < n
    · obtain ⟨c0, c1, c2, c3⟩ := (H1.out.below hb.out).fourAt HN.out hlt
      obtain ⟨d0, d1, d2, d3⟩ := (H2.out.below hb.out).fourAt HN.out hlt
      have KE := Hb.mk (eqRise_any (fR xs m) (tR xs m) (sR xs m) (lR xs m))
      have BR := Hb.mk hb.out
      go_wp2
      refine region_all (by kernel_rfl) (by kernel_rfl) (fun I F hne HB hcl => ?_)
      have p0 := keepF HB c0
      have p1 := keepF HB c1
      have p2 := keepF HB c2
      have p3 := keepF HB c3
      have q0 := keepF HB d0
      have q1 := keepF HB d1
      have q2 := keepF HB d2
      have q3 := keepF HB d3
      repeat (quiet_step (first | (go_at_call 39; exact callS hcl (KE.out _))))
      refine wpQuiet_nil ?_
      intro _ hw'
      obtain ⟨iq, rfl⟩ := hw'
      clear hcl
      have E1 := Hb.mk (HB.out iq)
      have sB := BR.out.size
      clear p0 p1 q0 q1 p2 p3 q2 q3
      go_wp2
      go_roundw
      case rel => exact ⟨m + 1, by omega, i_ext2 (by omega), ⟨(by repeat (first | exact Below.refl _ _ | refine Below.on ?_ E1.out (by first | omega | (simp <;> omega)) | exact BR.out | refine Below.drews ?_ | refine Below.drew ?_ | refine Below.alloc ?_ (by first | omega | (simp <;> omega)) _ | refine Below.setCell ?_ (by first | omega | (simp <;> omega)) _))⟩⟩
      case measure => simp [intOf]; omega
    · obtain rfl : m = n := by omega
      go_wp2
      go_ret
      exact ⟨rfl, hb.out⟩
set_option maxHeartbeats 4000000 in
theorem l05Rises_any {g n k : Nat} {xs : List Int} {c : Int} (w : World) (hr : IRow w (some ⟨g, 0, none⟩) xs) (hn : xs.length = 4 * n) (hl : n ≤ 1048576) : Calls Try.prog 34 #[.slice (some ⟨g, 0, none⟩) n k, .int .i64 c] w (RB (areR xs n c) w) := by
  have HR := Hf.mk hr
  have HN := Hf.mk hn
  clear hr hn
  by_cases h1 : c < 1 ∨ 32 < c
  · have KR := Hf.mk (show areR xs n c = false by unfold areR; rw [decide_eq_false (by omega)]; rfl)
    go_enter Try.func34, Try.ntmps34
    go_wp2_with (first | (go_at_call 49; refine (l00In_no h1 _).mono ?_; rintro e w' ⟨rfl, q0, rfl⟩))
    go_ret
    rw [KR.out]
    exact RB.any rfl (by repeat (first | exact Drew.refl _ | refine Drew.more ?_))
  · have a0 : 1 ≤ c := by omega
    have a1 : c ≤ 32 := by omega
    by_cases h2 : n ≤ 32
    · go_enter Try.func34, Try.ntmps34
      go_wp2_with (first | (go_at_call 49; refine (l00In_yes a0 a1 _).mono ?_; rintro e w' ⟨rfl, q0, rfl⟩))
      go_loopw [16] (fun i wr => ∃ m : Nat, m ≤ n ∧ i = .int .i64 m ∧ Hf (allR xs c m = true) ∧ Drew w wr) (fun i _ => n - (intOf i).toNat)
      case atStart => exact ⟨0, by omega, rfl, ⟨rfl⟩, (by repeat (first | exact Drew.refl _ | refine Drew.more ?_))⟩
      case round =>
        obtain ⟨m, hm, rfl, ha, q, rfl⟩ := hrel
        by_cases hlt : m < n
        · obtain ⟨c0, c1, c2, c3⟩ := HR.out.fourAt HN.out hlt
          have hv := l05Rise_any (w.drewN q) c0 c1 c2 c3
          cases hv1 : rAt xs c m
          · have KR := Hf.mk (show areR xs n c = false by unfold areR; rw [allR_no hlt hv1, Bool.and_false])
            unfold rAt at hv1
            rcases risB_split hv1 with hs | ⟨hs, hf⟩ | ⟨hs, hf0, hf1, ht⟩
            · rw [hs] at hv
              have HV := Hf.mk hv
              clear hv hs hv1
              go_wp2_with (first | (go_at_call 61; refine HV.out.mono ?_; rintro e w' ⟨rfl, n1, rfl⟩))
              go_ret
              rw [KR.out]
              exact RB.any rfl (by repeat (first | exact Drew.refl _ | refine Drew.more ?_))
            · rw [hs] at hv
              have HV := Hf.mk hv
              clear hv hs hv1
              go_wp2_with (first | (go_at_call 61; refine HV.out.mono ?_; rintro e w' ⟨rfl, n1, rfl⟩) | (go_at_call 49; refine (l00In_no hf _).mono ?_; rintro e w' ⟨rfl, q0, rfl⟩))
              go_ret
              rw [KR.out]
              exact RB.any rfl (by repeat (first | exact Drew.refl _ | refine Drew.more ?_))
            · rw [hs] at hv
              have HV := Hf.mk hv
              clear hv hs hv1
              have tk_a : True := trivial; have tk_b : True := trivial
              go_wp2_with (first | (go_at_call 61; refine HV.out.mono ?_; rintro e w' ⟨rfl, n1, rfl⟩) | (go_at_call 49; clear tk_a; refine (l00In_yes hf0 hf1 _).mono ?_; rintro e w' ⟨rfl, n1, rfl⟩) | (go_at_call 49; clear tk_b; refine (l00In_no ht _).mono ?_; rintro e w' ⟨rfl, n1, rfl⟩))
              go_ret
              rw [KR.out]
              exact RB.any rfl (by repeat (first | exact Drew.refl _ | refine Drew.more ?_))
          · have KS := Hf.mk (show allR xs c (m + 1) = true by unfold allR; rw [ha.out, Bool.true_and]; exact hv1)
            unfold rAt at hv1
            obtain ⟨hs, hf0, hf1, ht0, ht1⟩ := risB_all hv1
            rw [hs] at hv
            have HV := Hf.mk hv
            clear hv hs hv1
            have tk_a : True := trivial; have tk_b : True := trivial
            go_wp2_with (first | (go_at_call 61; refine HV.out.mono ?_; rintro e w' ⟨rfl, n1, rfl⟩) | (go_at_call 49; clear tk_a; refine (l00In_yes hf0 hf1 _).mono ?_; rintro e w' ⟨rfl, n1, rfl⟩) | (go_at_call 49; clear tk_b; refine (l00In_yes ht0 ht1 _).mono ?_; rintro e w' ⟨rfl, n1, rfl⟩))
            go_roundw
            case rel => exact ⟨m + 1, by omega, i_ext2 (by omega), KS, (by repeat (first | exact Drew.refl _ | refine Drew.more ?_))⟩
            case measure => simp [intOf]; omega
        · obtain rfl : m = n := by omega
          have KR := Hf.mk (show areR xs m c = true by unfold areR; rw [ha.out, decide_eq_true ⟨a0, a1, h2⟩]; rfl)
          go_wp2
          go_ret
          rw [KR.out]
          exact RB.any rfl (by repeat (first | exact Drew.refl _ | refine Drew.more ?_))
    · have KR := Hf.mk (show areR xs n c = false by unfold areR; rw [decide_eq_false (by omega)]; rfl)
      go_enter Try.func34, Try.ntmps34
      go_wp2_with (first | (go_at_call 49; refine (l00In_yes a0 a1 _).mono ?_; rintro e w' ⟨rfl, q0, rfl⟩))
      go_ret
      rw [KR.out]
      exact RB.any rfl (by repeat (first | exact Drew.refl _ | refine Drew.more ?_))
theorem sAreRises_any {g n k : Nat} {xs : List Int} {c : Int} (w : World) (hr : IRow w (some ⟨g, 0, none⟩) xs) (hn : xs.length = 4 * n) (hl : n ≤ 1048576) : Calls Try.prog 10 #[.slice (some ⟨g, 0, none⟩) n k, .int .i64 c] w (RB (areR xs n c) w) := by
  have HA := Hf.mk (l05Rises_any (k := k) (c := c) w hr hn hl)
  generalize areR xs n c = b at *
  clear hr hn
  go_enter Try.func10, Try.ntmps10
  go_wp2_with (first | (go_at_call 34; refine HA.out.mono ?_; rintro e w' ⟨rfl, n1, rfl⟩))
  go_ret
  exact RB.any rfl (by repeat (first | exact Drew.refl _ | refine Drew.more ?_))
theorem isRise_any {f t s l c : Int} {bc : Nat} (w : World) (hc : w.cell? ⟨bc, 0, none⟩ = some (.int .i64 c)) : Calls Try.prog 36 #[ri f t s l, .pointer (some ⟨bc, 0, none⟩)] w (RS (.bool (risB f t s l c)) w) := by
  have K := Hf.mk (fun w => isBetween_any (f := f) (t := t) (s := s) (l := l) (c := c) w)
  generalize risB f t s l c = b at *
  have hlt := block_lt_of_cell hc
  simp at hlt
  go_enter Try.func36, Try.ntmps36
  go_wp2_with (first | (go_at_call 37; refine (K.out _).mono ?_; rintro e w1 ⟨rfl, b1⟩; have E1 := Hb.mk b1; clear b1))
  go_ret
  exact ⟨rfl, (by repeat (first | exact Below.refl _ _ | refine Below.on ?_ E1.out (by first | omega | (simp <;> omega)) | refine Below.drews ?_ | refine Below.drew ?_ | refine Below.alloc ?_ (by first | omega | (simp <;> omega)) _ | refine Below.setCell ?_ (by first | omega | (simp <;> omega)) _))⟩
set_option maxHeartbeats 1000000 in
theorem areAllR_any {g n k : Nat} {xs : List Int} {c : Int} {bc : Nat} (w : World) (hr : IRow w (some ⟨g, 0, none⟩) xs) (hn : xs.length = 4 * n) (hl : n ≤ 1048576) (hc : w.cell? ⟨bc, 0, none⟩ = some (.int .i64 c)) : Calls Try.prog 38 #[.slice (some ⟨g, 0, none⟩) n k, .func (.func 36) #[] #[.pointer (some ⟨bc, 0, none⟩)]] w (RS (.bool (allR xs c n)) w) := by
  have HR := Hf.mk hr
  have HN := Hf.mk hn
  have HC := Hf.mk hc
  clear hr hn hc
  go_enter Try.func38, Try.ntmps38
  go_wp2
  go_loopw [9] (fun i wr => ∃ m : Nat, m ≤ n ∧ i = .int .i64 m ∧ Hf (allR xs c m = true) ∧ Hf (Below w.heap.size w wr)) (fun i _ => n - (intOf i).toNat)
  case atStart => exact ⟨0, by omega, rfl, ⟨rfl⟩, ⟨(by repeat (first | exact Below.refl _ _ | with_reducible assumption | refine Below.drews ?_ | refine Below.drew ?_ | refine Below.alloc ?_ (by simp <;> omega) _ | refine Below.setCell ?_ (by simp <;> omega) _))⟩⟩
  case round =>
    obtain ⟨m, hm, rfl, ha, hb⟩ := hrel
    by_cases hlt : m < n
    · obtain ⟨c0, c1, c2, c3⟩ := (HR.out.below hb.out).fourAt HN.out hlt
      have BR := Hb.mk hb.out
      have HC1 := Hf.mk (Below.keep hb.out HC.out)
      have hlb := block_lt_of_cell HC1.out
      simp at hlb
      cases hv1 : rAt xs c m
      · have KR := Hf.mk (show allR xs c n = false from allR_no hlt hv1)
        unfold rAt at hv1
        have HV := Hf.mk hv1
        clear hv1
        go_wp2_with (first | (go_at_call 36; refine (isRise_any (c := c) _ (Below.keep (by repeat (first | exact Below.refl _ _ | with_reducible assumption | refine Below.drews ?_ | refine Below.drew ?_ | refine Below.alloc ?_ (by simp <;> omega) _ | refine Below.setCell ?_ (by simp <;> omega) _)) HC1.out)).mono ?_; rw [HV.out]; rintro e w1 ⟨rfl, b1⟩; have B1 := Hb.mk (Below.on (B := w.heap.size) (a := w) (by repeat (first | exact BR.out | refine Below.drews ?_ | refine Below.drew ?_ | refine Below.alloc ?_ (by have hq_ := BR.out.size; first | omega | (simp <;> omega)) _ | refine Below.setCell ?_ (by have hq_ := BR.out.size; first | omega | (simp <;> omega)) _)) b1 (by have hq_ := BR.out.size; first | omega | (simp <;> omega))); clear b1))
        go_ret
        rw [KR.out]
        exact ⟨rfl, (by repeat (first | exact Below.refl _ _ | exact B1.out | refine Below.drews ?_ | refine Below.drew ?_ | refine Below.alloc ?_ (by first | omega | (simp <;> omega)) _ | refine Below.setCell ?_ (by first | omega | (simp <;> omega)) _))⟩
      · have KS := Hf.mk (show allR xs c (m + 1) = true by unfold allR; rw [ha.out, Bool.true_and]; exact hv1)
        unfold rAt at hv1
        have HV := Hf.mk hv1
        clear hv1
        go_wp2_with (first | (go_at_call 36; refine (isRise_any (c := c) _ (Below.keep (by repeat (first | exact Below.refl _ _ | with_reducible assumption | refine Below.drews ?_ | refine Below.drew ?_ | refine Below.alloc ?_ (by simp <;> omega) _ | refine Below.setCell ?_ (by simp <;> omega) _)) HC1.out)).mono ?_; rw [HV.out]; rintro e w1 ⟨rfl, b1⟩; have B1 := Hb.mk (Below.on (B := w.heap.size) (a := w) (by repeat (first | exact BR.out | refine Below.drews ?_ | refine Below.drew ?_ | refine Below.alloc ?_ (by have hq_ := BR.out.size; first | omega | (simp <;> omega)) _ | refine Below.setCell ?_ (by have hq_ := BR.out.size; first | omega | (simp <;> omega)) _)) b1 (by have hq_ := BR.out.size; first | omega | (simp <;> omega))); clear b1))
        go_roundw
        case rel => exact ⟨m + 1, by omega, i_ext2 (by omega), KS, ⟨(by repeat (first | exact Below.refl _ _ | exact B1.out | refine Below.drews ?_ | refine Below.drew ?_ | refine Below.alloc ?_ (by first | omega | (simp <;> omega)) _ | refine Below.setCell ?_ (by first | omega | (simp <;> omega)) _))⟩⟩
        case measure => simp [intOf]; omega
    · obtain rfl : m = n := by omega
      go_wp2
      go_ret
      rw [ha.out]
      exact ⟨rfl, hb.out⟩
set_option maxHeartbeats 1000000 in
theorem iAreRises_any {g n k : Nat} {xs : List Int} {c : Int} (w : World) (hr : IRow w (some ⟨g, 0, none⟩) xs) (hn : xs.length = 4 * n) (hl : n ≤ 1048576) : Calls Try.prog 12 #[.slice (some ⟨g, 0, none⟩) n k, .int .i64 c] w (RS (.bool (areR xs n c)) w) := by
  have HR := Hf.mk hr
  have HN := Hf.mk hn
  clear hr hn
  by_cases h1 : c < 1
  · have KR := Hf.mk (show areR xs n c = false by unfold areR; rw [decide_eq_false (by omega)]; rfl)
    go_enter Try.func12, Try.ntmps12
    go_wp2
    go_ret
    rw [KR.out]
    exact ⟨rfl, (by repeat (first | exact Below.refl _ _ | with_reducible assumption | refine Below.drews ?_ | refine Below.drew ?_ | refine Below.alloc ?_ (by simp <;> omega) _ | refine Below.setCell ?_ (by simp <;> omega) _))⟩
  · by_cases h2 : 32 < c
    · have KR := Hf.mk (show areR xs n c = false by unfold areR; rw [decide_eq_false (by omega)]; rfl)
      go_enter Try.func12, Try.ntmps12
      go_wp2
      go_ret
      rw [KR.out]
      exact ⟨rfl, (by repeat (first | exact Below.refl _ _ | with_reducible assumption | refine Below.drews ?_ | refine Below.drew ?_ | refine Below.alloc ?_ (by simp <;> omega) _ | refine Below.setCell ?_ (by simp <;> omega) _))⟩
    · by_cases h3 : 32 < n
      · have KR := Hf.mk (show areR xs n c = false by unfold areR; rw [decide_eq_false (by omega)]; rfl)
        go_enter Try.func12, Try.ntmps12
        go_wp2
        go_ret
        rw [KR.out]
        exact ⟨rfl, (by repeat (first | exact Below.refl _ _ | with_reducible assumption | refine Below.drews ?_ | refine Below.drew ?_ | refine Below.alloc ?_ (by simp <;> omega) _ | refine Below.setCell ?_ (by simp <;> omega) _))⟩
      · have KR := Hf.mk (show areR xs n c = allR xs c n by unfold areR; rw [decide_eq_true (by omega), Bool.true_and])
        generalize hb : allR xs c n = b at *
        have HB := Hf.mk hb
        clear hb
        go_enter Try.func12, Try.ntmps12
        go_wp2_with (first | (go_at_call 38; refine (areAllR_any (c := c) _ (HR.out.below (by repeat (first | exact Below.refl _ _ | with_reducible assumption | refine Below.drews ?_ | refine Below.drew ?_ | refine Below.alloc ?_ (by simp <;> omega) _ | refine Below.setCell ?_ (by simp <;> omega) _))) HN.out hl (by simp)).mono ?_; rw [HB.out]; rintro e w1 ⟨rfl, b1⟩; have E1 := Hb.mk b1; clear b1))
        go_ret
        rw [KR.out]
        exact ⟨rfl, (by repeat (first | exact Below.refl _ _ | refine Below.on ?_ E1.out (by first | omega | (simp <;> omega)) | refine Below.drews ?_ | refine Below.drew ?_ | refine Below.alloc ?_ (by first | omega | (simp <;> omega)) _ | refine Below.setCell ?_ (by first | omega | (simp <;> omega)) _))⟩
theorem law_AreRises {a : Option Addr} {cap n : Nat} {xs : List Int} {c : Int} (w : World) (hr : IRow w a xs) (hn : xs.length = 4 * n) (hm : n ≤ 9223372036854775807) (_wc : (Lit.int .i64 c).wf = true) : Calls Try.prog 3 #[.slice a n cap, .int .i64 c] w (RS (.bool true) w) := by
  have HR := Hf.mk hr
  have HN := Hf.mk hn
  clear hr hn
  have B0 := Hb.mk (Below.refl w.heap.size w)
  by_cases hl : n ≤ 1048576
  · have KZ := Hf.mk (szRS_yes (a := a) (cap := cap) hl)
    have h4 : 4 * n = xs.length := HN.out.symm
    have H4 := Hf.mk h4
    clear h4
    generalize hb : areR xs n c = b
    have HB := Hf.mk hb
    clear hb
    cases b
    all_goals
      go_enter Try.func3, Try.ntmps3
      have tk_a : True := trivial; have tk_b : True := trivial; have tk_c : True := trivial
      go_wp2_with (first
        | (go_at_call 9; refine (KZ.out _).mono ?_; rintro e w' ⟨rfl, n0, rfl⟩)
        | (go_at_call 11; clear tk_a; refine (toRS_any _ (HR.out.drew _) HN.out hl).mono ?_; rintro e w1 ⟨rfl, o1, b1⟩; have O1 := Hf.mk (irow_own H4.out o1); have B1 := Hb.mk (Below.on (B := w.heap.size) (a := w) (by repeat (first | exact B0.out | refine Below.drews ?_ | refine Below.drew ?_ | refine Below.alloc ?_ (by have hq_ := B0.out.size; first | omega | (simp <;> omega)) _ | refine Below.setCell ?_ (by have hq_ := B0.out.size; first | omega | (simp <;> omega)) _)) b1 (by have hq_ := B0.out.size; first | omega | (simp <;> omega))); clear o1 b1)
        | (go_at_call 10; refine (sAreRises_any (c := c) _ O1.out HN.out hl).mono ?_; rw [HB.out]; rintro e w2 ⟨rfl, n2, rfl⟩)
        | (go_at_call 11; clear tk_b; refine (toRS_any _ ((HR.out.below B1.out).drew _) HN.out hl).mono ?_; rintro e w3 ⟨rfl, o3, b3⟩; have O3 := Hf.mk (irow_own H4.out o3); have B3 := Hb.mk (Below.on (B := w.heap.size) (a := w) (by repeat (first | exact B1.out | refine Below.drews ?_ | refine Below.drew ?_ | refine Below.alloc ?_ (by have hq_ := B1.out.size; first | omega | (simp <;> omega)) _ | refine Below.setCell ?_ (by have hq_ := B1.out.size; first | omega | (simp <;> omega)) _)) b3 (by have hq_ := B1.out.size; first | omega | (simp <;> omega))); clear o3 b3)
        | (go_at_call 12; refine (iAreRises_any (c := c) _ O3.out HN.out hl).mono ?_; rw [HB.out]; rintro e w4 ⟨rfl, b4⟩; have O4 := Hf.mk (O3.out.below b4); have B4 := Hb.mk (Below.on (B := w.heap.size) (a := w) (by repeat (first | exact B3.out | refine Below.drews ?_ | refine Below.drew ?_ | refine Below.alloc ?_ (by have hq_ := B3.out.size; first | omega | (simp <;> omega)) _ | refine Below.setCell ?_ (by have hq_ := B3.out.size; first | omega | (simp <;> omega)) _)) b4 (by have hq_ := B3.out.size; first | omega | (simp <;> omega))); clear b4)
        | (go_at_call 11; clear tk_c; refine (toRS_any _ (HR.out.below B4.out) HN.out hl).mono ?_; rintro e w5 ⟨rfl, o5, b5⟩; have O5 := Hf.mk (irow_own H4.out o5); have O6 := Hf.mk (O4.out.below b5); have B5 := Hb.mk (Below.on (B := w.heap.size) (a := w) (by repeat (first | exact B4.out | refine Below.drews ?_ | refine Below.drew ?_ | refine Below.alloc ?_ (by have hq_ := B4.out.size; first | omega | (simp <;> omega)) _ | refine Below.setCell ?_ (by have hq_ := B4.out.size; first | omega | (simp <;> omega)) _)) b5 (by have hq_ := B4.out.size; first | omega | (simp <;> omega))); clear o5 b5)
        | (go_at_call 13; refine (eqRS_any _ O6.out O5.out HN.out hl).mono ?_; rintro e w6 ⟨rfl, b6⟩; have B6 := Hb.mk (Below.on (B := w.heap.size) (a := w) (by repeat (first | exact B5.out | refine Below.drews ?_ | refine Below.drew ?_ | refine Below.alloc ?_ (by have hq_ := B5.out.size; first | omega | (simp <;> omega)) _ | refine Below.setCell ?_ (by have hq_ := B5.out.size; first | omega | (simp <;> omega)) _)) b6 (by have hq_ := B5.out.size; first | omega | (simp <;> omega))); clear b6))
      go_ret
      exact ⟨rfl, (by repeat (first | exact Below.refl _ _ | exact B6.out | refine Below.drews ?_ | refine Below.drew ?_ | refine Below.alloc ?_ (by first | omega | (simp <;> omega)) _ | refine Below.setCell ?_ (by first | omega | (simp <;> omega)) _))⟩
  · have KZ := Hf.mk (szRS_no (a := a) (cap := cap) (n := n) (by omega) hm)
    go_enter Try.func3, Try.ntmps3
    go_wp2_with (first | (go_at_call 9; refine (KZ.out _).mono ?_; rintro e w' ⟨rfl, n0, rfl⟩))
    go_ret
    exact ⟨rfl, (by repeat (first | exact Below.refl _ _ | with_reducible assumption | refine Below.drews ?_ | refine Below.drew ?_ | refine Below.alloc ?_ (by simp <;> omega) _ | refine Below.setCell ?_ (by simp <;> omega) _))⟩
end Go.Proofs.Ytconlpgifkknmab
