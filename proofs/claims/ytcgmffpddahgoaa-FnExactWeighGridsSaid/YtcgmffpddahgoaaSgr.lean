/-
  SameGrid, of the program and of the model. No premise beyond those named.
-/
import Derived.Test.YtcgmffpddahgoaaSlp
import Derived.Test.YtcgmffpddahgoaaIdx
namespace Go.Proofs.Ytcgmffpddahgoaa
open Go Go.RowKit
set_option maxRecDepth 100000

theorem quiet_nott {P : Program} {ops : Array Oper} {C : World → Prop} {o : Oper} {rest : List Oper} {Q : Act → Prop} {a : Act} (h : Region.wanted o (yielded ops a.tmps) = false) (hk : wpQuiet P ops C Q rest (a.put o.dst undef)) : wpQuiet P ops C Q (o :: rest) a :=
  wpQuiet_step fun K hK => by rw [h, if_neg Bool.false_ne_true]; exact hK _ hk
/-- whether the first n numbers are the same -/
def sameA (n : Nat) (f h : Nat → Nat) : Bool := (List.range n).all (fun j => (f j : Int) == (h j : Int))
theorem sameA_no {n j : Nat} {f h : Nat → Nat} (hj : j < n) (hv : ((f j : Int) == (h j : Int)) = false) : sameA n f h = false := by
  unfold sameA
  rw [List.all_eq_false]
  exact ⟨j, List.mem_range.2 hj, by rw [hv]; decide⟩
theorem sameA_yes {n : Nat} {f h : Nat → Nat} (hv : ∀ j, j < n → ((f j : Int) == (h j : Int)) = true) : sameA n f h = true := by
  unfold sameA
  rw [List.all_eq_true]
  exact fun j hj => hv j (List.mem_range.1 hj)
def sameL (n m : Nat) (f h : Nat → Nat) : Bool := decide (n = m) && sameA n f h
def sameG (wd hg wd' hg' : Int) (n m : Nat) (f h : Nat → Nat) : Bool := (wd == wd' && hg == hg') && sameL n m f h
theorem succ_fact {p : Nat → Prop} {m : Nat} (h : ∀ i, i < m → p i) (h2 : p m) : ∀ i, i < m + 1 → p i := by
  intro i hi
  by_cases e : i = m
  · subst e; exact h2
  · exact h i (by omega)
set_option maxHeartbeats 4000000 in
theorem l01SameAll_any {g1 g2 n m k1 k2 : Nat} {f h : Nat → Nat} (w : World) (h1 : Told w g1 n f) (h2 : Told w g2 m h) (hl : n ≤ 1048576) (hl2 : m ≤ 1048576) : Calls Try.prog 118 #[sl g1 n k1, sl g2 m k2] w (RB (sameL n m f h) w) := by
  have H1 := Hf.mk h1
  have H2 := Hf.mk h2
  clear h1 h2
  by_cases hnm : n = m
  · subst hnm
    have KV := Keep.mk (show sameL n n f h = sameA n f h by unfold sameL; rw [decide_eq_true rfl, Bool.true_and])
    go_enter Try.func118, Try.ntmps118
    go_wp2
    go_loopw [5] (fun i wr => ∃ c : Nat, c ≤ n ∧ i = .int .i64 c ∧ Hf (∀ j, j < c → ((f j : Int) == (h j : Int)) = true) ∧ Drew w wr) (fun i _ => n - (intOf i).toNat)
    case atStart => exact ⟨0, by omega, rfl, ⟨fun j hj => absurd hj (Nat.not_lt_zero j)⟩, (by repeat (first | exact Drew.refl _ | refine Drew.more ?_))⟩
    case round =>
      obtain ⟨c, hc, rfl, ht, q, rfl⟩ := hrel
      by_cases hlt : c < n
      · obtain ⟨r1, c1, q1⟩ := H1.out c hlt
        obtain ⟨r2, c2, q2⟩ := H2.out c hlt
        have KC := Hf.mk (fun w => l01Same_any q1 q2 w)
        cases hv : ((f c : Int) == (h c : Int))
        · rw [hv] at KC
          have HN := Hf.mk (sameA_no hlt hv)
          clear hv
          go_wp2
          go_quiet ((first | (go_at_call 143; exact quiet_of2 (KC.out _))))
          go_wp2
          go_ret
          rw [KV.out, HN.out]
          exact RB.any rfl (by repeat (first | exact Drew.refl _ | refine Drew.more ?_))
        · rw [hv] at KC
          have HY := Hf.mk (succ_fact ht.out hv)
          clear hv
          go_wp2
          go_quiet ((first | (go_at_call 143; exact quiet_of2 (KC.out _))))
          go_wp2
          go_roundw
          case rel => exact ⟨c + 1, by omega, i_ext2 (by omega), HY, (by repeat (first | exact Drew.refl _ | refine Drew.more ?_))⟩
          case measure => simp [intOf]; omega
      · obtain rfl : c = n := by omega
        have HY := Hf.mk (sameA_yes ht.out)
        go_wp2
        go_ret
        rw [KV.out, HY.out]
        exact RB.any rfl (by repeat (first | exact Drew.refl _ | refine Drew.more ?_))
  · have KV := Keep.mk (show sameL n m f h = false by unfold sameL; rw [decide_eq_false hnm, Bool.false_and])
    have hb : ((n : Int) != (m : Int)) = true := by simp; omega
    go_enter Try.func118, Try.ntmps118
    go_wp2
    go_ret
    rw [KV.out]
    exact RB.any rfl (by repeat (first | exact Drew.refl _ | refine Drew.more ?_))
theorem bne_of {a b : Int} (h : ¬ a = b) : (a == b) = false := by simp [h]
set_option maxHeartbeats 4000000 in
theorem l06Same_any {b1 b2 g1 g2 n m k1 k2 : Nat} {wd hg wd' hg' : Int} {f h : Nat → Nat} (w : World) (c0 : w.cell? ⟨b1, 0, none⟩ = some (.int .i64 wd)) (c1 : w.cell? ⟨b1, 1, none⟩ = some (.int .i64 hg)) (c2 : w.cell? ⟨b1, 2, none⟩ = some (sl g1 n k1)) (d0 : w.cell? ⟨b2, 0, none⟩ = some (.int .i64 wd')) (d1 : w.cell? ⟨b2, 1, none⟩ = some (.int .i64 hg')) (d2 : w.cell? ⟨b2, 2, none⟩ = some (sl g2 m k2)) (h1 : Told w g1 n f) (h2 : Told w g2 m h) (hl : n ≤ 1048576) (hl2 : m ≤ 1048576) : Calls Try.prog 86 #[.pointer (some ⟨b1, 0, none⟩), .pointer (some ⟨b2, 0, none⟩)] w (RB (sameG wd hg wd' hg' n m f h) w) := by
  have KC := Hf.mk (fun w (h1 : Told w g1 n f) (h2 : Told w g2 m h) => l01SameAll_any (k1 := k1) (k2 := k2) w h1 h2 hl hl2)
  have H1 := Hf.mk h1
  have H2 := Hf.mk h2
  clear h1 h2
  by_cases ha : wd = wd'
  · by_cases hb : hg = hg'
    · have KV := Keep.mk (show sameG wd hg wd' hg' n m f h = sameL n m f h by unfold sameG; rw [ha, hb]; simp)
      subst ha
      subst hb
      cases hv : sameL n m f h
      all_goals
        rw [hv] at KC KV
        clear hv
        go_enter Try.func86, Try.ntmps86
        go_wp2
        go_quiet ((first | (go_at_call 118; exact Calls.quiet_of (KC.out _ (H1.out.drew _) (H2.out.drew _)))))
        go_wp2
        go_ret
        rw [KV.out]
        exact RB.any rfl (by repeat (first | exact Drew.refl _ | refine Drew.more ?_))
    · have hbf := bne_of hb
      have KV := Keep.mk (show sameG wd hg wd' hg' n m f h = false by unfold sameG; rw [hbf, Bool.and_false, Bool.false_and])
      subst ha
      go_enter Try.func86, Try.ntmps86
      go_wp2
      go_quiet (fail)
      go_wp2
      go_ret
      rw [KV.out]
      exact RB.any rfl (by repeat (first | exact Drew.refl _ | refine Drew.more ?_))
  · have haf := bne_of ha
    have KV := Keep.mk (show sameG wd hg wd' hg' n m f h = false by unfold sameG; rw [haf, Bool.false_and, Bool.false_and])
    go_enter Try.func86, Try.ntmps86
    go_wp2
    go_quiet (fail)
    go_wp2
    go_ret
    rw [KV.out]
    exact RB.any rfl (by repeat (first | exact Drew.refl _ | refine Drew.more ?_))
theorem sSame_any {g1 g2 n m k1 k2 : Nat} {wd hg wd' hg' : Int} {f h : Nat → Nat} (w : World) (h1 : Told w g1 n f) (h2 : Told w g2 m h) (hl : n ≤ 1048576) (hl2 : m ≤ 1048576) : Calls Try.prog 34 #[gd wd hg (sl g1 n k1), gd wd' hg' (sl g2 m k2)] w (RS (.bool (sameG wd hg wd' hg' n m f h)) w) := by
  have H1 := Hf.mk h1
  have H2 := Hf.mk h2
  clear h1 h2
  go_enter Try.func34, Try.ntmps34
  go_wp2_with (first | (go_at_call 86; refine (l06Same_any (wd := wd) (hg := hg) (wd' := wd') (hg' := hg') (k1 := k1) (k2 := k2) _ (by simp) (by simp) (by simp) (by simp) (by simp) (by simp) (H1.out.below (by repeat (first | exact Below.refl _ _ | with_reducible assumption | refine Below.drews ?_ | refine Below.drew ?_ | refine Below.alloc ?_ (by simp <;> omega) _ | refine Below.setCell ?_ (by simp <;> omega) _))) (H2.out.below (by repeat (first | exact Below.refl _ _ | with_reducible assumption | refine Below.drews ?_ | refine Below.drew ?_ | refine Below.alloc ?_ (by simp <;> omega) _ | refine Below.setCell ?_ (by simp <;> omega) _))) hl hl2).mono ?_; rintro e w' ⟨rfl, q0, rfl⟩))
  go_ret
  exact ⟨rfl, (by repeat (first | exact Below.refl _ _ | with_reducible assumption | refine Below.drews ?_ | refine Below.drew ?_ | refine Below.alloc ?_ (by simp <;> omega) _ | refine Below.setCell ?_ (by simp <;> omega) _))⟩
set_option maxHeartbeats 4000000 in
theorem eqFunc_any {g1 g2 n m k1 k2 : Nat} {f h : Nat → Nat} (w : World) (h1 : Told w g1 n f) (h2 : Told w g2 m h) (hl : n ≤ 1048576) (hl2 : m ≤ 1048576) : Calls Try.prog 73 #[sl g1 n k1, sl g2 m k2, .func (.func 74) #[] #[]] w (RB (sameL n m f h) w) := by
  have H1 := Hf.mk h1
  have H2 := Hf.mk h2
  clear h1 h2
  by_cases hnm : n = m
  · subst hnm
    have KV := Keep.mk (show sameL n n f h = sameA n f h by unfold sameL; rw [decide_eq_true rfl, Bool.true_and])
    go_enter Try.func73, Try.ntmps73
    go_wp2
    go_loopw [17] (fun i wr => ∃ c : Nat, c ≤ n ∧ i = .int .i64 c ∧ Hf (∀ j, j < c → ((f j : Int) == (h j : Int)) = true) ∧ Drew w wr) (fun i _ => n - (intOf i).toNat)
    case atStart => exact ⟨0, by omega, rfl, ⟨fun j hj => absurd hj (Nat.not_lt_zero j)⟩, (by repeat (first | exact Drew.refl _ | refine Drew.more ?_))⟩
    case round =>
      obtain ⟨c, hc, rfl, ht, q, rfl⟩ := hrel
      by_cases hlt : c < n
      · obtain ⟨r1, c1, q1⟩ := H1.out c hlt
        obtain ⟨r2, c2, q2⟩ := H2.out c hlt
        have KC := Hf.mk (fun w => iSameNumber_any q1 q2 w)
        cases hv : ((f c : Int) == (h c : Int))
        · rw [hv] at KC
          have HN := Hf.mk (sameA_no hlt hv)
          clear hv
          go_wp2_with (first | (go_at_call 74; refine (KC.out _).mono ?_; rintro e w' ⟨rfl, q3, rfl⟩))
          go_ret
          rw [KV.out, HN.out]
          exact RB.any rfl (by repeat (first | exact Drew.refl _ | refine Drew.more ?_))
        · rw [hv] at KC
          have HY := Hf.mk (succ_fact ht.out hv)
          clear hv
          go_wp2_with (first | (go_at_call 74; refine (KC.out _).mono ?_; rintro e w' ⟨rfl, q3, rfl⟩))
          go_roundw
          case rel => exact ⟨c + 1, by omega, i_ext2 (by omega), HY, (by repeat (first | exact Drew.refl _ | refine Drew.more ?_))⟩
          case measure => simp [intOf]; omega
      · obtain rfl : c = n := by omega
        have HY := Hf.mk (sameA_yes ht.out)
        go_wp2
        go_ret
        rw [KV.out, HY.out]
        exact RB.any rfl (by repeat (first | exact Drew.refl _ | refine Drew.more ?_))
  · have KV := Keep.mk (show sameL n m f h = false by unfold sameL; rw [decide_eq_false hnm, Bool.false_and])
    have hb : ((n : Int) != (m : Int)) = true := by simp; omega
    go_enter Try.func73, Try.ntmps73
    go_wp2
    go_ret
    rw [KV.out]
    exact RB.any rfl (by repeat (first | exact Drew.refl _ | refine Drew.more ?_))
set_option maxHeartbeats 4000000 in
theorem iSame_any {g1 g2 n m k1 k2 : Nat} {wd hg wd' hg' : Int} {f h : Nat → Nat} (w : World) (h1 : Told w g1 n f) (h2 : Told w g2 m h) (hl : n ≤ 1048576) (hl2 : m ≤ 1048576) : Calls Try.prog 26 #[gd wd hg (sl g1 n k1), gd wd' hg' (sl g2 m k2)] w (RS (.bool (sameG wd hg wd' hg' n m f h)) w) := by
  have KC := Hf.mk (fun w (h1 : Told w g1 n f) (h2 : Told w g2 m h) => eqFunc_any (k1 := k1) (k2 := k2) w h1 h2 hl hl2)
  have H1 := Hf.mk h1
  have H2 := Hf.mk h2
  have B0 := Hb.mk (Below.refl w.heap.size w)
  clear h1 h2
  by_cases ha : (wd == wd' && hg == hg') = true
  · have KV := Keep.mk (show sameG wd hg wd' hg' n m f h = sameL n m f h by unfold sameG; rw [ha, Bool.true_and])
    rw [Bool.and_eq_true, beq_iff_eq, beq_iff_eq] at ha
    obtain ⟨rfl, rfl⟩ := ha
    cases hv : sameL n m f h
    all_goals
      rw [hv] at KC KV
      clear hv
      go_enter Try.func26, Try.ntmps26
      go_wp2
      refine region_all (by kernel_rfl) (by kernel_rfl) (fun I F hne HB hcl => ?_)
      have p0 := keepF HB (p := ⟨w.heap.size, 0, none⟩) (v := .int .i64 wd) (by simp [go_sem])
      have p1 := keepF HB (p := ⟨w.heap.size, 1, none⟩) (v := .int .i64 hg) (by simp [go_sem])
      have p2 := keepF HB (p := ⟨w.heap.size, 2, none⟩) (v := sl g1 n k1) (by simp [go_sem])
      have p3 := keepF HB (p := ⟨w.heap.size + 1, 0, none⟩) (v := .int .i64 wd) (by simp [go_sem])
      have p4 := keepF HB (p := ⟨w.heap.size + 1, 1, none⟩) (v := .int .i64 hg) (by simp [go_sem])
      have p5 := keepF HB (p := ⟨w.heap.size + 1, 2, none⟩) (v := sl g2 m k2) (by simp [go_sem])
      have T1 := Hf.mk (fun i => (H1.out.below ((B0.out.alloc (Nat.le_refl _) _).alloc (by simp) _)).below (HB.out i))
      have T2 := Hf.mk (fun i => (H2.out.below ((B0.out.alloc (Nat.le_refl _) _).alloc (by simp) _)).below (HB.out i))
      repeat (quiet_step (first | (go_at_call 72; exact callS hcl (sides_any _ _ _ _)) | (go_at_call 73; exact callD hcl (KC.out _ (T1.out _) (T2.out _)))))
      refine wpQuiet_nil ?_
      intro _ hw'
      obtain ⟨iq, rfl⟩ := hw'
      clear hcl
      have E1 := Hb.mk (HB.out iq)
      go_wp2
      go_ret
      rw [KV.out]
      exact ⟨rfl, (by repeat (first | exact Below.refl _ _ | refine Below.on ?_ E1.out (by first | omega | (simp <;> omega)) | refine Below.drews ?_ | refine Below.drew ?_ | refine Below.alloc ?_ (by first | omega | (simp <;> omega)) _ | refine Below.setCell ?_ (by first | omega | (simp <;> omega)) _))⟩
  · have hf : (wd == wd' && hg == hg') = false := by simpa using ha
    have KV := Keep.mk (show sameG wd hg wd' hg' n m f h = false by unfold sameG; rw [hf, Bool.false_and])
    clear ha
    by_cases hw : wd = wd'
    · subst hw
      have hh : ¬ hg = hg' := by rintro rfl; simp at hf
      clear hf
      go_enter Try.func26, Try.ntmps26
      go_wp2
      refine region_all (by kernel_rfl) (by kernel_rfl) (fun I F hne HB hcl => ?_)
      have p0 := keepF HB (p := ⟨w.heap.size, 0, none⟩) (v := .int .i64 wd) (by simp [go_sem])
      have p1 := keepF HB (p := ⟨w.heap.size, 1, none⟩) (v := .int .i64 hg) (by simp [go_sem])
      have p2 := keepF HB (p := ⟨w.heap.size, 2, none⟩) (v := sl g1 n k1) (by simp [go_sem])
      have p3 := keepF HB (p := ⟨w.heap.size + 1, 0, none⟩) (v := .int .i64 wd) (by simp [go_sem])
      have p4 := keepF HB (p := ⟨w.heap.size + 1, 1, none⟩) (v := .int .i64 hg') (by simp [go_sem])
      have p5 := keepF HB (p := ⟨w.heap.size + 1, 2, none⟩) (v := sl g2 m k2) (by simp [go_sem])
      iterate 6 (quiet_step (first | (go_at_call 72; exact callS hcl (sides_any _ _ _ _))))
      iterate 5 (with_reducible refine quiet_nott (by kernel_rfl) ?_)
      iterate 2 (quiet_step (fail))
      refine wpQuiet_nil ?_
      intro _ hw'
      obtain ⟨iq, rfl⟩ := hw'
      clear hcl
      have E1 := Hb.mk (HB.out iq)
      go_wp2
      go_ret
      rw [KV.out]
      exact ⟨rfl, (by repeat (first | exact Below.refl _ _ | refine Below.on ?_ E1.out (by first | omega | (simp <;> omega)) | refine Below.drews ?_ | refine Below.drew ?_ | refine Below.alloc ?_ (by first | omega | (simp <;> omega)) _ | refine Below.setCell ?_ (by first | omega | (simp <;> omega)) _))⟩
    · clear hf
      go_enter Try.func26, Try.ntmps26
      go_wp2
      refine region_all (by kernel_rfl) (by kernel_rfl) (fun I F hne HB hcl => ?_)
      have p0 := keepF HB (p := ⟨w.heap.size, 0, none⟩) (v := .int .i64 wd) (by simp [go_sem])
      have p1 := keepF HB (p := ⟨w.heap.size, 1, none⟩) (v := .int .i64 hg) (by simp [go_sem])
      have p2 := keepF HB (p := ⟨w.heap.size, 2, none⟩) (v := sl g1 n k1) (by simp [go_sem])
      have p3 := keepF HB (p := ⟨w.heap.size + 1, 0, none⟩) (v := .int .i64 wd') (by simp [go_sem])
      have p4 := keepF HB (p := ⟨w.heap.size + 1, 1, none⟩) (v := .int .i64 hg') (by simp [go_sem])
      have p5 := keepF HB (p := ⟨w.heap.size + 1, 2, none⟩) (v := sl g2 m k2) (by simp [go_sem])
      iterate 6 (quiet_step (first | (go_at_call 72; exact callS hcl (sides_any _ _ _ _))))
      iterate 5 (with_reducible refine quiet_nott (by kernel_rfl) ?_)
      iterate 2 (quiet_step (fail))
      refine wpQuiet_nil ?_
      intro _ hw'
      obtain ⟨iq, rfl⟩ := hw'
      clear hcl
      have E1 := Hb.mk (HB.out iq)
      go_wp2
      go_ret
      rw [KV.out]
      exact ⟨rfl, (by repeat (first | exact Below.refl _ _ | refine Below.on ?_ E1.out (by first | omega | (simp <;> omega)) | refine Below.drews ?_ | refine Below.drew ?_ | refine Below.alloc ?_ (by first | omega | (simp <;> omega)) _ | refine Below.setCell ?_ (by first | omega | (simp <;> omega)) _))⟩
end Go.Proofs.Ytcgmffpddahgoaa
