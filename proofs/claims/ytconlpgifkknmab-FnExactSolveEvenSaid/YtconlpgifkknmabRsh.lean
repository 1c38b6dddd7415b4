/-
  Rounds of rises whose miss is shared: ShareMiss, of the program and of the model. No premise beyond those named.
-/
import Derived.Test.YtconlpgifkknmabRim
import Derived.Laws.AppendOwn
namespace Go.Proofs.Ytconlpgifkknmab
open Go Go.RowKit
set_option maxRecDepth 100000

def sumL (xs : List Int) : Nat → Int
  | 0 => 0
  | m + 1 => sumL xs m + lR xs m
/-- a quotient, rounded down -/
def qdn (a b : Int) : Int := if a.tmod b < 0 then a.tdiv b - 1 else a.tdiv b
def tkn (xs : List Int) (n m : Nat) : Int := qdn (sumS xs n * sumL xs m) (sumL xs n)
def nwS (xs : List Int) (n m : Nat) : Int := sR xs m - (tkn xs n (m + 1) - tkn xs n m)
/-- the rises, the first m of which have their new numbers -/
def mxL (xs : List Int) (n m : Nat) : List Int := (List.range (4 * n)).map fun j => if j % 4 = 2 ∧ j / 4 < m then nwS xs n (j / 4) else xs.getD j 0
theorem mxL_len (xs : List Int) (n m : Nat) : (mxL xs n m).length = 4 * n := by simp [mxL]
theorem mxL_at {xs : List Int} {n m j : Nat} (hj : j < 4 * n) : (mxL xs n m).getD j 0 = if j % 4 = 2 ∧ j / 4 < m then nwS xs n (j / 4) else xs.getD j 0 := by
  simp [mxL, List.getD, hj]
theorem mxL_zero {xs : List Int} {n : Nat} (hn : xs.length = 4 * n) : mxL xs n 0 = xs := by
  apply List.ext_getElem
  · rw [mxL_len, hn]
  · intro j h1 h2
    simp [mxL, List.getD, h2]
theorem ils_at {xs : List Int} {j : Nat} (h : j < xs.length) : (ils xs)[j]? = some (.int .i64 (xs.getD j 0)) := by
  simp [ils, List.getElem?_map, List.getElem?_eq_getElem h]
theorem mxL_set {xs : List Int} {n m : Nat} : (ils (mxL xs n m)).set (m * 4 + 2) (.int .i64 (nwS xs n m)) = ils (mxL xs n (m + 1)) := by
  apply List.ext_getElem?
  intro j
  by_cases hj : j < 4 * n
  · rw [ils_at (by rw [mxL_len]; exact hj), mxL_at hj]
    by_cases he : j = m * 4 + 2
    · subst he
      rw [List.getElem?_set_self (by simp [ils, mxL_len]; omega), if_pos (by omega), show (m * 4 + 2) / 4 = m by omega]
    · rw [List.getElem?_set_ne (by omega), ils_at (by rw [mxL_len]; exact hj), mxL_at hj]
      by_cases h1 : j % 4 = 2 ∧ j / 4 < m
      · rw [if_pos h1, if_pos (by omega)]
      · rw [if_neg h1, if_neg (by omega)]
  · rw [List.getElem?_eq_none (by simp [ils, mxL_len]; omega), List.getElem?_eq_none (by simp [ils, mxL_len]; omega)]
theorem mul_bd {a b A B : Int} (h1 : -A ≤ a) (h2 : a ≤ A) (h3 : 0 ≤ b) (h4 : b ≤ B) (h5 : 0 ≤ A) : -(A * B) ≤ a * b ∧ a * b ≤ A * B := by
  have k1 := Int.mul_le_mul_of_nonneg_right h2 h3
  have k2 := Int.mul_le_mul_of_nonneg_left h4 h5
  have k3 := Int.mul_le_mul_of_nonneg_right h1 h3
  rw [Int.neg_mul] at k3
  omega
theorem tdiv_bd {a b A : Int} (h1 : -A ≤ a) (h2 : a ≤ A) : -A ≤ a.tdiv b ∧ a.tdiv b ≤ A := by
  have h := Int.natAbs_tdiv a b
  have k : a.natAbs.div b.natAbs ≤ a.natAbs := Nat.div_le_self _ _
  omega
theorem qdn_bd {a b A : Int} (h1 : -A ≤ a) (h2 : a ≤ A) : -A - 1 ≤ qdn a b ∧ qdn a b ≤ A := by
  have h := tdiv_bd (b := b) h1 h2
  unfold qdn
  split <;> omega
theorem lR_bd {xs : List Int} {n m : Nat} (h : areR xs n 32 = true) (hm : m < n) : 1 ≤ lR xs m ∧ lR xs m ≤ 10000000 := by
  obtain ⟨_, _, _, _, _, _, _, h3, h4⟩ := ris_of ((areR_of h).2 m hm)
  exact ⟨h3, h4⟩
theorem sumL_bd {xs : List Int} {n : Nat} (h : areR xs n 32 = true) : ∀ m, m ≤ n → (m : Int) ≤ sumL xs m ∧ sumL xs m ≤ 10000000 * (m : Int) := by
  intro m
  induction m with
  | zero => intro _; unfold sumL; omega
  | succ m ih =>
    intro hm
    obtain ⟨h1, h2⟩ := ih (by omega)
    obtain ⟨h3, h4⟩ := lR_bd h (show m < n by omega)
    unfold sumL
    omega
theorem prod_bd {xs : List Int} {n : Nat} (h : areR xs n 32 = true) {m : Nat} (hm : m ≤ n) : -102400000000000000 ≤ sumS xs n * sumL xs m ∧ sumS xs n * sumL xs m ≤ 102400000000000000 := by
  have h32 := (areR_of h).1
  obtain ⟨a1, a2⟩ := sumS_bd h n (Nat.le_refl _)
  obtain ⟨b1, b2⟩ := sumL_bd h m hm
  have := mul_bd (A := 320000000) (B := 320000000) (a := sumS xs n) (b := sumL xs m) (by omega) (by omega) (by omega) (by omega) (by omega)
  omega
theorem tkn_bd {xs : List Int} {n : Nat} (h : areR xs n 32 = true) {m : Nat} (hm : m ≤ n) : -102400000000000001 ≤ tkn xs n m ∧ tkn xs n m ≤ 102400000000000000 := by
  obtain ⟨h1, h2⟩ := prod_bd h hm
  have := qdn_bd (b := sumL xs n) h1 h2
  unfold tkn
  omega
theorem tkn_zero {xs : List Int} {n : Nat} : tkn xs n 0 = 0 := by unfold tkn sumL qdn; simp
theorem l05Floor_any {a b : Int} (h1 : -102400000000000000 ≤ a) (h2 : a ≤ 102400000000000000) (h3 : 1 ≤ b) (h4 : b ≤ 320000000) (w : World) : Calls Try.prog 43 #[.int .i64 a, .int .i64 b] w (RI .i64 (qdn a b) w) := by
  obtain ⟨k1, k2⟩ := tdiv_bd (b := b) h1 h2
  by_cases hq : a.tmod b < 0
  · have KQ := Keep.mk (show qdn a b = a.tdiv b - 1 by unfold qdn; rw [if_pos hq])
    go_enter Try.func43, Try.ntmps43
    go_wp2
    go_ret
    rw [KQ.out]
    exact RI.any rfl (by repeat (first | exact Drew.refl _ | refine Drew.more ?_))
  · have KQ := Keep.mk (show qdn a b = a.tdiv b by unfold qdn; rw [if_neg hq])
    go_enter Try.func43, Try.ntmps43
    go_wp2
    go_ret
    rw [KQ.out]
    exact RI.any rfl (by repeat (first | exact Drew.refl _ | refine Drew.more ?_))
theorem quotientDown_any {a b : Int} (h1 : -102400000000000000 ≤ a) (h2 : a ≤ 102400000000000000) (h3 : 1 ≤ b) (h4 : b ≤ 320000000) (w : World) : Calls Try.prog 45 #[.int .i64 a, .int .i64 b] w (RI .i64 (qdn a b) w) := by
  obtain ⟨k1, k2⟩ := tdiv_bd (b := b) h1 h2
  by_cases hq : a.tmod b < 0
  · have KQ := Keep.mk (show qdn a b = a.tdiv b - 1 by unfold qdn; rw [if_pos hq])
    go_enter Try.func45, Try.ntmps45
    go_wp2
    go_ret
    rw [KQ.out]
    exact RI.any rfl (by repeat (first | exact Drew.refl _ | refine Drew.more ?_))
  · have KQ := Keep.mk (show qdn a b = a.tdiv b by unfold qdn; rw [if_neg hq])
    go_enter Try.func45, Try.ntmps45
    go_wp2
    go_ret
    rw [KQ.out]
    exact RI.any rfl (by repeat (first | exact Drew.refl _ | refine Drew.more ?_))
theorem IRow.cells {w : World} {g : Nat} {xs : List Int} (h : IRow w (some ⟨g, 0, none⟩) xs) : ∀ j u, (ils xs)[j]? = some u → w.cell? ((⟨g, 0, none⟩ : Addr).add j) = some u := by
  intro j u hu
  have hj : j < xs.length := by
    have := (List.getElem?_eq_some_iff.1 hu).1
    simpa [ils] using this
  obtain ⟨p, hp, hc⟩ := h j hj
  obtain rfl := Option.some.inj hp
  rw [hc, ← hu, ils_at hj]
theorem ils_one {xs : List Int} : ∀ u ∈ ils xs, u.oneCell' = true := by
  intro u hu
  simp only [ils, List.mem_map] at hu
  obtain ⟨x, _, rfl⟩ := hu
  rfl
theorem own_sh {w : World} {base : Nat} {e : TypeId} {size : Nat} {v : Value} {n : Nat} {xs : List Value} (h : w.ownsRow base e size v n xs) (h0 : 0 < n) : ∃ g cap, v = .slice (some ⟨g, 0, none⟩) n cap ∧ n ≤ cap ∧ cap ≤ maxLen ∧ base ≤ g ∧ g < w.heap.size := by
  obtain ⟨_, h2⟩ := h
  rcases h2 with ⟨_, hz⟩ | ⟨g, cap, cur, hv, hg, hh, hn, hc, _⟩
  · omega
  · exact ⟨g, cap, hv, hn, hc, hg, (Array.getElem?_eq_some_iff.1 hh).1⟩
theorem own_als {w : World} {base : Nat} {e : TypeId} {size g n cap : Nat} {xs : List Value} (h : w.ownsRow base e size (.slice (some ⟨g, 0, none⟩) n cap) n xs) (o : Obj) (q j : Nat) (u : Value) : (((w.alloc o).drewN q).setCell ⟨g, j, none⟩ u).ownsRow base e size (.slice (some ⟨g, 0, none⟩) n cap) n (xs.set j u) :=
  ((iown_below h (w' := (w.alloc o).drewN q) (Below.drews ((Below.refl _ _).alloc (Nat.le_refl _) _))).stored j u).1
theorem cloneR_any {g n k : Nat} {xs : List Int} (w : World) (hr : IRow w (some ⟨g, 0, none⟩) xs) (hn : xs.length = 4 * n) (hl : n ≤ 1048576) (h0 : 0 < n) : Calls Try.prog 44 #[.slice (some ⟨g, 0, none⟩) n k] w (fun e w' => ∃ gc cap, e = .returned (.slice (some ⟨gc, 0, none⟩) n cap) ∧ w.heap.size ≤ gc ∧ gc < w'.heap.size ∧ w'.ownsRow w.heap.size 52 4 (.slice (some ⟨gc, 0, none⟩) n cap) n (ils xs) ∧ Below w.heap.size w w') := by
  obtain ⟨i0, hi, hz0, hz1, hz2⟩ := info_parts (P := Try.prog) (e := 52) (z := ri 0 0 0 0) (size := 4) (bytes := 32) (by kernel_rfl)
  have HR := Hf.mk hr
  have HN := Hf.mk hn
  clear hr hn
  go_enter Try.func44, Try.ntmps44
  have he : ∀ w : World, (binOp .eql 25 (.slice (some ⟨g, 0, none⟩) n k) (.slice none 0 0)).run Try.prog w = .ok (.bool false) w := fun _ => rfl
  go_wp2_with (at_builtin; refine wpList_append_own _ rfl _ _ 25 rfl w.heap.size 52 i0 (ri 0 0 0 0) 4 32 Try.underlying25 hi hz0 hz1 hz2 rfl (by decide) _ 0 [] rfl (World.ownsRow_made _ _ _ (Nat.le_refl _) (by decide) rfl) ⟨g, 0, none⟩ n k (ils xs) rfl (by simp [ils, HN.out]; omega) (fun j u hu => (HR.out.below (by repeat (first | exact Below.refl _ _ | with_reducible assumption | refine Below.drews ?_ | refine Below.drew ?_ | refine Below.alloc ?_ (by simp <;> omega) _ | refine Below.setCell ?_ (by simp <;> omega) _))).cells j u hu) ils_one (by unfold maxLen; omega) (by omega) (by simp) ?_; intro v' w3 hown' hgrow3 hnil3)
  go_ret
  simp only [Nat.zero_add, List.nil_append] at hown'
  obtain ⟨gc, cap, rfl, hc1, _, hc2, hc3⟩ := own_sh hown' h0
  exact ⟨gc, cap, rfl, hc2, hc3, hown', Below.grown (by repeat (first | exact Below.refl _ _ | with_reducible assumption | refine Below.drews ?_ | refine Below.drew ?_ | refine Below.alloc ?_ (by simp <;> omega) _ | refine Below.setCell ?_ (by simp <;> omega) _)) hgrow3 (by simp) (fun k h => by cases h; exact Nat.le_refl _)⟩
/-- 'returns a new list of rises and true; nothing that was there has been written' -/
def RN (T : TypeId) (xs : List Int) (n : Nat) (w : World) (e : Ending) (w' : World) : Prop := ∃ g cap, e = .returned (.tuple #[.slice (some ⟨g, 0, none⟩) n cap, .bool true]) ∧ w.heap.size ≤ g ∧ g < w'.heap.size ∧ w'.ownsRow w.heap.size T 4 (.slice (some ⟨g, 0, none⟩) n cap) n (ils xs) ∧ Below w.heap.size w w'
set_option maxHeartbeats 4000000 in
theorem sShareMiss_yes {g n k : Nat} {xs : List Int} (w : World) (hr : IRow w (some ⟨g, 0, none⟩) xs) (hn : xs.length = 4 * n) (hl : n ≤ 1048576) (hR : rinB xs n = true) : Calls Try.prog 16 #[.slice (some ⟨g, 0, none⟩) n k] w (RN 52 (mxL xs n n) n w) := by
  obtain ⟨i0, hi, hz0, hz1, hz2⟩ := info_parts (P := Try.prog) (e := 52) (z := ri 0 0 0 0) (size := 4) (bytes := 32) (by kernel_rfl)
  obtain ⟨h1, hA'⟩ := rinB_of hR
  have HI := Hf.mk (l05Ring_any (k := k) w hr hn hl)
  have HS := Hf.mk (fun w' hr' => l05Sum_any (k := k) (g := g) w' hr' hn hA')
  have HR := Hf.mk hr
  have HN := Hf.mk hn
  have HB := Hf.mk hR
  have HA := Hf.mk hA'
  have h32 := (areR_of hA').1
  obtain ⟨ss0, ss1⟩ := sumS_bd hA' n (Nat.le_refl _)
  obtain ⟨sl0, sl1⟩ := sumL_bd hA' n (Nat.le_refl _)
  clear hr hn hR hA'
  go_enter Try.func16, Try.ntmps16
  go_wp2_with (first | (go_at_call 40; refine HI.out.mono ?_; rw [HB.out]; rintro e w' ⟨rfl, q0, rfl⟩) | (go_at_call 41; refine (HS.out _ (HR.out.drew _)).mono ?_; rintro e w' ⟨rfl, q1, rfl⟩))
  go_loopw [19, 5] (fun i s wr => ∃ m : Nat, m ≤ n ∧ i = .int .i64 m ∧ s = .int .i64 (sumL xs m) ∧ Drew w wr) (fun i _ _ => n - (intOf i).toNat)
  case atStart => exact ⟨0, by omega, rfl, rfl, (by repeat (first | exact Drew.refl _ | refine Drew.more ?_))⟩
  case round =>
    obtain ⟨m, hm, rfl, rfl, q, rfl⟩ := hrel
    by_cases hlt : m < n
    · obtain ⟨_, _, _, c3⟩ := HR.out.fourAt HN.out hlt
      obtain ⟨s0, s1⟩ := sumL_bd HA.out m hm
      obtain ⟨t0, t1⟩ := lR_bd HA.out hlt
      have KS := Hf.mk (show sumL xs (m + 1) = sumL xs m + lR xs m from rfl)
      generalize sumL xs m = sm at *
      generalize lR xs m = tm at *
      go_wp2
      go_roundw
      case rel => exact ⟨m + 1, by omega, i_ext2 (by omega), i_ext2 (by rw [KS.out]), (by repeat (first | exact Drew.refl _ | refine Drew.more ?_))⟩
      case measure => simp [intOf]; omega
    · obtain rfl : m = n := by omega
      go_wp2_with (at_builtin; refine wpList_append_own _ rfl _ _ 25 rfl w.heap.size 52 i0 (ri 0 0 0 0) 4 32 Try.underlying25 hi hz0 hz1 hz2 rfl (by decide) _ 0 [] rfl (World.ownsRow_made _ _ _ (by simp) (by decide) rfl) ⟨g, 0, none⟩ m k (ils xs) rfl (by simp [ils, HN.out]; omega) (fun j u hu => (HR.out.below (by repeat (first | exact Below.refl _ _ | with_reducible assumption | refine Below.drews ?_ | refine Below.drew ?_ | refine Below.alloc ?_ (by simp <;> omega) _ | refine Below.setCell ?_ (by simp <;> omega) _))).cells j u hu) ils_one (by unfold maxLen; omega) (by omega) (by simp) ?_; intro v' w3 hown' hgrow3 hnil3; simp only [Nat.zero_add, List.nil_append] at hown'; obtain ⟨gc, cap, rfl, hc1, hcm, hc2, hc3⟩ := own_sh hown' (by omega); have B3 := Hb.mk (Below.grown (by repeat (first | exact Below.refl _ _ | with_reducible assumption | refine Below.drews ?_ | refine Below.drew ?_ | refine Below.alloc ?_ (by simp <;> omega) _ | refine Below.setCell ?_ (by simp <;> omega) _)) hgrow3 (by simp) (fun k h => by cases h; exact Nat.le_refl _) : Below w.heap.size w w3); have O3 := Hf.mk hown'; clear hown' hgrow3 hnil3)
      have T0 := Hf.mk (tkn_zero (xs := xs) (n := m))
      go_loopw [35, 8, 9] (fun i s b wr => ∃ j : Nat, j ≤ m ∧ i = .int .i64 j ∧ s = .int .i64 (sumL xs j) ∧ b = .int .i64 (tkn xs m j) ∧ Hf (wr.ownsRow w.heap.size 52 4 (.slice (some ⟨gc, 0, none⟩) m cap) m (ils (mxL xs m j))) ∧ Hf (Below w.heap.size w wr)) (fun i _ _ _ => m - (intOf i).toNat)
      case atStart => exact ⟨0, by omega, rfl, rfl, i_ext2 T0.out.symm, ⟨by rw [mxL_zero HN.out]; exact O3.out⟩, ⟨B3.out⟩⟩
      case round =>
        obtain ⟨j, hj, rfl, rfl, rfl, ho, hb⟩ := hrel
        by_cases hlt2 : j < m
        · have d2 : wr.cell? ⟨gc, j * 4 + 2, none⟩ = some (.int .i64 (sR xs j)) := by
            rw [ho.out.cellAt (j * 4 + 2) (by omega), ils_at (by rw [mxL_len]; omega), mxL_at (by omega), if_neg (by omega)]; rfl
          have d3 : wr.cell? ⟨gc, j * 4 + 3, none⟩ = some (.int .i64 (lR xs j)) := by
            rw [ho.out.cellAt (j * 4 + 3) (by omega), ils_at (by rw [mxL_len]; omega), mxL_at (by omega), if_neg (by omega)]; rfl
          have z2 := ho.out.frozenAt (j * 4 + 2)
          have lw := block_lt_of_cell d2
          simp at lw
          obtain ⟨p0, p1⟩ := prod_bd HA.out (show j + 1 ≤ m by omega)
          obtain ⟨s0, s1⟩ := sumL_bd HA.out j (by omega)
          obtain ⟨t0, t1⟩ := lR_bd HA.out hlt2
          obtain ⟨u0, u1⟩ := sR_bd HA.out hlt2
          obtain ⟨v0, v1⟩ := tkn_bd HA.out (show j ≤ m by omega)
          obtain ⟨x0, x1⟩ := tkn_bd HA.out (show j + 1 ≤ m by omega)
          have KS := Hf.mk (show sumL xs (j + 1) = sumL xs j + lR xs j from rfl)
          have KN := Hf.mk (show nwS xs m j = sR xs j - (tkn xs m (j + 1) - tkn xs m j) from rfl)
          have KF := Hf.mk (fun w => l05Floor_any p0 p1 (show 1 ≤ sumL xs m by omega) (by omega) w)
          rw [show qdn (sumS xs m * sumL xs (j + 1)) (sumL xs m) = tkn xs m (j + 1) from rfl] at KF
          have KE := Hf.mk (mxL_set (xs := xs) (n := m) (m := j))
          rw [KS.out] at p0 p1 KF
          generalize sumL xs j = sm at *
          generalize lR xs j = tm at *
          generalize sR xs j = um at *
          generalize nwS xs m j = nw at *
          generalize tkn xs m j = ta at *
          generalize hTB : tkn xs m (j + 1) = tb at *
          have KTB := Hf.mk hTB
          clear hTB
          generalize hSN : sumS xs m = sn at *
          have KSN := Hf.mk hSN
          clear hSN
          generalize hLN : sumL xs m = ln at *
          have KLN := Hf.mk hLN
          clear hLN
          go_wp2_with (first | (go_at_call 43; refine (KF.out _).mono ?_; rintro e w' ⟨rfl, q2, rfl⟩))
          go_roundw
          case rel =>
            have hst := (show (wr.drewN q2).ownsRow w.heap.size 52 4 (.slice (some ⟨gc, 0, none⟩) m cap) m (ils (mxL xs m j)) from ho.out).stored (j * 4 + 2) (.int .i64 nw)
            rw [KE.out, KN.out] at hst
            exact ⟨j + 1, by omega, i_ext2 (by omega), i_ext2 KS.out.symm, i_ext2 KTB.out.symm, ⟨hst.1⟩, ⟨Below.setCell (Below.drews hb.out) hc2 _⟩⟩
          case measure => simp [intOf]; omega
        · obtain rfl : j = m := by omega
          go_wp2
          go_ret2
          exact ⟨gc, cap, rfl, hc2, (ho.out.lt gc rfl).2, ho.out, hb.out⟩
theorem sShareMiss_no {g n k : Nat} {xs : List Int} (w : World) (hr : IRow w (some ⟨g, 0, none⟩) xs) (hn : xs.length = 4 * n) (hl : n ≤ 1048576) (hR : rinB xs n = false) : Calls Try.prog 16 #[.slice (some ⟨g, 0, none⟩) n k] w (RT (.tuple #[.slice none 0 0, .bool false]) w) := by
  have HA := Hf.mk (l05Ring_any (k := k) w hr hn hl)
  have HB := Hf.mk hR
  clear hr hn hR
  go_enter Try.func16, Try.ntmps16
  go_wp2_with (first | (go_at_call 40; refine HA.out.mono ?_; rw [HB.out]; rintro e w' ⟨rfl, q0, rfl⟩))
  go_ret2
  exact RT.any (by repeat (first | exact Drew.refl _ | refine Drew.more ?_))
theorem iShareMiss_no {g n k : Nat} {xs : List Int} (w : World) (hr : IRow w (some ⟨g, 0, none⟩) xs) (hn : xs.length = 4 * n) (hl : n ≤ 1048576) (hR : rinB xs n = false) : Calls Try.prog 17 #[.slice (some ⟨g, 0, none⟩) n k] w (RS (.tuple #[.slice none 0 0, .bool false]) w) := by
  have HI := Hf.mk (iRiseMiss_no (k := k) w hr hn hl hR)
  clear hr hn hR
  go_enter Try.func17, Try.ntmps17
  go_wp2_with (first | (go_at_call 15; refine HI.out.mono ?_; rintro e w1 ⟨rfl, b1⟩; have B1 := Hb.mk b1; clear b1))
  go_ret2
  exact ⟨rfl, (by repeat (first | exact Below.refl _ _ | exact B1.out | refine Below.drews ?_ | refine Below.drew ?_ | refine Below.alloc ?_ (by first | omega | (simp <;> omega)) _ | refine Below.setCell ?_ (by first | omega | (simp <;> omega)) _))⟩
set_option maxHeartbeats 4000000 in
theorem iShareMiss_yes {g n k : Nat} {xs : List Int} (w : World) (hr : IRow w (some ⟨g, 0, none⟩) xs) (hn : xs.length = 4 * n) (hl : n ≤ 1048576) (hR : rinB xs n = true) : Calls Try.prog 17 #[.slice (some ⟨g, 0, none⟩) n k] w (RN 52 (mxL xs n n) n w) := by
  obtain ⟨h1, hA'⟩ := rinB_of hR
  have HI := Hf.mk (iRiseMiss_yes (k := k) w hr hn hl hR)
  have HR := Hf.mk hr
  have HN := Hf.mk hn
  have HA := Hf.mk hA'
  have h32 := (areR_of hA').1
  obtain ⟨ss0, ss1⟩ := sumS_bd hA' n (Nat.le_refl _)
  obtain ⟨sl0, sl1⟩ := sumL_bd hA' n (Nat.le_refl _)
  clear hr hn hR hA'
  go_enter Try.func17, Try.ntmps17
  go_wp2_with (first | (go_at_call 15; refine HI.out.mono ?_; rintro e w1 ⟨rfl, b1⟩; have B1 := Hb.mk b1; clear b1))
  go_loopw [24, 6] (fun i s wr => ∃ m : Nat, m ≤ n ∧ i = .int .i64 m ∧ s = .int .i64 (sumL xs m) ∧ Hf (Below w.heap.size w wr)) (fun i _ _ => n - (intOf i).toNat)
  case atStart => exact ⟨0, by omega, rfl, rfl, ⟨(by repeat (first | exact Below.refl _ _ | exact B1.out | refine Below.drews ?_ | refine Below.drew ?_ | refine Below.alloc ?_ (by first | omega | (simp <;> omega)) _ | refine Below.setCell ?_ (by first | omega | (simp <;> omega)) _))⟩⟩
  case round =>
    obtain ⟨m, hm, rfl, rfl, hb⟩ := hrel
    have BR := Hb.mk hb.out
    have sB := BR.out.size
    by_cases hlt : m < n
    · obtain ⟨c0, c1, c2, c3⟩ := (HR.out.below hb.out).fourAt HN.out hlt
      obtain ⟨s0, s1⟩ := sumL_bd HA.out m hm
      obtain ⟨t0, t1⟩ := lR_bd HA.out hlt
      have KS := Hf.mk (show sumL xs (m + 1) = sumL xs m + lR xs m from rfl)
      generalize sumL xs m = sm at *
      generalize lR xs m = tm at *
      go_wp2
      go_roundw
      case rel => exact ⟨m + 1, by omega, i_ext2 (by omega), i_ext2 (by rw [KS.out]), ⟨(by repeat (first | exact Below.refl _ _ | exact BR.out | refine Below.drews ?_ | refine Below.drew ?_ | refine Below.alloc ?_ (by first | omega | (simp <;> omega)) _ | refine Below.setCell ?_ (by first | omega | (simp <;> omega)) _))⟩⟩
      case measure => simp [intOf]; omega
    · obtain rfl : m = n := by omega
      obtain ⟨W1, hW1⟩ : ∃ W1, W1 = wr := ⟨_, rfl⟩
      subst hW1
      go_wp2_with (first | (go_at_call 44; refine (cloneR_any _ (HR.out.below BR.out) HN.out hl (by omega)).mono ?_; rintro e w3 ⟨gc, cap, rfl, hc2, hc3, o3, b3⟩; have O3 := Hf.mk o3; have B3 := Hb.mk (Below.on (B := w.heap.size) (a := w) (by repeat (first | exact BR.out | refine Below.drews ?_ | refine Below.drew ?_ | refine Below.alloc ?_ (by have hq_ := BR.out.size; first | omega | (simp <;> omega)) _ | refine Below.setCell ?_ (by have hq_ := BR.out.size; first | omega | (simp <;> omega)) _)) b3 (by have hq_ := BR.out.size; first | omega | (simp <;> omega))); clear o3 b3))
      have T0 := Hf.mk (tkn_zero (xs := xs) (n := m))
      go_loopw [37, 10, 11] (fun i s b wq => ∃ j : Nat, j ≤ m ∧ i = .int .i64 j ∧ s = .int .i64 (sumL xs j) ∧ b = .int .i64 (tkn xs m j) ∧ Hf (wq.ownsRow W1.heap.size 52 4 (.slice (some ⟨gc, 0, none⟩) m cap) m (ils (mxL xs m j))) ∧ Hf (Below w.heap.size w wq)) (fun i _ _ _ => m - (intOf i).toNat)
      case atStart => exact ⟨0, by omega, rfl, rfl, i_ext2 T0.out.symm, ⟨by rw [mxL_zero HN.out]; exact O3.out⟩, ⟨B3.out⟩⟩
      case round =>
        obtain ⟨j, hj, rfl, rfl, rfl, ho, hb2⟩ := hrel
        have BQ := Hb.mk hb2.out
        have sQ := BQ.out.size
        by_cases hlt2 : j < m
        · obtain ⟨c0, c1, c2, c3⟩ := (HR.out.below hb2.out).fourAt HN.out hlt2
          have d2 : wr.cell? ⟨gc, j * 4 + 2, none⟩ = some (.int .i64 (sR xs j)) := by
            rw [ho.out.cellAt (j * 4 + 2) (by omega), ils_at (by rw [mxL_len]; omega), mxL_at (by omega), if_neg (by omega)]; rfl
          have z2 := ho.out.frozenAt (j * 4 + 2)
          have lw := block_lt_of_cell d2
          simp at lw
          obtain ⟨p0, p1⟩ := prod_bd HA.out (show j + 1 ≤ m by omega)
          obtain ⟨s0, s1⟩ := sumL_bd HA.out j (by omega)
          obtain ⟨t0, t1⟩ := lR_bd HA.out hlt2
          obtain ⟨u0, u1⟩ := sR_bd HA.out hlt2
          obtain ⟨v0, v1⟩ := tkn_bd HA.out (show j ≤ m by omega)
          obtain ⟨x0, x1⟩ := tkn_bd HA.out (show j + 1 ≤ m by omega)
          have KS := Hf.mk (show sumL xs (j + 1) = sumL xs j + lR xs j from rfl)
          have KN := Hf.mk (show nwS xs m j = sR xs j - (tkn xs m (j + 1) - tkn xs m j) from rfl)
          have KF := Hf.mk (fun w => quotientDown_any p0 p1 (show 1 ≤ sumL xs m by omega) (by omega) w)
          rw [show qdn (sumS xs m * sumL xs (j + 1)) (sumL xs m) = tkn xs m (j + 1) from rfl] at KF
          have KE := Hf.mk (mxL_set (xs := xs) (n := m) (m := j))
          rw [KS.out] at p0 p1 KF
          generalize sumL xs j = sm at *
          generalize lR xs j = tm at *
          generalize sR xs j = um at *
          generalize nwS xs m j = nw at *
          generalize tkn xs m j = ta at *
          generalize hTB : tkn xs m (j + 1) = tb at *
          have KTB := Hf.mk hTB
          clear hTB
          generalize hSN : sumS xs m = sn at *
          have KSN := Hf.mk hSN
          clear hSN
          generalize hLN : sumL xs m = ln at *
          have KLN := Hf.mk hLN
          clear hLN
          go_wp2_with (first | (go_at_call 45; refine (KF.out _).mono ?_; rintro e w' ⟨rfl, q2, rfl⟩))
          go_roundw
          case rel =>
            exact ⟨j + 1, by omega, i_ext2 (by omega), i_ext2 KS.out.symm, i_ext2 KTB.out.symm, ⟨by rw [← KE.out, KN.out]; exact own_als ho.out _ _ _ _⟩, ⟨Below.setCell (Below.drews (Below.alloc hb2.out sQ _)) (show w.heap.size ≤ gc by omega) _⟩⟩
          case measure => simp [intOf]; omega
        · obtain rfl : j = m := by omega
          go_wp2
          go_ret2
          exact ⟨gc, cap, rfl, by omega, (ho.out.lt gc rfl).2, ⟨ho.out.1, by rcases ho.out.2 with h | ⟨g', cap', cur, hv, hg, hr⟩; exact .inl h; exact .inr ⟨g', cap', cur, hv, by omega, hr⟩⟩, hb2.out⟩
end Go.Proofs.Ytconlpgifkknmab
