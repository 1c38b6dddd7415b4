/-
  The neighbours of a place, of the program and of the model: one list. No premise beyond those named.
-/
import Derived.Test.YtcgmffpddahgoabImx
namespace Go.Proofs.Ytcgmffpddahgoab
open Go Go.RowKit
set_option maxRecDepth 100000

def nbIn (W Hh : Nat) (i x y : Int) : Bool := decide (0 ≤ x ∧ x ≤ (W : Int) - 1 ∧ 0 ≤ y ∧ y ≤ (Hh : Int) - 1 ∧ y * (W : Int) + x ≠ i)
/-- the neighbours in a row, of the first c columns -/
def nbX (W Hh : Nat) (i qx y : Int) : Nat → List Int
  | 0 => []
  | c + 1 => nbX W Hh i qx y c ++ (if nbIn W Hh i (qx - 1 + (c : Int)) y then [y * (W : Int) + (qx - 1 + (c : Int))] else [])
/-- those of the first r rows -/
def nbY (W Hh : Nat) (i qx qy : Int) : Nat → List Int
  | 0 => []
  | r + 1 => nbY W Hh i qx qy r ++ nbX W Hh i qx (qy - 1 + (r : Int)) 3
theorem nbX_yes {W Hh : Nat} {i qx y : Int} {c : Nat} (h : nbIn W Hh i (qx - 1 + (c : Int)) y = true) : nbX W Hh i qx y (c + 1) = nbX W Hh i qx y c ++ [y * (W : Int) + (qx - 1 + (c : Int))] := by
  show _ ++ (if _ then _ else _) = _
  rw [if_pos h]
theorem nbX_no {W Hh : Nat} {i qx y : Int} {c : Nat} (h : nbIn W Hh i (qx - 1 + (c : Int)) y = false) : nbX W Hh i qx y (c + 1) = nbX W Hh i qx y c := by
  show _ ++ (if _ then _ else _) = _
  rw [if_neg (by rw [h]; decide), List.append_nil]
theorem nbX_len {W Hh : Nat} {i qx y : Int} : ∀ c, (nbX W Hh i qx y c).length ≤ c := by
  intro c
  induction c with
  | zero => exact Nat.le_refl _
  | succ c ih =>
    cases h : nbIn W Hh i (qx - 1 + (c : Int)) y
    · rw [nbX_no h]; omega
    · rw [nbX_yes h]; simp; omega
theorem nbY_len {W Hh : Nat} {i qx qy : Int} : ∀ r, (nbY W Hh i qx qy r).length ≤ 3 * r := by
  intro r
  induction r with
  | zero => exact Nat.le_refl _
  | succ r ih =>
    have := nbX_len (W := W) (Hh := Hh) (i := i) (qx := qx) (y := qy - 1 + (r : Int)) 3
    show (nbY W Hh i qx qy r ++ nbX W Hh i qx (qy - 1 + (r : Int)) 3).length ≤ _
    rw [List.length_append]
    omega
/-- a row that is none -/
theorem nbX_out {W Hh : Nat} {i qx y : Int} (h : y < 0 ∨ (Hh : Int) - 1 < y) : ∀ c, nbX W Hh i qx y c = [] := by
  intro c
  induction c with
  | zero => rfl
  | succ c ih => rw [nbX_no (by unfold nbIn; rw [decide_eq_false_iff_not]; omega), ih]
theorem nbX_skip {W Hh : Nat} {i qx y : Int} {c : Nat} (h : qx - 1 + (c : Int) < 0 ∨ (W : Int) - 1 < qx - 1 + (c : Int)) : nbX W Hh i qx y (c + 1) = nbX W Hh i qx y c := nbX_no (by unfold nbIn; rw [decide_eq_false_iff_not]; omega)
theorem nbY_skip {W Hh : Nat} {i qx qy : Int} {r : Nat} (h : qy - 1 + (r : Int) < 0 ∨ (Hh : Int) - 1 < qy - 1 + (r : Int)) : nbY W Hh i qx qy (r + 1) = nbY W Hh i qx qy r := by
  show _ ++ nbX W Hh i qx (qy - 1 + (r : Int)) 3 = _
  rw [nbX_out h, List.append_nil]
/-- the neighbours of a place -/
def nbs (W Hh i : Nat) : List Int := nbY W Hh (i : Int) ((i % W : Nat) : Int) ((i / W : Nat) : Int) 3
theorem nbs_len (W Hh i : Nat) : (nbs W Hh i).length ≤ 9 := nbY_len 3
theorem nbX_mem {W Hh : Nat} {i qx y k : Int} : ∀ {c}, k ∈ nbX W Hh i qx y c → ∃ x, qx - 1 ≤ x ∧ x < qx - 1 + (c : Int) ∧ k = y * (W : Int) + x ∧ nbIn W Hh i x y = true := by
  intro c
  induction c with
  | zero => intro h; cases h
  | succ c ih =>
    intro h
    cases hb : nbIn W Hh i (qx - 1 + (c : Int)) y
    · rw [nbX_no hb] at h
      obtain ⟨x, h1, h2, h3⟩ := ih h
      exact ⟨x, h1, by omega, h3⟩
    · rw [nbX_yes hb] at h
      rcases List.mem_append.1 h with h | h
      · obtain ⟨x, h1, h2, h3⟩ := ih h
        exact ⟨x, h1, by omega, h3⟩
      · rw [List.mem_singleton] at h
        exact ⟨_, by omega, by omega, h, hb⟩
theorem nbY_mem {W Hh : Nat} {i qx qy k : Int} : ∀ {r}, k ∈ nbY W Hh i qx qy r → ∃ x y, qx - 1 ≤ x ∧ x ≤ qx + 1 ∧ qy - 1 ≤ y ∧ y < qy - 1 + (r : Int) ∧ k = y * (W : Int) + x ∧ nbIn W Hh i x y = true := by
  intro r
  induction r with
  | zero => intro h; cases h
  | succ r ih =>
    intro h
    rcases List.mem_append.1 (show k ∈ nbY W Hh i qx qy r ++ nbX W Hh i qx (qy - 1 + (r : Int)) 3 from h) with h | h
    · obtain ⟨x, y, h1, h2, h3, h4, h5⟩ := ih h
      exact ⟨x, y, h1, h2, h3, by omega, h5⟩
    · obtain ⟨x, h1, h2, h3, h4⟩ := nbX_mem h
      exact ⟨x, _, h1, by omega, by omega, by omega, h3, h4⟩
/-- what a neighbour is -/
theorem nbs_mem {W Hh i n : Nat} {k : Int} (hn : n = W * Hh) (h0 : 0 < W) (h : k ∈ nbs W Hh i) : ∃ j : Nat, k = (j : Int) ∧ j < n ∧ j ≠ i ∧ j % W ≤ i % W + 1 ∧ i % W ≤ j % W + 1 ∧ j / W ≤ i / W + 1 ∧ i / W ≤ j / W + 1 := by
  obtain ⟨x, y, h1, h2, h3, h4, h5, h6⟩ := nbY_mem h
  unfold nbIn at h6
  rw [decide_eq_true_iff] at h6
  obtain ⟨g1, g2, g3, g4, g5⟩ := h6
  obtain ⟨a, rfl⟩ : ∃ a : Nat, x = (a : Int) := ⟨x.toNat, by omega⟩
  obtain ⟨b, rfl⟩ : ∃ b : Nat, y = (b : Int) := ⟨y.toNat, by omega⟩
  have e : ((b : Int) * (W : Int) + (a : Int)) = ((b * W + a : Nat) : Int) := by simp
  have hm : (b * W + a) % W = a := by rw [Nat.add_comm, Nat.add_mul_mod_self_right, Nat.mod_eq_of_lt (by omega)]
  have hd : (b * W + a) / W = b := by rw [Nat.add_comm, Nat.add_mul_div_right _ _ h0, Nat.div_eq_of_lt (by omega), Nat.zero_add]
  refine ⟨b * W + a, by rw [h5, e], ?_, ?_, ?_, ?_, ?_, ?_⟩
  · have : (b + 1) * W ≤ n := by rw [hn, Nat.mul_comm W]; exact Nat.mul_le_mul_right _ (by omega)
    rw [Nat.add_mul, Nat.one_mul] at this
    omega
  · intro he
    exact g5 (by rw [e, he])
  all_goals first | rw [hm]; omega | rw [hd]; omega
theorem ils_one {xs : List Int} : ∀ u ∈ ils xs, u.oneCell' = true := by
  intro u hu
  simp only [ils, List.mem_map] at hu
  obtain ⟨x, _, rfl⟩ := hu
  rfl
theorem ils_app {xs : List Int} {k : Int} : ils xs ++ [.int .i64 k] = ils (xs ++ [k]) := by simp [ils]
theorem int_one {k : Int} : ∀ u ∈ [Value.int .i64 k], u.oneCell' = true := by
  intro u hu
  simp at hu
  subst hu
  rfl
/-- 'returns a new list of these numbers' -/
def RLi (T : TypeId) (vs : List Int) (w : World) (e : Ending) (w' : World) : Prop := (∃ v, e = .returned v ∧ w'.ownsRow w.heap.size T 1 v vs.length (ils vs)) ∧ Below w.heap.size w w'
set_option maxHeartbeats 8000000 in
theorem l06Around_any {b : Nat} {W Hh i n : Nat} (w : World) (c0 : w.cell? ⟨b, 0, none⟩ = some (.int .i64 W)) (c1 : w.cell? ⟨b, 1, none⟩ = some (.int .i64 Hh)) (hn : n = W * Hh) (hw : 2 ≤ W) (hw2 : W ≤ 16) (hh : 2 ≤ Hh) (hh2 : Hh ≤ 16) (hi : i < n) : Calls Try.prog 90 #[.pointer (some ⟨b, 0, none⟩), .int .i64 i] w (RLi 2 (nbs W Hh i) w) := by
  obtain ⟨i0, hi0, hz0, hz1, hz2⟩ := info_parts (P := Try.prog) (e := 2) (z := .int .i64 0) (size := 1) (bytes := 8) (by kernel_rfl)
  have hlb : b < w.heap.size := by have := block_lt_of_cell c0; simpa using this
  have hr : (i : Int).tmod (W : Int) = ((i % W : Nat) : Int) := rfl
  have hr2 : (i : Int) % (W : Int) = ((i % W : Nat) : Int) := rfl
  have hq : (i : Int).tdiv (W : Int) = ((i / W : Nat) : Int) := rfl
  have hq2 : (i : Int) / (W : Int) = ((i / W : Nat) : Int) := rfl
  have hx : i % W < W := Nat.mod_lt _ (by omega)
  have hy : i / W < Hh := by apply Nat.div_lt_of_lt_mul; omega
  have hW0 : ¬ W = 0 := by omega
  have KN := Keep.mk (show nbs W Hh i = nbY W Hh (i : Int) ((i % W : Nat) : Int) ((i / W : Nat) : Int) 3 from rfl)
  generalize i % W = qx at *
  generalize i / W = qy at *
  have hqw : IntKind.i64.wrap (qy : Int) = (qy : Int) := IntWalk.i64_in _ (by omega)
  have hn256 : n ≤ 256 := by rw [hn]; exact Nat.mul_le_mul hw2 hh2
  go_enter Try.func90, Try.ntmps90
  go_wp2
  go_loopw [6, 5] (fun ys vs wr => ∃ (r : Nat) (Y : Int) (v : Value), r ≤ 3 ∧ ys = .int .i64 Y ∧ vs = v ∧ Y ≤ (qy : Int) - 1 + (r : Int) ∧ (qy : Int) - 1 + (r : Int) ≤ Y ∧ Hf (wr.ownsRow w.heap.size 2 1 v (nbY W Hh i qx qy r).length (ils (nbY W Hh i qx qy r))) ∧ Hf (Below w.heap.size w wr)) (fun ys _ _ => ((qy : Int) + 2 - intOf ys).toNat)
  case atStart => exact ⟨0, _, _, by omega, rfl, rfl, by omega, by omega, ⟨World.ownsRow_made _ _ _ (Nat.le_refl _) (by decide) rfl⟩, ⟨(by repeat (first | exact Below.refl _ _ | with_reducible assumption | refine Below.drews ?_ | refine Below.drew ?_ | refine Below.alloc ?_ (by simp <;> omega) _ | refine Below.setCell ?_ (by simp <;> omega) _))⟩⟩
  case round =>
    obtain ⟨r, Y, v, hr3, rfl, rfl, hy1, hy2, hown, hbel⟩ := hrel
    obtain ⟨W1, hW1⟩ : ∃ W1, W1 = wr := ⟨_, rfl⟩
    subst hW1
    have d0 := Below.keep hbel.out c0
    have d1 := Below.keep hbel.out c1
    by_cases hlt : r < 3
    · obtain ⟨P, hP⟩ : ∃ P : Int, Y * (W : Int) = P := ⟨_, rfl⟩
      have HP := Hf.mk hP
      have hYle : Y ≤ (qy : Int) + 1 := by omega
      have EY := Hf.mk (show Y = (qy : Int) - 1 + (r : Int) by omega)
      have hP1 : -16 ≤ P := by rw [← hP]; have := Int.mul_le_mul_of_nonneg_right (show (-1 : Int) ≤ Y by omega) (show (0 : Int) ≤ (W : Int) by omega); omega
      have hP2 : P ≤ 256 := by rw [← hP]; have := Int.mul_le_mul_of_nonneg_right (show Y ≤ (16 : Int) by omega) (show (0 : Int) ≤ (W : Int) by omega); omega
      go_wp2
      go_loopw [7, 5] (fun xs vs wr => ∃ (c : Nat) (X : Int) (v : Value), c ≤ 3 ∧ xs = .int .i64 X ∧ vs = v ∧ X ≤ (qx : Int) - 1 + (c : Int) ∧ (qx : Int) - 1 + (c : Int) ≤ X ∧ Hf (wr.ownsRow w.heap.size 2 1 v (nbY W Hh i qx qy r ++ nbX W Hh i qx Y c).length (ils (nbY W Hh i qx qy r ++ nbX W Hh i qx Y c))) ∧ Hf (Below w.heap.size w wr)) (fun xs _ _ => ((qx : Int) + 2 - intOf xs).toNat)
      case atStart => exact ⟨0, _, _, by omega, rfl, rfl, by omega, by omega, ⟨by show World.ownsRow _ _ _ _ _ (_ ++ []).length (ils (_ ++ [])); rw [List.append_nil]; exact hown.out⟩, hbel⟩
      case round =>
        obtain ⟨c, X, v, hc3, rfl, rfl, hx1, hx2, hown2, hbel2⟩ := hrel
        obtain ⟨W2, hW2⟩ : ∃ W2, W2 = wr := ⟨_, rfl⟩
        subst hW2
        have k0 := Below.keep hbel2.out c0
        have k1 := Below.keep hbel2.out c1
        have EX := Hf.mk (show (qx : Int) - 1 + (c : Int) = X by omega)
        by_cases hltc : c < 3
        · have hXle : X ≤ (qx : Int) + 1 := by omega
          cases hb : nbIn W Hh i X Y
          · have KX := Hf.mk (show nbX W Hh i qx Y (c + 1) = nbX W Hh i qx Y c from nbX_no (by rw [EX.out]; exact hb))
            unfold nbIn at hb
            rw [decide_eq_false_iff_not, HP.out] at hb
            by_cases hxb : X < 0 ∨ (W : Int) - 1 < X
            · go_wp2_with (first | (go_at_call_of 119 (Value.int .i64 X); refine (l00In_no hxb _).mono ?_; rintro e w' ⟨rfl, q0, rfl⟩))
              go_roundw
              case rel => exact ⟨c + 1, _, _, by omega, rfl, rfl, by omega, by omega, ⟨by rw [KX.out]; exact own_dr hown2.out _⟩, ⟨Below.drews hbel2.out⟩⟩
              case measure => simp [intOf]; omega
            · have x0 : 0 ≤ X := by omega
              have x1 : X ≤ (W : Int) - 1 := by omega
              by_cases hyb : Y < 0 ∨ (Hh : Int) - 1 < Y
              · have tk_a : True := trivial; have tk_b : True := trivial
                go_wp2_with (first | (go_at_call 119; clear tk_a; refine (l00In_yes x0 x1 _).mono ?_; rintro e w' ⟨rfl, q0, rfl⟩) | (go_at_call 119; clear tk_b; refine (l00In_no hyb _).mono ?_; rintro e w' ⟨rfl, q1, rfl⟩))
                go_roundw
                case rel => exact ⟨c + 1, _, _, by omega, rfl, rfl, by omega, by omega, ⟨by rw [KX.out]; exact own_dr hown2.out _⟩, ⟨Below.drews hbel2.out⟩⟩
                case measure => simp [intOf]; omega
              · have y0 : 0 ≤ Y := by omega
                have y1 : Y ≤ (Hh : Int) - 1 := by omega
                have hPX : (P + X == (i : Int)) = true := by rw [beq_iff_eq]; omega
                have tk_a : True := trivial; have tk_b : True := trivial
                go_wp2_with (first | (go_at_call 119; clear tk_a; refine (l00In_yes x0 x1 _).mono ?_; rintro e w' ⟨rfl, q0, rfl⟩) | (go_at_call 119; clear tk_b; refine (l00In_yes y0 y1 _).mono ?_; rintro e w' ⟨rfl, q1, rfl⟩))
                go_roundw
                case rel => exact ⟨c + 1, _, _, by omega, rfl, rfl, by omega, by omega, ⟨by rw [KX.out]; exact own_dr hown2.out _⟩, ⟨Below.drews hbel2.out⟩⟩
                case measure => simp [intOf]; omega
          · have KX := Hf.mk (show nbX W Hh i qx Y (c + 1) = nbX W Hh i qx Y c ++ [P + X] by rw [← HP.out, ← EX.out]; exact nbX_yes (by rw [EX.out]; exact hb))
            have hlen1 := nbY_len (W := W) (Hh := Hh) (i := i) (qx := qx) (qy := qy) r
            have hlen2 := nbX_len (W := W) (Hh := Hh) (i := i) (qx := qx) (y := Y) c
            have hlen : (nbY W Hh i qx qy r ++ nbX W Hh i qx Y c).length ≤ 12 := by rw [List.length_append]; omega
            have hsz := hbel2.out.size
            clear hlen1 hlen2
            unfold nbIn at hb
            rw [decide_eq_true_iff, HP.out] at hb
            obtain ⟨x0, x1, y0, y1, hne⟩ := hb
            have hPX : (P + X == (i : Int)) = false := by rw [beq_eq_false_iff_ne]; exact hne
            have tk_a : True := trivial; have tk_b : True := trivial
            go_wp2_with (first | (go_at_call 119; clear tk_a; refine (l00In_yes x0 x1 _).mono ?_; rintro e w' ⟨rfl, q0, rfl⟩) | (go_at_call 119; clear tk_b; refine (l00In_yes y0 y1 _).mono ?_; rintro e w' ⟨rfl, q1, rfl⟩) | (at_builtin; refine wpList_append_own _ rfl _ _ 56 rfl w.heap.size 2 i0 (.int .i64 0) 1 8 Try.underlying56 hi0 hz0 hz1 hz2 rfl (by decide) _ (nbY W Hh i qx qy r ++ nbX W Hh i qx Y c).length (ils (nbY W Hh i qx qy r ++ nbX W Hh i qx Y c)) rfl (own_al (own_dr hown2.out _) _) ⟨W2.heap.size, 0, none⟩ 1 1 [.int .i64 (P + X)] rfl rfl (cell_one _ _ _) int_one (by unfold maxLen; omega) (by omega) (by simp; omega) ?_; intro v' w3 o3 hgrow3 _; have B3 := Hf.mk (Below.grown (Below.alloc (Below.drews hbel2.out) (by simp; omega) _) hgrow3 (by simp; omega) (fun k h => own_ge hown2.out h)); have O3 := Hf.mk o3; clear o3 hgrow3))
            go_roundw
            case rel => exact ⟨c + 1, _, _, by omega, rfl, rfl, by omega, by omega, ⟨by rw [KX.out, ← List.append_assoc]; have := O3.out; rw [ils_app] at this; simpa [Nat.add_assoc] using this⟩, B3⟩
            case measure => simp [intOf]; omega
        · obtain rfl : c = 3 := by omega
          have KY := Hf.mk (show nbY W Hh i qx qy (r + 1) = nbY W Hh i qx qy r ++ nbX W Hh i qx Y 3 by rw [EY.out]; rfl)
          go_wp2
          go_roundw
          case rel => exact ⟨r + 1, _, _, by omega, rfl, rfl, by omega, by omega, ⟨by rw [KY.out]; exact hown2.out⟩, hbel2⟩
          case measure => simp [intOf]; omega
    · obtain rfl : r = 3 := by omega
      go_wp2
      go_ret
      refine ⟨⟨_, rfl, ?_⟩, hbel.out⟩
      rw [KN.out]
      exact hown.out
set_option maxHeartbeats 8000000 in
theorem neigh_any {g k W Hh i n : Nat} (w : World) (hn : n = W * Hh) (hw : 2 ≤ W) (hw2 : W ≤ 16) (hh : 2 ≤ Hh) (hh2 : Hh ≤ 16) (hi : i < n) : Calls Try.prog 95 #[gd W Hh (sl g n k), .int .i64 i] w (RLi 2 (nbs W Hh i) w) := by
  obtain ⟨i0, hi0, hz0, hz1, hz2⟩ := info_parts (P := Try.prog) (e := 2) (z := .int .i64 0) (size := 1) (bytes := 8) (by kernel_rfl)
  have hr : (i : Int).tmod (W : Int) = ((i % W : Nat) : Int) := rfl
  have hr2 : (i : Int) % (W : Int) = ((i % W : Nat) : Int) := rfl
  have hq : (i : Int).tdiv (W : Int) = ((i / W : Nat) : Int) := rfl
  have hq2 : (i : Int) / (W : Int) = ((i / W : Nat) : Int) := rfl
  have hx : i % W < W := Nat.mod_lt _ (by omega)
  have hy : i / W < Hh := by apply Nat.div_lt_of_lt_mul; omega
  have hW0 : ¬ W = 0 := by omega
  have KN := Keep.mk (show nbs W Hh i = nbY W Hh (i : Int) ((i % W : Nat) : Int) ((i / W : Nat) : Int) 3 from rfl)
  generalize i % W = qx at *
  generalize i / W = qy at *
  have hqw : IntKind.i64.wrap (qy : Int) = (qy : Int) := IntWalk.i64_in _ (by omega)
  have hn256 : n ≤ 256 := by rw [hn]; exact Nat.mul_le_mul hw2 hh2
  clear hn
  go_enter Try.func95, Try.ntmps95
  go_wp2
  go_quiet (fail)
  go_wp2_with (first | (refine wpList_imax rfl rfl rfl rfl ?_; simp only [Act.put, List.setIfInBounds_toArray, List.set_cons_succ, List.set_cons_zero]) | (refine wpList_imin rfl rfl rfl rfl ?_; simp only [Act.put, List.setIfInBounds_toArray, List.set_cons_succ, List.set_cons_zero]))
  have Bn := Hf.mk (show Below w.heap.size w ((w.alloc (.cells #[.int .i64 W, .int .i64 Hh, sl g n k] 30)).drewN nq) from (by repeat (first | exact Below.refl _ _ | with_reducible assumption | refine Below.drews ?_ | refine Below.drew ?_ | refine Below.alloc ?_ (by simp <;> omega) _ | refine Below.setCell ?_ (by simp <;> omega) _)))
  have q0 : ((w.alloc (.cells #[.int .i64 W, .int .i64 Hh, sl g n k] 30)).drewN nq).cell? ⟨w.heap.size, 0, none⟩ = some (.int .i64 W) := by simp
  have q1 : ((w.alloc (.cells #[.int .i64 W, .int .i64 Hh, sl g n k] 30)).drewN nq).cell? ⟨w.heap.size, 1, none⟩ = some (.int .i64 Hh) := by simp
  have zs : ((w.alloc (.cells #[.int .i64 W, .int .i64 Hh, sl g n k] 30)).drewN nq).heap.size = w.heap.size + 1 := by simp
  generalize ((w.alloc (.cells #[.int .i64 W, .int .i64 Hh, sl g n k] 30)).drewN nq) = W0 at *
  go_loopw [8, 7] (fun ys vs wr => ∃ (r : Nat) (Y : Int) (v : Value), r ≤ 3 ∧ ys = .int .i64 Y ∧ vs = v ∧ Y ≤ (qy : Int) - 1 + (r : Int) ∧ (qy : Int) - 1 + (r : Int) ≤ Y ∧ 0 ≤ Y ∧ Y ≤ (Hh : Int) ∧ Hf (wr.ownsRow (w.heap.size + 1) 2 1 v (nbY W Hh i qx qy r).length (ils (nbY W Hh i qx qy r))) ∧ Hf (Below (w.heap.size + 1) W0 wr)) (fun ys _ _ => ((qy : Int) + 2 - intOf ys).toNat)
  case atStart =>
    by_cases hq0 : qy = 0
    · refine ⟨1, _, _, by omega, rfl, rfl, by omega, by omega, by omega, by omega, ⟨?_⟩, ⟨Below.refl _ _⟩⟩
      rw [nbY_skip (r := 0) (by omega)]
      exact World.ownsRow_nil _ _ _ _
    · exact ⟨0, _, _, by omega, rfl, rfl, by omega, by omega, by omega, by omega, ⟨World.ownsRow_nil _ _ _ _⟩, ⟨Below.refl _ _⟩⟩
  case round =>
    obtain ⟨r, Y, v, hr3, rfl, rfl, hy1, hy2, hy3, hy4, hown, hbel⟩ := hrel
    obtain ⟨W1, hW1⟩ : ∃ W1, W1 = wr := ⟨_, rfl⟩
    subst hW1
    have d0 := Below.keep (hbel.out.mono (by omega)) q0
    have d1 := Below.keep (hbel.out.mono (by omega)) q1
    by_cases hlt : Y ≤ min ((qy : Int) + 1) ((Hh : Int) - 1)
    · have hr2 : r ≤ 2 := by omega
      obtain ⟨P, hP⟩ : ∃ P : Int, Y * (W : Int) = P := ⟨_, rfl⟩
      have HP := Hf.mk hP
      have EY := Hf.mk (show Y = (qy : Int) - 1 + (r : Int) by omega)
      have hP1 : 0 ≤ P := by rw [← hP]; exact Int.mul_nonneg (by omega) (by omega)
      have hP2 : P ≤ 256 := by rw [← hP]; have := Int.mul_le_mul_of_nonneg_right (show Y ≤ (16 : Int) by omega) (show (0 : Int) ≤ (W : Int) by omega); omega
      go_wp2_with (first | (refine wpList_imax rfl rfl rfl rfl ?_; simp only [Act.put, List.setIfInBounds_toArray, List.set_cons_succ, List.set_cons_zero]) | (refine wpList_imin rfl rfl rfl rfl ?_; simp only [Act.put, List.setIfInBounds_toArray, List.set_cons_succ, List.set_cons_zero]))
      go_loopw [9, 7] (fun xs vs wr => ∃ (c : Nat) (X : Int) (v : Value), c ≤ 3 ∧ xs = .int .i64 X ∧ vs = v ∧ X ≤ (qx : Int) - 1 + (c : Int) ∧ (qx : Int) - 1 + (c : Int) ≤ X ∧ 0 ≤ X ∧ X ≤ (W : Int) ∧ Hf (wr.ownsRow (w.heap.size + 1) 2 1 v (nbY W Hh i qx qy r ++ nbX W Hh i qx Y c).length (ils (nbY W Hh i qx qy r ++ nbX W Hh i qx Y c))) ∧ Hf (Below (w.heap.size + 1) W0 wr)) (fun xs _ _ => ((qx : Int) + 2 - intOf xs).toNat)
      case atStart =>
        by_cases hq0 : qx = 0
        · refine ⟨1, _, _, by omega, rfl, rfl, by omega, by omega, by omega, by omega, ⟨?_⟩, hbel⟩
          rw [nbX_skip (c := 0) (by omega)]
          show World.ownsRow _ _ _ _ _ (_ ++ []).length (ils (_ ++ []))
          rw [List.append_nil]
          exact hown.out
        · refine ⟨0, _, _, by omega, rfl, rfl, by omega, by omega, by omega, by omega, ⟨?_⟩, hbel⟩
          show World.ownsRow _ _ _ _ _ (_ ++ []).length (ils (_ ++ []))
          rw [List.append_nil]
          exact hown.out
      case round =>
        obtain ⟨c, X, v, hc3, rfl, rfl, hx1, hx2, hx3, hx4, hown2, hbel2⟩ := hrel
        obtain ⟨W2, hW2⟩ : ∃ W2, W2 = wr := ⟨_, rfl⟩
        subst hW2
        have k0 := Below.keep (hbel2.out.mono (by omega)) q0
        have k1 := Below.keep (hbel2.out.mono (by omega)) q1
        have EX := Hf.mk (show (qx : Int) - 1 + (c : Int) = X by omega)
        by_cases hltc : X ≤ min ((qx : Int) + 1) ((W : Int) - 1)
        · have hc2 : c ≤ 2 := by omega
          by_cases hPi : P + X = (i : Int)
          · have KX := Hf.mk (show nbX W Hh i qx Y (c + 1) = nbX W Hh i qx Y c from nbX_no (by rw [EX.out]; unfold nbIn; rw [decide_eq_false_iff_not, HP.out]; omega))
            have hPX : (P + X == (i : Int)) = true := by rw [beq_iff_eq]; exact hPi
            go_wp2_with (first | (refine wpList_imax rfl rfl rfl rfl ?_; simp only [Act.put, List.setIfInBounds_toArray, List.set_cons_succ, List.set_cons_zero]) | (refine wpList_imin rfl rfl rfl rfl ?_; simp only [Act.put, List.setIfInBounds_toArray, List.set_cons_succ, List.set_cons_zero]))
            go_roundw
            case rel => exact ⟨c + 1, _, _, by omega, rfl, rfl, by omega, by omega, by omega, by omega, ⟨by rw [KX.out]; exact hown2.out⟩, hbel2⟩
            case measure => simp [intOf]; omega
          · have KX := Hf.mk (show nbX W Hh i qx Y (c + 1) = nbX W Hh i qx Y c ++ [P + X] by rw [← HP.out, ← EX.out]; exact nbX_yes (by rw [EX.out]; unfold nbIn; rw [decide_eq_true_iff, HP.out]; omega))
            have hPX : (P + X == (i : Int)) = false := by rw [beq_eq_false_iff_ne]; exact hPi
            have hlen1 := nbY_len (W := W) (Hh := Hh) (i := i) (qx := qx) (qy := qy) r
            have hlen2 := nbX_len (W := W) (Hh := Hh) (i := i) (qx := qx) (y := Y) c
            have hlen : (nbY W Hh i qx qy r ++ nbX W Hh i qx Y c).length ≤ 12 := by rw [List.length_append]; omega
            have hsz := hbel2.out.size
            clear hlen1 hlen2
            go_wp2_with (first | (refine wpList_imax rfl rfl rfl rfl ?_; simp only [Act.put, List.setIfInBounds_toArray, List.set_cons_succ, List.set_cons_zero]) | (refine wpList_imin rfl rfl rfl rfl ?_; simp only [Act.put, List.setIfInBounds_toArray, List.set_cons_succ, List.set_cons_zero]) | (at_builtin; refine wpList_append_own _ rfl _ _ 56 rfl (w.heap.size + 1) 2 i0 (.int .i64 0) 1 8 Try.underlying56 hi0 hz0 hz1 hz2 rfl (by decide) _ (nbY W Hh i qx qy r ++ nbX W Hh i qx Y c).length (ils (nbY W Hh i qx qy r ++ nbX W Hh i qx Y c)) rfl (own_al hown2.out _) ⟨W2.heap.size, 0, none⟩ 1 1 [.int .i64 (P + X)] rfl rfl (cell_one _ _ _) int_one (by unfold maxLen; omega) (by omega) (by simp; omega) ?_; intro v' w3 o3 hgrow3 _; have B3 := Hf.mk (Below.grown (Below.alloc hbel2.out (by omega) _) hgrow3 (by simp; omega) (fun k h => own_ge hown2.out h)); have O3 := Hf.mk o3; clear o3 hgrow3))
            go_roundw
            case rel => exact ⟨c + 1, _, _, by omega, rfl, rfl, by omega, by omega, by omega, by omega, ⟨by rw [KX.out, ← List.append_assoc]; have := O3.out; rw [ils_app] at this; simpa [Nat.add_assoc] using this⟩, B3⟩
            case measure => simp [intOf]; omega
        · have KY := Hf.mk (show nbY W Hh i qx qy (r + 1) = nbY W Hh i qx qy r ++ nbX W Hh i qx Y c by
            rw [EY.out]
            show nbY W Hh i qx qy r ++ nbX W Hh i qx ((qy : Int) - 1 + (r : Int)) 3 = _
            rcases (by omega : c = 3 ∨ (c = 2 ∧ (W : Int) - 1 < X)) with h | ⟨h, h2⟩
            · rw [h]
            · subst h
              rw [nbX_skip (c := 2) (.inr (by omega))])
          go_wp2_with (first | (refine wpList_imax rfl rfl rfl rfl ?_; simp only [Act.put, List.setIfInBounds_toArray, List.set_cons_succ, List.set_cons_zero]) | (refine wpList_imin rfl rfl rfl rfl ?_; simp only [Act.put, List.setIfInBounds_toArray, List.set_cons_succ, List.set_cons_zero]))
          go_roundw
          case rel => exact ⟨r + 1, _, _, by omega, rfl, rfl, by omega, by omega, by omega, by omega, ⟨by rw [KY.out]; exact hown2.out⟩, hbel2⟩
          case measure => simp [intOf]; omega
    · have KY := Hf.mk (show nbs W Hh i = nbY W Hh i qx qy r by
        rw [KN.out]
        rcases (by omega : r = 3 ∨ (r = 2 ∧ (Hh : Int) - 1 < Y)) with h | ⟨h, h2⟩
        · rw [h]
        · subst h
          rw [nbY_skip (r := 2) (.inr (by omega))])
      go_wp2_with (first | (refine wpList_imax rfl rfl rfl rfl ?_; simp only [Act.put, List.setIfInBounds_toArray, List.set_cons_succ, List.set_cons_zero]) | (refine wpList_imin rfl rfl rfl rfl ?_; simp only [Act.put, List.setIfInBounds_toArray, List.set_cons_succ, List.set_cons_zero]))
      go_ret
      refine ⟨⟨_, rfl, ?_⟩, Below.trans Bn.out (hbel.out.mono (by omega))⟩
      rw [KY.out]
      exact own_lower hown.out (by omega)
end Go.Proofs.Ytcgmffpddahgoab
