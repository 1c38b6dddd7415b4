/-
  Rows of places: what 'toPlaceS' copies, what 'eqPlaceS' compares, whether all are valid. No premise beyond those named.
-/
import Derived.Test.YtenekhckmglobaaGreatSum
import Derived.Test.YtenekhckmglobaaGreatWay
namespace Go.Proofs.YtenekhckmglobaaGreat
open Go Go.RowKit
set_option maxRecDepth 100000

/-- The words of the north and of the east of place i of a row. -/
def nW (ys : List Nat) (i : Nat) : Nat := ys.getD (i * 2) 0
def eW (ys : List Nat) (i : Nat) : Nat := ys.getD (i * 2 + 1) 0
def nC (ys : List Nat) (i : Nat) : Nat := nrm .f32 (nW ys i)
def eC (ys : List Nat) (i : Nat) : Nat := nrm .f32 (eW ys i)
def vAt (ys : List Nat) (i : Nat) : Bool := validC (nC ys i) (eC ys i)
def allV (ys : List Nat) : Nat → Bool
  | 0 => true
  | m + 1 => allV ys m && vAt ys m
def arePl (ys : List Nat) (n : Nat) : Bool := decide (1 ≤ n ∧ n ≤ 64) && allV ys n
theorem allV_at {ys : List Nat} : ∀ {n : Nat}, allV ys n = true → ∀ i, i < n → vAt ys i = true := by
  intro n
  induction n with
  | zero => intro _ i hi; omega
  | succ n ih =>
    intro h i hi
    unfold allV at h
    rw [Bool.and_eq_true] at h
    by_cases he : i = n
    · rw [he]; exact h.2
    · exact ih h.1 i (by omega)
theorem allV_no {ys : List Nat} : ∀ {n i : Nat}, i < n → vAt ys i = false → allV ys n = false := by
  intro n
  induction n with
  | zero => intro i hi; omega
  | succ n ih =>
    intro i hi h
    unfold allV
    by_cases he : i = n
    · rw [← he, h, Bool.and_false]
    · rw [ih (by omega) h, Bool.false_and]
theorem add_next (p : Addr) (k : Nat) : p.add (k + 1) = ⟨(p.add k).block, (p.add k).off + 1, none⟩ := by
  unfold Addr.add
  rw [if_neg (by omega)]
  split
  · next h => rw [h]
  · simp; omega
theorem FRow.two {w : World} {p : Addr} {ys : List Nat} {n i : Nat} (h : FRow w (some p) ys) (hn : ys.length = 2 * n) (hi : i < n) : w.cell? (p.add (i * 2)) = some (.float .f32 (nW ys i)) ∧ w.cell? ⟨(p.add (i * 2)).block, (p.add (i * 2)).off + 1, none⟩ = some (.float .f32 (eW ys i)) := by
  obtain ⟨p1, h1, c1⟩ := h (i * 2) (by omega)
  obtain ⟨p2, h2, c2⟩ := h (i * 2 + 1) (by omega)
  obtain rfl := Option.some.inj h1
  obtain rfl := Option.some.inj h2
  rw [add_next] at c2
  exact ⟨c1, c2⟩
theorem FRow.twoAt {w : World} {g : Nat} {ys : List Nat} {n i : Nat} (h : FRow w (some ⟨g, 0, none⟩) ys) (hn : ys.length = 2 * n) (hi : i < n) : w.cell? ⟨g, i * 2, none⟩ = some (.float .f32 (nW ys i)) ∧ w.cell? ⟨g, i * 2 + 1, none⟩ = some (.float .f32 (eW ys i)) := by
  have := h.two hn hi
  rw [add_at] at this
  exact this
theorem FRow.some_of {w : World} {a : Option Addr} {ys : List Nat} (h : FRow w a ys) (hl : 0 < ys.length) : ∃ p, a = some p := by
  obtain ⟨p, hp, _⟩ := h 0 hl
  exact ⟨p, hp⟩
theorem wfAt {ys : List Nat} (hw : Wf ys) {j : Nat} (hj : j < ys.length) : (Lit.float .f32 (ys.getD j 0)).wf = true := by
  have e : ys.getD j 0 = ys[j]'hj := by simp [List.getD, hj]
  rw [e]
  exact hw _ (List.getElem_mem hj)
theorem flN {ys : List Nat} {n i : Nat} (hw : Wf ys) (hn : ys.length = 2 * n) (hi : i < n) : Fl .f32 (nC ys i) (nW ys i) := Fl.own (wfAt hw (by omega))
theorem flE {ys : List Nat} {n i : Nat} (hw : Wf ys) (hn : ys.length = 2 * n) (hi : i < n) : Fl .f32 (eC ys i) (eW ys i) := Fl.own (wfAt hw (by omega))
theorem owns_below {w w' : World} {base : Nat} {e : TypeId} {size : Nat} {v : Value} {n : Nat} {xs : List Value} (h : w.ownsRow base e size v n xs) (b : Below w.heap.size w w') : w'.ownsRow base e size v n xs := by
  refine h.kept (row := none) ⟨b.os, b.tape, b.output, b.size, fun k hk _ => b.block k hk⟩ ?_
  cases hv : v.ownBlock
  · exact .inl rfl
  · exact .inr (by simp)
theorem l02IsAt_any {n e a b : Nat} {p o : Nat} (h1 : Fl .f32 n a) (h2 : Fl .f32 e b) (w : World) (c1 : w.cell? ⟨p, o, none⟩ = some (.float .f32 a)) (c2 : w.cell? ⟨p, o + 1, none⟩ = some (.float .f32 b)) : Calls Tryz.prog 23 #[.pointer (some ⟨p, o, none⟩)] w (RB (validC n e) w) := by
  cases g1 : fcmp .geq .f32 n 3196059648
  · have KV := Keep.mk (show validC n e = false by unfold validC isNorthC; rw [g1]; rfl)
    go_enter Tryz.func23, Tryz.ntmps23
    go_wp2_with (first | (refine wpList_fcmp rfl rfl rfl rfl rfl (by first | (with_reducible assumption) | (with_reducible exact Fl.ofInt _ _) | exact Fl.not (by decide +kernel) (by decide +kernel)) (by first | (with_reducible assumption) | (with_reducible exact Fl.ofInt _ _) | exact Fl.not (by decide +kernel) (by decide +kernel)) ?_; simp only [Act.put, List.setIfInBounds_toArray, List.set_cons_succ, List.set_cons_zero, g1]))
    go_ret
    rw [KV.out]
    exact RB.any rfl (by repeat (first | exact Drew.refl _ | refine Drew.more ?_))
  · cases g2 : fcmp .leq .f32 n 1048576000
    · have KV := Keep.mk (show validC n e = false by unfold validC isNorthC; rw [g1, g2]; rfl)
      go_enter Tryz.func23, Tryz.ntmps23
      go_wp2_with (first | (refine wpList_fcmp rfl rfl rfl rfl rfl (by first | (with_reducible assumption) | (with_reducible exact Fl.ofInt _ _) | exact Fl.not (by decide +kernel) (by decide +kernel)) (by first | (with_reducible assumption) | (with_reducible exact Fl.ofInt _ _) | exact Fl.not (by decide +kernel) (by decide +kernel)) ?_; simp only [Act.put, List.setIfInBounds_toArray, List.set_cons_succ, List.set_cons_zero, g1]) | (refine wpList_fcmp_g rfl rfl rfl rfl rfl (by first | (with_reducible assumption) | (with_reducible exact Fl.ofInt _ _) | exact Fl.not (by decide +kernel) (by decide +kernel)) (by first | (with_reducible assumption) | (with_reducible exact Fl.ofInt _ _) | exact Fl.not (by decide +kernel) (by decide +kernel)) ?_; simp only [Act.put, List.setIfInBounds_toArray, List.set_cons_succ, List.set_cons_zero, g2]))
      go_ret
      rw [KV.out]
      exact RB.any rfl (by repeat (first | exact Drew.refl _ | refine Drew.more ?_))
    · cases g3 : fcmp .geq .f32 e 3204448256
      · have KV := Keep.mk (show validC n e = false by unfold validC isNorthC isEastC; rw [g1, g2, g3]; rfl)
        go_enter Tryz.func23, Tryz.ntmps23
        go_wp2_with (first | (refine wpList_fcmp rfl rfl rfl rfl rfl (by first | (with_reducible assumption) | (with_reducible exact Fl.ofInt _ _) | exact Fl.not (by decide +kernel) (by decide +kernel)) (by first | (with_reducible assumption) | (with_reducible exact Fl.ofInt _ _) | exact Fl.not (by decide +kernel) (by decide +kernel)) ?_; simp only [Act.put, List.setIfInBounds_toArray, List.set_cons_succ, List.set_cons_zero, g1]) | (refine wpList_fcmp_g rfl rfl rfl rfl rfl (by first | (with_reducible assumption) | (with_reducible exact Fl.ofInt _ _) | exact Fl.not (by decide +kernel) (by decide +kernel)) (by first | (with_reducible assumption) | (with_reducible exact Fl.ofInt _ _) | exact Fl.not (by decide +kernel) (by decide +kernel)) ?_; simp only [Act.put, List.setIfInBounds_toArray, List.set_cons_succ, List.set_cons_zero, g2, g3]))
        go_ret
        rw [KV.out]
        exact RB.any rfl (by repeat (first | exact Drew.refl _ | refine Drew.more ?_))
      · have KV := Keep.mk (show validC n e = fcmp .lss .f32 e 1056964608 by unfold validC isNorthC isEastC; rw [g1, g2, g3]; rfl)
        go_enter Tryz.func23, Tryz.ntmps23
        go_wp2_with (first | (refine wpList_fcmp rfl rfl rfl rfl rfl (by first | (with_reducible assumption) | (with_reducible exact Fl.ofInt _ _) | exact Fl.not (by decide +kernel) (by decide +kernel)) (by first | (with_reducible assumption) | (with_reducible exact Fl.ofInt _ _) | exact Fl.not (by decide +kernel) (by decide +kernel)) ?_; simp only [Act.put, List.setIfInBounds_toArray, List.set_cons_succ, List.set_cons_zero, g1]) | (refine wpList_fcmp_g rfl rfl rfl rfl rfl (by first | (with_reducible assumption) | (with_reducible exact Fl.ofInt _ _) | exact Fl.not (by decide +kernel) (by decide +kernel)) (by first | (with_reducible assumption) | (with_reducible exact Fl.ofInt _ _) | exact Fl.not (by decide +kernel) (by decide +kernel)) ?_; simp only [Act.put, List.setIfInBounds_toArray, List.set_cons_succ, List.set_cons_zero, g2, g3]))
        go_ret
        rw [KV.out]
        exact RB.any rfl (by repeat (first | exact Drew.refl _ | refine Drew.more ?_))
end Go.Proofs.YtenekhckmglobaaGreat
