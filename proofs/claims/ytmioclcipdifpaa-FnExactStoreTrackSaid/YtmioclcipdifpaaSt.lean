/-
  Structs of float32s: what copies and compares them (toPlace, toWay, eqPlace, eqWay), and how the arguments are opened. No premise beyond those named.
-/
import Derived.Test.YtmioclcipdifpaaCn
import Derived.Lib.SmallJoins
namespace Go.Proofs.Ytmioclcipdifpaa
open Go Go.RowKit
set_option maxRecDepth 100000

@[go_sem] theorem run_store_float {P : Program} {w : World} {a : Addr} {m : Mode} (k : FloatKind) (b : Nat) : (store a (.float k b) m).run P w = stored P w a (.float k b) m := run_store P w a _ m rfl
structure Hb (p : Prop) : Prop where
  out : p
/-- 'returns v; nothing that was there has been written' -/
def RS (v : Value) (w : World) (e : Ending) (w' : World) : Prop := e = .returned v ∧ Below w.heap.size w w'
theorem bcell {W w1 : World} (hb : Below W.heap.size W w1) : (∀ b o, b < W.heap.size → w1.cell? ⟨b, o, none⟩ = W.cell? ⟨b, o, none⟩) ∧ (∀ b o, b < W.heap.size → w1.frozen? ⟨b, o, none⟩ = W.frozen? ⟨b, o, none⟩) :=
  ⟨fun b o h => hb.cell (p := ⟨b, o, none⟩) h, fun b o h => hb.frozen (p := ⟨b, o, none⟩) h⟩
theorem Below.drews {B : Nat} {a w : World} {n : Nat} (h : Below B a w) : Below B a (w.drewN n) := ⟨h.os, h.tape, h.output, h.size, h.block⟩
/-- Below a call's own world, from a world before. -/
theorem Below.on {B : Nat} {a w w' : World} (h : Below B a w) (k : Below w.heap.size w w') (hB : B ≤ w.heap.size) : Below B a w' := h.trans (k.mono hB)
/-- A cell that is there stays as it is. -/
theorem Below.keep {w w' : World} (hb : Below w.heap.size w w') {p : Addr} {v : Value} (h : w.cell? p = some v) : w'.cell? p = some v := by
  rw [hb.cell (block_lt_of_cell h)]; exact h
/-- A cell that may be written: what it holds. -/
structure At (w : World) (p : Addr) (v : Value) : Prop where
  cell : w.cell? p = some v
  free : w.frozen? p = false
  lt : p.block < w.heap.size
theorem At.keep {w w' : World} (hb : Below w.heap.size w w') {p : Addr} {v : Value} (hc : w.cell? p = some v) (hz : w.frozen? p = false) : At w' p v :=
  have hl := block_lt_of_cell hc
  ⟨Below.keep hb hc, by rw [hb.frozen hl]; exact hz, Nat.lt_of_lt_of_le hl hb.size⟩
theorem At.re {w1 w w' : World} {p : Addr} {v : Value} (_h : At w1 p v) (hb : Below w.heap.size w w') (hc : w.cell? p = some v) (hz : w.frozen? p = false) : At w' p v := At.keep hb hc hz
theorem At.same {w : World} {p : Addr} {v : Value} (h : At w p v) : At w p v := h
abbrev pl (a b : Nat) : Value := .agg #[.float .f32 a, .float .f32 b]
abbrev wy (a b c : Nat) : Value := .agg #[.float .f32 a, .float .f32 b, .float .f32 c]
section
open Go.ChangeShapes Go.WideShapes Go.Deep Go.Joins
variable {H : Type} {enc : TypeId × Value → H} {P : Program} {w : World} {base : Nat} {spare : Nat → Bool} {held : Bool}
theorem trod_f32w {t : TypeId} {fuel : Nat} {cs : List Value} {x : DataW H × List MemPlace} (ht : P.underlying t = some (.float .f32)) (h : DataW.trod enc P w base spare held fuel t cs = some x) : ∃ n, cs = [.float .f32 n] ∧ (Lit.float .f32 n).wf = true := by
  cases fuel with
  | zero => simp [DataW.trod] at h
  | succ n =>
    unfold DataW.trod at h
    rw [ht] at h
    split at h <;> simp_all
theorem open_place {r : Reach} {b0 : Nat} {t e : TypeId} {f0 f1 : Field} {v : Value} {d : DataW H} {p : List MemPlace} (hs : P.underlying t = some (.struct #[f0, f1])) (he : P.underlying e = some (.float .f32)) (hone : (oneCellFields P #[f0, f1] && (f0.type == e && f1.type == e)) = true) (hC : P.cellsOf t = 2)
    (hv : Value.okWide P w r b0 t v) (h : DataW.Trod enc P w base spare held t v d p) : ∃ a b, v = .agg #[.float .f32 a, .float .f32 b] ∧ (Lit.float .f32 a).wf = true ∧ (Lit.float .f32 b).wf = true := by
  simp only [Bool.and_eq_true, beq_iff_eq] at hone
  obtain ⟨ho, h0, h1⟩ := hone
  obtain ⟨v0, v1, y0, y1, n, rfl, _, _, g0, g1⟩ := open_agg2 hs ho hC hv h
  rw [h0] at g0
  rw [h1] at g1
  obtain ⟨a, ha, wa⟩ := trod_f32w he g0
  obtain ⟨b, hb, wb⟩ := trod_f32w he g1
  injection ha with ha _
  injection hb with hb _
  exact ⟨a, b, by rw [ha, hb], wa, wb⟩
theorem open_way {r : Reach} {b0 : Nat} {t e : TypeId} {f0 f1 f2 : Field} {v : Value} {d : DataW H} {p : List MemPlace} (hs : P.underlying t = some (.struct #[f0, f1, f2])) (he : P.underlying e = some (.float .f32)) (hone : (oneCellFields P #[f0, f1, f2] && (f0.type == e && (f1.type == e && f2.type == e))) = true) (hC : P.cellsOf t = 3)
    (hv : Value.okWide P w r b0 t v) (h : DataW.Trod enc P w base spare held t v d p) : ∃ a b c, v = .agg #[.float .f32 a, .float .f32 b, .float .f32 c] ∧ (Lit.float .f32 a).wf = true ∧ (Lit.float .f32 b).wf = true ∧ (Lit.float .f32 c).wf = true := by
  simp only [Bool.and_eq_true, beq_iff_eq] at hone
  obtain ⟨ho, h0, h1, h2⟩ := hone
  obtain ⟨v0, v1, v2, y0, y1, y2, n, rfl, _, _, g0, g1, g2⟩ := open_agg3 hs ho hC hv h
  rw [h0] at g0
  rw [h1] at g1
  rw [h2] at g2
  obtain ⟨a, ha, wa⟩ := trod_f32w he g0
  obtain ⟨b, hb, wb⟩ := trod_f32w he g1
  obtain ⟨c, hc, wc⟩ := trod_f32w he g2
  injection ha with ha _
  injection hb with hb _
  injection hc with hc _
  exact ⟨a, b, c, by rw [ha, hb, hc], wa, wb, wc⟩
end
theorem toPlace_any (a b : Nat) (w : World) : Calls Try.prog 22 #[pl a b] w (RS (pl a b) w) := by
  go_enter Try.func22, Try.ntmps22
  go_wp2
  exact bodyPost_ret (v := pl a b) (by simp [results, Try.results22, go_sem]) rfl ⟨rfl, (by repeat (first | exact Below.refl _ _ | with_reducible assumption | refine Below.drews ?_ | refine Below.drew ?_ | refine Below.alloc ?_ (by simp <;> omega) _ | refine Below.setCell ?_ (by simp <;> omega) _))⟩
theorem eqPlace_any {cn ce a b c d : Nat} (h1 : Fl .f32 cn a) (h2 : Fl .f32 ce b) (h3 : Fl .f32 cn c) (h4 : Fl .f32 ce d) (w : World) : Calls Try.prog 27 #[pl a b, pl c d] w (RS (.bool true) w) := by
  go_enter Try.func27, Try.ntmps27
  have tk_a : True := trivial; have tk_b : True := trivial
  go_wp2_with (first | (refine wpList_fcv rfl rfl rfl (by kernel_rfl) Try.underlying67 (by decide) (by first | (with_reducible assumption) | (with_reducible exact Fl.ofInt _ _) | exact Fl.not (by decide +kernel) (by decide +kernel)) (fits_wide _) ?_; intro r n hr; simp only [Act.put, List.setIfInBounds_toArray, List.set_cons_succ, List.set_cons_zero]) | (go_at_call 38; clear tk_a; refine (sameFloat_any (c := fcv .f32 .f64 cn) (by assumption) (by assumption) _).mono ?_; rintro e w' ⟨rfl, n, rfl⟩) | (go_at_call 38; clear tk_b; refine (sameFloat_any (c := fcv .f32 .f64 ce) (by assumption) (by assumption) _).mono ?_; rintro e w' ⟨rfl, n, rfl⟩))
  go_ret
  exact ⟨rfl, (by repeat (first | exact Below.refl _ _ | with_reducible assumption | refine Below.drews ?_ | refine Below.drew ?_ | refine Below.alloc ?_ (by simp <;> omega) _ | refine Below.setCell ?_ (by simp <;> omega) _))⟩
/-! ## Valid places -/
def isNorthC (n : Nat) : Bool := fcmp .geq .f32 n 3196059648 && fcmp .leq .f32 n 1048576000
def isEastC (e : Nat) : Bool := fcmp .geq .f32 e 3204448256 && fcmp .lss .f32 e 1056964608
def validC (n e : Nat) : Bool := isNorthC n && isEastC e
theorem l02Is_any {n e a b : Nat} {p : Nat} (h1 : Fl .f32 n a) (h2 : Fl .f32 e b) (w : World) (c1 : w.cell? ⟨p, 0, none⟩ = some (.float .f32 a)) (c2 : w.cell? ⟨p, 1, none⟩ = some (.float .f32 b)) : Calls Try.prog 39 #[.pointer (some ⟨p, 0, none⟩)] w (RB (validC n e) w) := by
  cases g1 : fcmp .geq .f32 n 3196059648
  · have KV := Keep.mk (show validC n e = false by unfold validC isNorthC; rw [g1]; rfl)
    go_enter Try.func39, Try.ntmps39
    go_wp2_with (first | (refine wpList_fcmp rfl rfl rfl rfl rfl (by first | (with_reducible assumption) | (with_reducible exact Fl.ofInt _ _) | exact Fl.not (by decide +kernel) (by decide +kernel)) (by first | (with_reducible assumption) | (with_reducible exact Fl.ofInt _ _) | exact Fl.not (by decide +kernel) (by decide +kernel)) ?_; simp only [Act.put, List.setIfInBounds_toArray, List.set_cons_succ, List.set_cons_zero, g1]))
    go_ret
    rw [KV.out]
    exact RB.any rfl (by repeat (first | exact Drew.refl _ | refine Drew.more ?_))
  · cases g2 : fcmp .leq .f32 n 1048576000
    · have KV := Keep.mk (show validC n e = false by unfold validC isNorthC; rw [g1, g2]; rfl)
      go_enter Try.func39, Try.ntmps39
      go_wp2_with (first | (refine wpList_fcmp rfl rfl rfl rfl rfl (by first | (with_reducible assumption) | (with_reducible exact Fl.ofInt _ _) | exact Fl.not (by decide +kernel) (by decide +kernel)) (by first | (with_reducible assumption) | (with_reducible exact Fl.ofInt _ _) | exact Fl.not (by decide +kernel) (by decide +kernel)) ?_; simp only [Act.put, List.setIfInBounds_toArray, List.set_cons_succ, List.set_cons_zero, g1]) | (refine wpList_fcmp_g rfl rfl rfl rfl rfl (by first | (with_reducible assumption) | (with_reducible exact Fl.ofInt _ _) | exact Fl.not (by decide +kernel) (by decide +kernel)) (by first | (with_reducible assumption) | (with_reducible exact Fl.ofInt _ _) | exact Fl.not (by decide +kernel) (by decide +kernel)) ?_; simp only [Act.put, List.setIfInBounds_toArray, List.set_cons_succ, List.set_cons_zero, g2]))
      go_ret
      rw [KV.out]
      exact RB.any rfl (by repeat (first | exact Drew.refl _ | refine Drew.more ?_))
    · cases g3 : fcmp .geq .f32 e 3204448256
      · have KV := Keep.mk (show validC n e = false by unfold validC isNorthC isEastC; rw [g1, g2, g3]; rfl)
        go_enter Try.func39, Try.ntmps39
        go_wp2_with (first | (refine wpList_fcmp rfl rfl rfl rfl rfl (by first | (with_reducible assumption) | (with_reducible exact Fl.ofInt _ _) | exact Fl.not (by decide +kernel) (by decide +kernel)) (by first | (with_reducible assumption) | (with_reducible exact Fl.ofInt _ _) | exact Fl.not (by decide +kernel) (by decide +kernel)) ?_; simp only [Act.put, List.setIfInBounds_toArray, List.set_cons_succ, List.set_cons_zero, g1]) | (refine wpList_fcmp_g rfl rfl rfl rfl rfl (by first | (with_reducible assumption) | (with_reducible exact Fl.ofInt _ _) | exact Fl.not (by decide +kernel) (by decide +kernel)) (by first | (with_reducible assumption) | (with_reducible exact Fl.ofInt _ _) | exact Fl.not (by decide +kernel) (by decide +kernel)) ?_; simp only [Act.put, List.setIfInBounds_toArray, List.set_cons_succ, List.set_cons_zero, g2, g3]))
        go_ret
        rw [KV.out]
        exact RB.any rfl (by repeat (first | exact Drew.refl _ | refine Drew.more ?_))
      · have KV := Keep.mk (show validC n e = fcmp .lss .f32 e 1056964608 by unfold validC isNorthC isEastC; rw [g1, g2, g3]; rfl)
        go_enter Try.func39, Try.ntmps39
        go_wp2_with (first | (refine wpList_fcmp rfl rfl rfl rfl rfl (by first | (with_reducible assumption) | (with_reducible exact Fl.ofInt _ _) | exact Fl.not (by decide +kernel) (by decide +kernel)) (by first | (with_reducible assumption) | (with_reducible exact Fl.ofInt _ _) | exact Fl.not (by decide +kernel) (by decide +kernel)) ?_; simp only [Act.put, List.setIfInBounds_toArray, List.set_cons_succ, List.set_cons_zero, g1]) | (refine wpList_fcmp_g rfl rfl rfl rfl rfl (by first | (with_reducible assumption) | (with_reducible exact Fl.ofInt _ _) | exact Fl.not (by decide +kernel) (by decide +kernel)) (by first | (with_reducible assumption) | (with_reducible exact Fl.ofInt _ _) | exact Fl.not (by decide +kernel) (by decide +kernel)) ?_; simp only [Act.put, List.setIfInBounds_toArray, List.set_cons_succ, List.set_cons_zero, g2, g3]))
        go_ret
        rw [KV.out]
        exact RB.any rfl (by repeat (first | exact Drew.refl _ | refine Drew.more ?_))
theorem isNorth_any {n a : Nat} (h1 : Fl .f32 n a) (w : World) : Calls Try.prog 45 #[.float .f32 a] w (RB (isNorthC n) w) := by
  cases g1 : fcmp .geq .f32 n 3196059648
  · have KV := Keep.mk (show isNorthC n = false by unfold isNorthC; rw [g1]; rfl)
    go_enter Try.func45, Try.ntmps45
    go_wp2_with (first | (refine wpList_fcmp rfl rfl rfl rfl rfl (by first | (with_reducible assumption) | (with_reducible exact Fl.ofInt _ _) | exact Fl.not (by decide +kernel) (by decide +kernel)) (by first | (with_reducible assumption) | (with_reducible exact Fl.ofInt _ _) | exact Fl.not (by decide +kernel) (by decide +kernel)) ?_; simp only [Act.put, List.setIfInBounds_toArray, List.set_cons_succ, List.set_cons_zero, g1]))
    go_ret
    rw [KV.out]
    exact RB.any rfl (by repeat (first | exact Drew.refl _ | refine Drew.more ?_))
  · have KV := Keep.mk (show isNorthC n = fcmp .leq .f32 n 1048576000 by unfold isNorthC; rw [g1]; rfl)
    go_enter Try.func45, Try.ntmps45
    go_wp2_with (first | (refine wpList_fcmp rfl rfl rfl rfl rfl (by first | (with_reducible assumption) | (with_reducible exact Fl.ofInt _ _) | exact Fl.not (by decide +kernel) (by decide +kernel)) (by first | (with_reducible assumption) | (with_reducible exact Fl.ofInt _ _) | exact Fl.not (by decide +kernel) (by decide +kernel)) ?_; simp only [Act.put, List.setIfInBounds_toArray, List.set_cons_succ, List.set_cons_zero, g1]) | (refine wpList_fcmp_g rfl rfl rfl rfl rfl (by first | (with_reducible assumption) | (with_reducible exact Fl.ofInt _ _) | exact Fl.not (by decide +kernel) (by decide +kernel)) (by first | (with_reducible assumption) | (with_reducible exact Fl.ofInt _ _) | exact Fl.not (by decide +kernel) (by decide +kernel)) ?_; simp only [Act.put, List.setIfInBounds_toArray, List.set_cons_succ, List.set_cons_zero]))
    go_ret
    rw [KV.out]
    exact RB.any rfl (by repeat (first | exact Drew.refl _ | refine Drew.more ?_))
theorem iValidPlace_any {n e a b : Nat} (h1 : Fl .f32 n a) (h2 : Fl .f32 e b) (w : World) : Calls Try.prog 36 #[pl a b] w (RS (.bool (validC n e)) w) := by
  have KN := Keep.mk (isNorth_any h1)
  cases g1 : isNorthC n
  · have KV := Keep.mk (show validC n e = false by unfold validC; rw [g1]; rfl)
    go_enter Try.func36, Try.ntmps36
    go_wp2_with (go_at_call 45; refine (KN.out _).mono ?_; rw [g1]; rintro e w' ⟨rfl, n, rfl⟩)
    go_ret
    rw [KV.out]
    exact ⟨rfl, (by repeat (first | exact Below.refl _ _ | with_reducible assumption | refine Below.drews ?_ | refine Below.drew ?_ | refine Below.alloc ?_ (by simp <;> omega) _ | refine Below.setCell ?_ (by simp <;> omega) _))⟩
  · cases g2 : fcmp .geq .f32 e 3204448256
    · have KV := Keep.mk (show validC n e = false by unfold validC isEastC; rw [g1, g2]; rfl)
      go_enter Try.func36, Try.ntmps36
      go_wp2_with (first | (go_at_call 45; refine (KN.out _).mono ?_; rw [g1]; rintro e w' ⟨rfl, n, rfl⟩) | (refine wpList_fcmp_g rfl rfl rfl rfl rfl (by first | (with_reducible assumption) | (with_reducible exact Fl.ofInt _ _) | exact Fl.not (by decide +kernel) (by decide +kernel)) (by first | (with_reducible assumption) | (with_reducible exact Fl.ofInt _ _) | exact Fl.not (by decide +kernel) (by decide +kernel)) ?_; simp only [Act.put, List.setIfInBounds_toArray, List.set_cons_succ, List.set_cons_zero, g2]))
      go_ret
      rw [KV.out]
      exact ⟨rfl, (by repeat (first | exact Below.refl _ _ | with_reducible assumption | refine Below.drews ?_ | refine Below.drew ?_ | refine Below.alloc ?_ (by simp <;> omega) _ | refine Below.setCell ?_ (by simp <;> omega) _))⟩
    · have KV := Keep.mk (show validC n e = fcmp .lss .f32 e 1056964608 by unfold validC isEastC; rw [g1, g2]; rfl)
      go_enter Try.func36, Try.ntmps36
      go_wp2_with (first | (go_at_call 45; refine (KN.out _).mono ?_; rw [g1]; rintro e w' ⟨rfl, n, rfl⟩) | (refine wpList_fcmp_g rfl rfl rfl rfl rfl (by first | (with_reducible assumption) | (with_reducible exact Fl.ofInt _ _) | exact Fl.not (by decide +kernel) (by decide +kernel)) (by first | (with_reducible assumption) | (with_reducible exact Fl.ofInt _ _) | exact Fl.not (by decide +kernel) (by decide +kernel)) ?_; simp only [Act.put, List.setIfInBounds_toArray, List.set_cons_succ, List.set_cons_zero, g2]))
      go_ret
      rw [KV.out]
      exact ⟨rfl, (by repeat (first | exact Below.refl _ _ | with_reducible assumption | refine Below.drews ?_ | refine Below.drew ?_ | refine Below.alloc ?_ (by simp <;> omega) _ | refine Below.setCell ?_ (by simp <;> omega) _))⟩
end Go.Proofs.Ytmioclcipdifpaa
