/-
  Structs of float32s: what copies and compares them (toPlace, toWay, eqPlace, eqWay), and how the arguments are opened. No premise beyond those named.
-/
import Derived.Test.YthambmgibelpkaaDoorCn
import Derived.Lib.SmallJoins
namespace Go.Proofs.YthambmgibelpkaaDoor
open Go Go.RowKit
set_option maxRecDepth 100000

@[go_sem] theorem run_store_float {P : Program} {w : World} {a : Addr} {m : Mode} (k : FloatKind) (b : Nat) : (store a (.float k b) m).run P w = stored P w a (.float k b) m := run_store P w a _ m rfl
structure Hb (p : Prop) : Prop where
  out : p
/-- 'returns v; nothing that was there has been written' -/
def RS (v : Value) (w : World) (e : Ending) (w' : World) : Prop := e = .returned v ∧ Below w.heap.size w w'
theorem bcell {W w1 : World} (hb : Below W.heap.size W w1) : (∀ b o, b < W.heap.size → w1.cell? ⟨b, o, none⟩ = W.cell? ⟨b, o, none⟩) ∧ (∀ b o, b < W.heap.size → w1.frozen? ⟨b, o, none⟩ = W.frozen? ⟨b, o, none⟩) :=
  ⟨fun b o h => hb.cell (p := ⟨b, o, none⟩) h, fun b o h => hb.frozen (p := ⟨b, o, none⟩) h⟩
theorem Below.drews {B : Nat} {a w : World} {n : Nat} (h : Below B a w) : Below B a (w.drewN n) := ⟨h.os, h.tape, h.output, h.size, h.block⟩
/-- Below a call's own world, from a world before. -/
theorem Below.on {B : Nat} {a w w' : World} (h : Below B a w) (k : Below w.heap.size w w') (hB : B ≤ w.heap.size) : Below B a w' := h.trans (k.mono hB)
/-- A cell that is there stays as it is. -/
theorem Below.keep {w w' : World} (hb : Below w.heap.size w w') {p : Addr} {v : Value} (h : w.cell? p = some v) : w'.cell? p = some v := by
  rw [hb.cell (block_lt_of_cell h)]; exact h
/-- A cell that may be written: what it holds. -/
structure At (w : World) (p : Addr) (v : Value) : Prop where
  cell : w.cell? p = some v
  free : w.frozen? p = false
  lt : p.block < w.heap.size
theorem At.keep {w w' : World} (hb : Below w.heap.size w w') {p : Addr} {v : Value} (hc : w.cell? p = some v) (hz : w.frozen? p = false) : At w' p v :=
  have hl := block_lt_of_cell hc
  ⟨Below.keep hb hc, by rw [hb.frozen hl]; exact hz, Nat.lt_of_lt_of_le hl hb.size⟩
theorem At.re {w1 w w' : World} {p : Addr} {v : Value} (_h : At w1 p v) (hb : Below w.heap.size w w') (hc : w.cell? p = some v) (hz : w.frozen? p = false) : At w' p v := At.keep hb hc hz
theorem At.same {w : World} {p : Addr} {v : Value} (h : At w p v) : At w p v := h
abbrev pl (a b : Nat) : Value := .agg #[.float .f32 a, .float .f32 b]
abbrev wy (a b c : Nat) : Value := .agg #[.float .f32 a, .float .f32 b, .float .f32 c]
section
open Go.ChangeShapes Go.WideShapes Go.Deep Go.Joins
variable {H : Type} {enc : TypeId × Value → H} {P : Program} {w : World} {base : Nat} {spare : Nat → Bool} {held : Bool}
theorem trod_f32w {t : TypeId} {fuel : Nat} {cs : List Value} {x : DataW H × List MemPlace} (ht : P.underlying t = some (.float .f32)) (h : DataW.trod enc P w base spare held fuel t cs = some x) : ∃ n, cs = [.float .f32 n] ∧ (Lit.float .f32 n).wf = true := by
  cases fuel with
  | zero => simp [DataW.trod] at h
  | succ n =>
    unfold DataW.trod at h
    rw [ht] at h
    split at h <;> simp_all
theorem open_place {r : Reach} {b0 : Nat} {t e : TypeId} {f0 f1 : Field} {v : Value} {d : DataW H} {p : List MemPlace} (hs : P.underlying t = some (.struct #[f0, f1])) (he : P.underlying e = some (.float .f32)) (hone : (oneCellFields P #[f0, f1] && (f0.type == e && f1.type == e)) = true) (hC : P.cellsOf t = 2)
    (hv : Value.okWide P w r b0 t v) (h : DataW.Trod enc P w base spare held t v d p) : ∃ a b, v = .agg #[.float .f32 a, .float .f32 b] ∧ (Lit.float .f32 a).wf = true ∧ (Lit.float .f32 b).wf = true := by
  simp only [Bool.and_eq_true, beq_iff_eq] at hone
  obtain ⟨ho, h0, h1⟩ := hone
  obtain ⟨v0, v1, y0, y1, n, rfl, _, _, g0, g1⟩ := open_agg2 hs ho hC hv h
  rw [h0] at g0
  rw [h1] at g1
  obtain ⟨a, ha, wa⟩ := trod_f32w he g0
  obtain ⟨b, hb, wb⟩ := trod_f32w he g1
  injection ha with ha _
  injection hb with hb _
  exact ⟨a, b, by rw [ha, hb], wa, wb⟩
theorem open_way {r : Reach} {b0 : Nat} {t e : TypeId} {f0 f1 f2 : Field} {v : Value} {d : DataW H} {p : List MemPlace} (hs : P.underlying t = some (.struct #[f0, f1, f2])) (he : P.underlying e = some (.float .f32)) (hone : (oneCellFields P #[f0, f1, f2] && (f0.type == e && (f1.type == e && f2.type == e))) = true) (hC : P.cellsOf t = 3)
    (hv : Value.okWide P w r b0 t v) (h : DataW.Trod enc P w base spare held t v d p) : ∃ a b c, v = .agg #[.float .f32 a, .float .f32 b, .float .f32 c] ∧ (Lit.float .f32 a).wf = true ∧ (Lit.float .f32 b).wf = true ∧ (Lit.float .f32 c).wf = true := by
  simp only [Bool.and_eq_true, beq_iff_eq] at hone
  obtain ⟨ho, h0, h1, h2⟩ := hone
  obtain ⟨v0, v1, v2, y0, y1, y2, n, rfl, _, _, g0, g1, g2⟩ := open_agg3 hs ho hC hv h
  rw [h0] at g0
  rw [h1] at g1
  rw [h2] at g2
  obtain ⟨a, ha, wa⟩ := trod_f32w he g0
  obtain ⟨b, hb, wb⟩ := trod_f32w he g1
  obtain ⟨c, hc, wc⟩ := trod_f32w he g2
  injection ha with ha _
  injection hb with hb _
  injection hc with hc _
  exact ⟨a, b, c, by rw [ha, hb, hc], wa, wb, wc⟩
end
/-! ## Valid places -/
def isNorthC (n : Nat) : Bool := fcmp .geq .f32 n 3196059648 && fcmp .leq .f32 n 1048576000
def isEastC (e : Nat) : Bool := fcmp .geq .f32 e 3204448256 && fcmp .lss .f32 e 1056964608
def validC (n e : Nat) : Bool := isNorthC n && isEastC e
end Go.Proofs.YthambmgibelpkaaDoor
