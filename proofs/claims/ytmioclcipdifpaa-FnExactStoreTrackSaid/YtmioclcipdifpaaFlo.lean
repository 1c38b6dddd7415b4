/-
  Floats by what they tell: 'nrm' makes one word of all not-a-numbers of a kind; 'Fl k c r' says that the word r is told by c. Each float operation of the model, whatever the tape answers, leaves a word that is told by one function of what its operands are told by. No premise.
-/
import Derived.WalkKit
import Derived.WalkLawsBesides
import Derived.Deep.Draws
import Derived.KernelRfl
namespace Go.Proofs.Ytmioclcipdifpaa
open Go

/-- A fact that the walk is not to use. -/
structure Keep (p : Prop) : Prop where
  out : p

/-- The word by which all not-a-numbers of a kind are told. -/
def qn : FloatKind → Nat
  | .f32 => 2143289344
  | .f64 => 9221120237041090560
def isN (k : FloatKind) (x : Nat) : Bool := (k.format.read x).isNaN
def nrm (k : FloatKind) (x : Nat) : Nat := if isN k x then qn k else x

/-- The word r of kind k is told by c. -/
structure Fl (k : FloatKind) (c r : Nat) : Prop where
  eq : nrm k r = c
  wf : (Lit.float k r).wf = true

theorem isN_qn (k : FloatKind) : isN k (qn k) = true := by cases k <;> decide +kernel
theorem wf_qn (k : FloatKind) : (Lit.float k (qn k)).wf = true := by cases k <;> decide +kernel
theorem isN_nrm (k : FloatKind) (x : Nat) : isN k (nrm k x) = isN k x := by
  unfold nrm; split
  · rename_i h; rw [isN_qn, h]
  · rfl
theorem nrm_idem (k : FloatKind) (x : Nat) : nrm k (nrm k x) = nrm k x := by
  by_cases h : isN k x = true
  · have : nrm k x = qn k := by unfold nrm; rw [if_pos h]
    rw [this]; unfold nrm; rw [if_pos (isN_qn k)]
  · have : nrm k x = x := by unfold nrm; rw [if_neg h]
    rw [this, this]
theorem nrm_not {k : FloatKind} {x : Nat} (h : isN k x = false) : nrm k x = x := by unfold nrm; rw [if_neg (by simp [h])]
theorem nrm_is {k : FloatKind} {x : Nat} (h : isN k x = true) : nrm k x = qn k := by unfold nrm; rw [if_pos h]
theorem Fl.not {k : FloatKind} {x : Nat} (h : isN k x = false) (hw : (Lit.float k x).wf = true) : Fl k x x := ⟨nrm_not h, hw⟩
theorem Fl.own {k : FloatKind} {x : Nat} (hw : (Lit.float k x).wf = true) : Fl k (nrm k x) x := ⟨rfl, hw⟩
theorem Fl.nn {k : FloatKind} {c r : Nat} (h : Fl k c r) : isN k c = isN k r := by rw [← h.eq, isN_nrm]
theorem Fl.can {k : FloatKind} {c r : Nat} (h : Fl k c r) : nrm k c = c := by rw [← h.eq, nrm_idem]
theorem wf_nrm {k : FloatKind} {x : Nat} (hw : (Lit.float k x).wf = true) : (Lit.float k (nrm k x)).wf = true := by
  unfold nrm; split
  · exact wf_qn k
  · exact hw
theorem Fl.self {k : FloatKind} {c r : Nat} (h : Fl k c r) : Fl k c c := ⟨h.can, by rw [← h.eq]; exact wf_nrm h.wf⟩
theorem Fl.word {k : FloatKind} {c r : Nat} (h : Fl k c r) (hn : isN k c = false) : r = c := by
  have := h.nn; rw [hn] at this; rw [← h.eq, nrm_not this.symm]

/-! ## Data that are no not-a-numbers are written as words that are none -/
theorem read_word (f : Ieee.Format) (neg : Bool) (rung : Nat) (h : rung < f.signWeight) : (f.word neg rung) % f.signWeight = rung ∧ (f.word neg rung) / f.signWeight = neg.toNat := by
  have hp : 0 < f.signWeight := Nat.lt_of_le_of_lt (Nat.zero_le _) h
  unfold Ieee.Format.word
  cases neg
  · simp [Nat.mod_eq_of_lt h, Nat.div_eq_of_lt h]
  · simp only [if_true]
    constructor
    · rw [Nat.add_mod_left, Nat.mod_eq_of_lt h]
    · rw [Nat.add_div_left _ hp, Nat.div_eq_of_lt h]; rfl
theorem word_notNaN (f : Ieee.Format) (neg : Bool) (rung : Nat) (h : rung ≤ f.infRung) : (f.read (f.word neg rung)).isNaN = false := by
  have hl : rung < f.signWeight := Nat.lt_of_le_of_lt h f.infRung_lt
  obtain ⟨h1, _⟩ := read_word f neg rung hl
  unfold Ieee.Format.read
  simp only [h1]
  split
  · rfl
  · split
    · rfl
    · split
      · rfl
      · omega
theorem write_notNaN (f : Ieee.Format) (d : Ieee.Datum) (h : d.isNaN = false) : (f.read (f.write d)).isNaN = false := by
  cases d with
  | number neg mag place =>
    unfold Ieee.Format.write Ieee.Format.nearest
    dsimp only
    split
    · exact word_notNaN f _ _ (Nat.zero_le _)
    · exact word_notNaN f _ _ (Nat.min_le_right ..)
  | infinity neg => exact word_notNaN f _ _ (Nat.le_refl _)
  | nan neg fr => cases h

/-! ## + - * / -/
def arithOp : BinOp → Bool
  | .add | .sub | .mul | .quo => true
  | _ => false
/-- What an operation's result is told by. -/
def fop (op : BinOp) (k : FloatKind) (x y : Nat) : Nat := (floatBits op k x y).getD (qn k)

theorem sum_nan_l {d e : Ieee.Datum} (h : d.isNaN = true) : d.sum e = none := by cases d <;> first | (cases h; done) | rfl
theorem sum_nan_r {d e : Ieee.Datum} (h : e.isNaN = true) : d.sum e = none := by cases e <;> first | (cases h; done) | (cases d <;> rfl)
theorem product_nan_l {d e : Ieee.Datum} (h : d.isNaN = true) : d.product e = none := by cases d <;> first | (cases h; done) | rfl
theorem product_nan_r {d e : Ieee.Datum} (h : e.isNaN = true) : d.product e = none := by cases e <;> first | (cases h; done) | (cases d <;> rfl)
theorem quotient_nan_l {n : Nat} {d e : Ieee.Datum} (h : d.isNaN = true) : d.quotient n e = none := by cases d <;> first | (cases h; done) | rfl
theorem quotient_nan_r {n : Nat} {d e : Ieee.Datum} (h : e.isNaN = true) : d.quotient n e = none := by cases e <;> first | (cases h; done) | (cases d <;> rfl)
theorem opposite_nan {d : Ieee.Datum} : d.opposite.isNaN = d.isNaN := by cases d <;> rfl

theorem floatBits_l {op : BinOp} {k : FloatKind} {x y : Nat} (h : isN k x = true) : floatBits op k x y = none := by
  unfold isN at h
  unfold floatBits
  cases op <;> first | rfl | skip
  · simp [Ieee.Format.add, sum_nan_l h]
  · simp [Ieee.Format.sub, sum_nan_l h]
  · simp [Ieee.Format.mul, product_nan_l h]
  · simp [Ieee.Format.div, quotient_nan_l h]
theorem floatBits_r {op : BinOp} {k : FloatKind} {x y : Nat} (h : isN k y = true) : floatBits op k x y = none := by
  unfold isN at h
  unfold floatBits
  cases op <;> first | rfl | skip
  · simp [Ieee.Format.add, sum_nan_r h]
  · simp [Ieee.Format.sub, sum_nan_r (opposite_nan.trans h)]
  · simp [Ieee.Format.mul, product_nan_r h]
  · simp [Ieee.Format.div, quotient_nan_r h]
theorem floatBits_nrm (op : BinOp) (k : FloatKind) (x y : Nat) : floatBits op k (nrm k x) (nrm k y) = floatBits op k x y := by
  by_cases hx : isN k x = true
  · rw [floatBits_l hx, floatBits_l (by rw [isN_nrm]; exact hx)]
  · by_cases hy : isN k y = true
    · rw [floatBits_r hy, floatBits_r (by rw [isN_nrm]; exact hy)]
    · rw [nrm_not (by simpa using hx), nrm_not (by simpa using hy)]
theorem sum_some {d e r : Ieee.Datum} (h : d.sum e = some r) : r.isNaN = false := by
  unfold Ieee.Datum.sum at h
  split at h <;> first | (cases h; done) | skip
  · split at h <;> first | (cases h; rfl) | (cases h; done)
  all_goals (first | (cases h; rfl) | (dsimp only at h; cases h; rfl))
theorem product_some {d e r : Ieee.Datum} (h : d.product e = some r) : r.isNaN = false := by
  unfold Ieee.Datum.product at h
  split at h <;> first | (cases h; done) | (cases h; rfl) | (split at h <;> first | (cases h; rfl) | (cases h; done))
theorem quotient_some {n : Nat} {d e r : Ieee.Datum} (h : d.quotient n e = some r) : r.isNaN = false := by
  unfold Ieee.Datum.quotient at h
  split at h <;> first | (cases h; done) | (cases h; rfl) | skip
  split at h
  · split at h <;> first | (cases h; rfl) | (cases h; done)
  · dsimp only at h; cases h; rfl
theorem floatBits_some {op : BinOp} {k : FloatKind} {x y r : Nat} (h : floatBits op k x y = some r) : isN k r = false := by
  unfold floatBits at h
  unfold isN
  have key : ∀ {o : Option Ieee.Datum}, (∀ d, o = some d → d.isNaN = false) → o.map k.format.write = some r → (k.format.read r).isNaN = false := by
    intro o ho hm
    cases o with
    | none => cases hm
    | some d => cases hm; exact write_notNaN _ _ (ho d rfl)
  cases op <;> first | (cases h; done) | skip
  · exact key (fun _ => sum_some) h
  · exact key (fun _ => sum_some) h
  · exact key (fun _ => product_some) h
  · exact key (fun _ => quotient_some) h
theorem fop_of_some {op : BinOp} {k : FloatKind} {x y r : Nat} (h : floatBits op k x y = some r) : fop op k x y = r := by unfold fop; rw [h]; rfl
theorem fop_of_none {op : BinOp} {k : FloatKind} {x y : Nat} (h : floatBits op k x y = none) : fop op k x y = qn k := by unfold fop; rw [h]; rfl

theorem sw32 : FloatKind.f32.format.signWeight = 2147483648 := by decide +kernel
theorem sw64 : FloatKind.f64.format.signWeight = 9223372036854775808 := by decide +kernel
theorem bi32 : FloatKind.f32.format.binade = 8388608 := by decide +kernel
theorem bi64 : FloatKind.f64.format.binade = 4503599627370496 := by decide +kernel
theorem in32 : FloatKind.f32.format.infRung = 2139095040 := by decide +kernel
theorem in64 : FloatKind.f64.format.infRung = 9218868437227405312 := by decide +kernel

/-- A word beyond the rung of infinity is a not-a-number. -/
theorem isN_beyond {k : FloatKind} {x : Nat} (h : k.format.infRung < x % k.format.signWeight) : isN k x = true := by
  unfold isN Ieee.Format.read
  have hb : k.format.binade ≤ k.format.infRung := by cases k <;> decide +kernel
  dsimp only
  rw [if_neg (by omega), if_neg (by omega), if_neg (by omega)]
  rfl
/-- What the tape answers for a not-a-number is one. -/
theorem answer32 (t : Nat) : isN .f32 ((t % 2) * 2 ^ 31 + 0x7f800000 + 1 + (t / 2) % (2 ^ 23 - 1)) = true ∧ (Lit.float .f32 ((t % 2) * 2 ^ 31 + 0x7f800000 + 1 + (t / 2) % (2 ^ 23 - 1))).wf = true := by
  have h2 : t % 2 < 2 := Nat.mod_lt _ (by decide)
  have hm : (t / 2) % (2 ^ 23 - 1) < 2 ^ 23 - 1 := Nat.mod_lt _ (by decide)
  generalize (t / 2) % (2 ^ 23 - 1) = m at *
  generalize t % 2 = s at *
  refine ⟨isN_beyond ?_, wf_of_lt .f32 _ ?_⟩
  · rw [sw32, in32]; omega
  · show _ < 2 ^ 32; omega
theorem answer64 (t : Nat) : isN .f64 ((t % 2) * 2 ^ 63 + 0x7ff0000000000000 + 1 + (t / 2) % (2 ^ 52 - 1)) = true ∧ (Lit.float .f64 ((t % 2) * 2 ^ 63 + 0x7ff0000000000000 + 1 + (t / 2) % (2 ^ 52 - 1))).wf = true := by
  have h2 : t % 2 < 2 := Nat.mod_lt _ (by decide)
  have hm : (t / 2) % (2 ^ 52 - 1) < 2 ^ 52 - 1 := Nat.mod_lt _ (by decide)
  generalize (t / 2) % (2 ^ 52 - 1) = m at *
  generalize t % 2 = s at *
  refine ⟨isN_beyond ?_, wf_of_lt .f64 _ ?_⟩
  · rw [sw64, in64]; omega
  · show _ < 2 ^ 64; omega
theorem Fl.ofN {k : FloatKind} {r : Nat} (h : isN k r = true ∧ (Lit.float k r).wf = true) : Fl k (qn k) r := ⟨nrm_is h.1, h.2⟩

section runs
variable {P : Program} (w : World)
/-- + - * / : whatever the tape answers. -/
theorem fop_run {op : BinOp} (ha : arithOp op = true) (t : TypeId) {k : FloatKind} {cx cy x y : Nat} (hx : Fl k cx x) (hy : Fl k cy y) :
    ∃ r n, (binOp op t (.float k x) (.float k y)).run P w = .ok (.float k r) (w.drewN n) ∧ Fl k (fop op k cx cy) r := by
  have hc : floatBits op k cx cy = floatBits op k x y := by rw [← hx.eq, ← hy.eq, floatBits_nrm]
  cases h : floatBits op k x y with
  | some r =>
    refine ⟨r, 0, run_float_arith w op t k x y r h, ?_⟩
    rw [fop_of_some (hc.trans h)]
    exact Fl.not (floatBits_some h) (floatBits_wf h)
  | none =>
    rw [fop_of_none (hc.trans h)]
    have hr : (binOp op t (.float k x) (.float k y)).run P w = .ok (.float k ((Question.nanBits k x y).cut (w.tape w.drawn (.nanBits k x y)))) (w.drewN 1) := by
      unfold floatBits at h
      cases op <;> first | (cases ha; done) | skip
      all_goals simp [binOp, Op.floatArith, h, Question.forced, World.drewN]
    refine ⟨_, 1, hr, Fl.ofN ?_⟩
    cases k
    · exact answer32 _
    · exact answer64 _

end runs

/-! ## Comparisons -/
theorem order_nan_l {d e : Ieee.Datum} (h : d.isNaN = true) : d.order e = none := by cases d <;> first | (cases h; done) | rfl
theorem order_nan_r {d e : Ieee.Datum} (h : e.isNaN = true) : d.order e = none := by cases e <;> first | (cases h; done) | (cases d <;> rfl)
theorem order_nrm (k : FloatKind) (x y : Nat) : k.format.order (nrm k x) (nrm k y) = k.format.order x y := by
  unfold Ieee.Format.order
  by_cases hx : isN k x = true
  · have h1 : (k.format.read x).isNaN = true := hx
    have h2 : (k.format.read (nrm k x)).isNaN = true := by have := isN_nrm k x; rw [hx] at this; exact this
    rw [order_nan_l h1, order_nan_l h2]
  · by_cases hy : isN k y = true
    · have h1 : (k.format.read y).isNaN = true := hy
      have h2 : (k.format.read (nrm k y)).isNaN = true := by have := isN_nrm k y; rw [hy] at this; exact this
      rw [order_nan_r h1, order_nan_r h2]
    · rw [nrm_not (by simpa using hx), nrm_not (by simpa using hy)]
theorem Fl.order {k : FloatKind} {cx cy x y : Nat} (hx : Fl k cx x) (hy : Fl k cy y) : k.format.order x y = k.format.order cx cy := by
  rw [← hx.eq, ← hy.eq, order_nrm]
theorem order_self_nan {k : FloatKind} {x : Nat} (h : isN k x = true) : k.format.order x x = none := order_nan_l h
theorem signed_refl (a : Int) : compare a a = Ordering.eq := by simp
theorem order_self {k : FloatKind} {x : Nat} (h : isN k x = false) : k.format.order x x = some .eq := by
  unfold isN at h
  unfold Ieee.Format.order
  cases hd : k.format.read x with
  | number s m e => simp [Ieee.Datum.order]
  | infinity s => simp [Ieee.Datum.order]
  | nan s f => rw [hd] at h; cases h

/-! ## Conversions between the kinds -/
/-- What a converted float is told by; nothing is said of it where 'fits' fails. -/
def fcv (s d : FloatKind) (x : Nat) : Nat :=
  match s.format.read x with
  | .nan _ _ => qn d
  | .infinity g => d.format.write (.infinity g)
  | .number g m e => d.format.write (.number g m e)
/-- The number is not too great for the other kind. -/
def fits (s d : FloatKind) (x : Nat) : Bool :=
  match s.format.read x with
  | .number g m e => !(d.format.read (d.format.write (.number g m e))).isInfinity
  | _ => true
theorem fcv_nan {s d : FloatKind} {x : Nat} (h : isN s x = true) : fcv s d x = qn d := by
  unfold isN at h; unfold fcv
  cases hd : s.format.read x with
  | nan => rfl
  | number => rw [hd] at h; cases h
  | infinity => rw [hd] at h; cases h
theorem fits_nan {s d : FloatKind} {x : Nat} (h : isN s x = true) : fits s d x = true := by
  unfold isN at h; unfold fits
  cases hd : s.format.read x with
  | nan => rfl
  | number => rw [hd] at h; cases h
  | infinity => rfl
theorem fcv_nrm (s d : FloatKind) (x : Nat) : fcv s d (nrm s x) = fcv s d x := by
  by_cases h : isN s x = true
  · rw [fcv_nan h, fcv_nan (by rw [isN_nrm]; exact h)]
  · rw [nrm_not (by simpa using h)]
theorem fits_nrm (s d : FloatKind) (x : Nat) : fits s d (nrm s x) = fits s d x := by
  by_cases h : isN s x = true
  · rw [fits_nan h, fits_nan (by rw [isN_nrm]; exact h)]
  · rw [nrm_not (by simpa using h)]
theorem wf_write (k : FloatKind) (d : Ieee.Datum) : (Lit.float k (k.format.write d)).wf = true := wf_of_lt k _ (k.format.write_lt d)

section runs
variable {P : Program} (w : World)
theorem fcv_run (src dst : TypeId) {s k : FloatKind} {cx x : Nat} (hs : (P.underlying src).isSome = true) (hd : P.underlying dst = some (.float k)) (ne : s ≠ k) (hx : Fl s cx x) (hf : fits s k cx = true) :
    ∃ r n, (convert src dst (.float s x)).run P w = .ok (.float k r) (w.drewN n) ∧ Fl k (fcv s k cx) r := by
  obtain ⟨u, hs'⟩ := Option.isSome_iff_exists.1 hs
  have e : fcv s k cx = fcv s k x := by rw [← hx.eq, fcv_nrm]
  have f : fits s k x = true := by rw [← fits_nrm, hx.eq]; exact hf
  rw [e]
  unfold fcv
  unfold fits at f
  cases hr : s.format.read x with
  | nan g fr =>
    have hrun : (convert src dst (.float s x)).run P w = .ok (.float k ((Question.nanConv k x).cut (w.tape w.drawn (.nanConv k x)))) (w.drewN 1) := by
      cases u <;> simp [convert, run_underlying hs', run_underlying hd, Conv.floatToFloat, ne, FloatKind.decode, hr, Question.forced, World.drewN]
    refine ⟨_, 1, hrun, Fl.ofN ?_⟩
    cases k
    · exact answer32 _
    · exact answer64 _
  | infinity g =>
    refine ⟨k.format.write (.infinity g), 0, ?_, Fl.not (write_notNaN _ _ rfl) (wf_write _ _)⟩
    cases u <;> simp [convert, run_underlying hs', run_underlying hd, Conv.floatToFloat, ne, FloatKind.decode, FloatKind.encode, hr, World.drewN]
  | number g m p =>
    rw [hr] at f
    refine ⟨k.format.write (.number g m p), 0, ?_, Fl.not (write_notNaN _ _ rfl) (wf_write _ _)⟩
    simp only [Bool.not_eq_true'] at f
    cases u <;> simp [convert, run_underlying hs', run_underlying hd, Conv.floatToFloat, ne, FloatKind.decode, FloatKind.encode, hr, f, World.drewN]
end runs

/-! ## The walk's arms -/
@[go_sem] theorem unary_neg_float (k : FloatKind) (b : Nat) : Op.unary .neg (.float k b) = pure (.float k (Op.negFloat k b)) := rfl
/-- The world but for some answers drawn from the tape. -/
def Drew (w w' : World) : Prop := ∃ n, w' = w.drewN n
theorem Drew.refl (w : World) : Drew w w := ⟨0, rfl⟩
theorem Drew.more {w w' : World} {n : Nat} (h : Drew w w') : Drew w (w'.drewN n) := by
  obtain ⟨m, rfl⟩ := h; exact ⟨m + n, World.drewN_drewN ..⟩
theorem Drew.trans {a b c : World} (h : Drew a b) (g : Drew b c) : Drew a c := by
  obtain ⟨m, rfl⟩ := g; exact h.more
section arms
variable {P : Program} {ops : Array Oper} {rest : List Oper} {o : Oper} {a : Act} {w : World} {Q : Exit → Act → World → Prop}
theorem eqGuard_float (op : BinOp) (t : TypeId) (x y : Operand) (k : FloatKind) (u v : Nat) (w : World) : (eqGuard op t x y (.float k u) (.float k v)).run P w = .ok () w := by
  unfold eqGuard; cases op <;> simp
theorem wpList_value (hgd : o.guard = none) {v : Value} {w' : World} (hr : (execOp a.eval o).run P w = .ok (.value v) w') (h : wpList P ops Q rest (a.put o.dst v) w') : wpList P ops Q (o :: rest) a w :=
  wpList_plain hgd fun K hK => by unfold Oper.wp; rw [hr]; exact hK _ _ h
theorem wpList_fop (hgd : o.guard = none) {op : BinOp} {t t' : TypeId} {x y : Operand} (ho : o.op = .binOp op t x y t') (ha : arithOp op = true) {k : FloatKind} {cx cy u v : Nat} (hx : a.eval x = .float k u) (hy : a.eval y = .float k v)
    (fx : Fl k cx u) (fy : Fl k cy v) (h : ∀ r n, Fl k (fop op k cx cy) r → wpList P ops Q rest (a.put o.dst (.float k r)) (w.drewN n)) : wpList P ops Q (o :: rest) a w := by
  obtain ⟨r, n, hr, hf⟩ := fop_run (P := P) w ha t fx fy
  refine wpList_value hgd ?_ (h r n hf)
  simp [execOp, ho, hx, hy, eqGuard_float, hr]
theorem wpList_fcv (hgd : o.guard = none) {src dst : TypeId} {x : Operand} (ho : o.op = .convert src dst x) {s k : FloatKind} {cx u : Nat} (hx : a.eval x = .float s u)
    (hs : (P.underlying src).isSome = true) (hd : P.underlying dst = some (.float k)) (ne : s ≠ k) (fx : Fl s cx u) (hf : fits s k cx = true) (h : ∀ r n, Fl k (fcv s k cx) r → wpList P ops Q rest (a.put o.dst (.float k r)) (w.drewN n)) : wpList P ops Q (o :: rest) a w := by
  obtain ⟨r, n, hr, hf⟩ := fcv_run (P := P) w src dst hs hd ne fx hf
  refine wpList_value hgd ?_ (h r n hf)
  simp [execOp, ho, hx, hr]
theorem wpList_value_g (hw : Region.wanted o (yielded ops a.tmps) = true) {v : Value} {w' : World} (hr : (execOp a.eval o).run P w = .ok (.value v) w') (h : wpList P ops Q rest (a.put o.dst v) w') : wpList P ops Q (o :: rest) a w :=
  BigFrame.wpList_want hw fun K hK => by unfold Oper.wp; rw [hr]; exact hK _ _ h
theorem wpList_fop_g (hw : Region.wanted o (yielded ops a.tmps) = true) {op : BinOp} {t t' : TypeId} {x y : Operand} (ho : o.op = .binOp op t x y t') (ha : arithOp op = true) {k : FloatKind} {cx cy u v : Nat} (hx : a.eval x = .float k u) (hy : a.eval y = .float k v)
    (fx : Fl k cx u) (fy : Fl k cy v) (h : ∀ r n, Fl k (fop op k cx cy) r → wpList P ops Q rest (a.put o.dst (.float k r)) (w.drewN n)) : wpList P ops Q (o :: rest) a w := by
  obtain ⟨r, n, hr, hf⟩ := fop_run (P := P) w ha t fx fy
  refine wpList_value_g hw ?_ (h r n hf)
  simp [execOp, ho, hx, hy, eqGuard_float, hr]
theorem wpList_fcv_g (hw : Region.wanted o (yielded ops a.tmps) = true) {src dst : TypeId} {x : Operand} (ho : o.op = .convert src dst x) {s k : FloatKind} {cx u : Nat} (hx : a.eval x = .float s u)
    (hs : (P.underlying src).isSome = true) (hd : P.underlying dst = some (.float k)) (ne : s ≠ k) (fx : Fl s cx u) (hf : fits s k cx = true) (h : ∀ r n, Fl k (fcv s k cx) r → wpList P ops Q rest (a.put o.dst (.float k r)) (w.drewN n)) : wpList P ops Q (o :: rest) a w := by
  obtain ⟨r, n, hr, hf⟩ := fcv_run (P := P) w src dst hs hd ne fx hf
  refine wpList_value_g hw ?_ (h r n hf)
  simp [execOp, ho, hx, hr]
/-- What a comparison tells. -/
def fcmp (op : BinOp) (k : FloatKind) (x y : Nat) : Bool :=
  match op with
  | .eql => k.format.order x y == some .eq
  | .neq => k.format.order x y != some .eq
  | .lss => k.format.order x y == some .lt
  | .leq => k.format.order x y == some .lt || k.format.order x y == some .eq
  | .gtr => k.format.order x y == some .gt
  | .geq => k.format.order x y == some .gt || k.format.order x y == some .eq
  | _ => false
def cmpOp : BinOp → Bool
  | .eql | .neq | .lss | .leq | .gtr | .geq => true
  | _ => false
theorem fcmp_run {op : BinOp} (hc : cmpOp op = true) (t : TypeId) {k : FloatKind} {cx cy x y : Nat} (hx : Fl k cx x) (hy : Fl k cy y) (w : World) :
    (binOp op t (.float k x) (.float k y)).run P w = .ok (.bool (fcmp op k cx cy)) w := by
  have e := hx.order hy
  cases op <;> first | (cases hc; done) | skip
  all_goals simp [binOp, Op.floatCmp, fcmp, e]
theorem wpList_fcmp (hgd : o.guard = none) {op : BinOp} {t t' : TypeId} {x y : Operand} (ho : o.op = .binOp op t x y t') (hc : cmpOp op = true) {k : FloatKind} {cx cy u v : Nat} (hx : a.eval x = .float k u) (hy : a.eval y = .float k v)
    (fx : Fl k cx u) (fy : Fl k cy v) (h : wpList P ops Q rest (a.put o.dst (.bool (fcmp op k cx cy))) w) : wpList P ops Q (o :: rest) a w := by
  refine wpList_value hgd ?_ h
  simp [execOp, ho, hx, hy, eqGuard_float, fcmp_run hc t fx fy]
theorem wpList_fcmp_g (hw : Region.wanted o (yielded ops a.tmps) = true) {op : BinOp} {t t' : TypeId} {x y : Operand} (ho : o.op = .binOp op t x y t') (hc : cmpOp op = true) {k : FloatKind} {cx cy u v : Nat} (hx : a.eval x = .float k u) (hy : a.eval y = .float k v)
    (fx : Fl k cx u) (fy : Fl k cy v) (h : wpList P ops Q rest (a.put o.dst (.bool (fcmp op k cx cy))) w) : wpList P ops Q (o :: rest) a w := by
  refine wpList_value_g hw ?_ h
  simp [execOp, ho, hx, hy, eqGuard_float, fcmp_run hc t fx fy]
/-- float64 of an integer. -/
theorem nearest_notN (k : FloatKind) (n : Int) : isN k (floatOfInt k n) = false := by
  show (k.format.read (k.format.write (.number (n < 0) n.natAbs 0))).isNaN = false
  exact write_notNaN _ _ rfl
theorem Fl.ofInt (k : FloatKind) (n : Int) : Fl k (floatOfInt k n) (floatOfInt k n) := Fl.not (nearest_notN k n) (floatOfInt_wf k n)
theorem wpList_fint (hgd : o.guard = none) {src dst : TypeId} {x : Operand} (ho : o.op = .convert src dst x) {u : Nat} {n : Int} (hx : a.eval x = .float .f64 u)
    (hs : (P.underlying src).isSome = true) (hd : P.underlying dst = some (.int .i64)) (hn : floatToIntVal .f64 u .i64 = some n) (h : wpList P ops Q rest (a.put o.dst (.int .i64 n)) w) : wpList P ops Q (o :: rest) a w := by
  refine wpList_value hgd ?_ h
  simp [execOp, ho, hx, run_convert_float_int w src dst .f64 .i64 u n hs hd hn]
/-- The whole number that is left when the places behind the point are cut off; 0 where it is no int64. -/
def fint (x : Nat) : Int := (floatToIntVal .f64 x .i64).getD 0
end arms
end Go.Proofs.Ytmioclcipdifpaa
