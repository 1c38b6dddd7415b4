/-
  A drawn region in which calls and float operations yield one of many values: each operation of the head yields, in every world of a class, some value of a set that is told ahead, and leaves a world of the class; one walk in the order of the text, over sets of states, serves every order. No premise beyond those named.
-/
import Derived.Test.YthambmgibelpkaaDoorTail
namespace Go.Proofs.YthambmgibelpkaaDoor
open Go Go.RowKit

section
variable {P : Program} {ops : Array Oper} {md : Region.Mode} {C : World → Prop} {Q : Exit → Act → World → Prop}
/-- what an operation may yield, and where it leaves -/
def someUpon (P : Program) (C : World → Prop) (w : World) (V : Value → Prop) : Result Next → Prop
  | .ok (.value u) w' => C w' ∧ V u
  | .ok .skip w' => C w' ∧ V undef
  | .ok (.enter f args) w' => w' = w ∧ Calls P f args w (fun e w'' => ∃ v, V v ∧ e = .returned v ∧ C w'')
  | _ => False
def YV (P : Program) (ops : Array Oper) (C : World → Prop) (o : Oper) (V : Value → Prop) (a : Act) : Prop :=
  (Region.wanted o (yielded ops a.tmps) = true ∧ ∀ w, C w → someUpon P C w V ((execOp a.eval o).run P w)) ∨ (Region.wanted o (yielded ops a.tmps) = false ∧ V undef)
theorem YV.of_same {o : Oper} {V : Value → Prop} {a a' : Act} (hy : YV P ops C o V a) (he : execOp a'.eval o = execOp a.eval o) (hw : Region.wanted o (yielded ops a'.tmps) = Region.wanted o (yielded ops a.tmps)) : YV P ops C o V a' := by
  unfold YV at *
  rw [he, hw]
  exact hy
theorem YV.of_one {o : Oper} {v : Value} {a : Act} (h : YieldsIn P ops C o v a) : YV P ops C o (· = v) a := by
  rcases h with ⟨h1, h2⟩ | ⟨h1, rfl⟩
  · refine .inl ⟨h1, fun w hw => ?_⟩
    have h3 := h2 w hw
    unfold Oper.quietAt at h3
    generalize (execOp a.eval o).run P w = r at *
    cases r with
    | ok n w' =>
      cases n <;> simp only [Oper.quietUpon] at h3 <;> simp only [someUpon]
      case value u => obtain ⟨rfl, rfl⟩ := h3; exact ⟨hw, rfl⟩
      case skip => obtain ⟨rfl, rfl⟩ := h3; exact ⟨hw, rfl⟩
      case enter f args => obtain ⟨rfl, hc⟩ := h3; exact ⟨rfl, hc.mono fun e w'' ⟨he, hw''⟩ => ⟨v, rfl, he, hw''⟩⟩
    | halt x w' => simp only [Oper.quietUpon] at h3
  · exact .inr ⟨h1, rfl⟩
theorem YV.wpOp {i : Nat} {o : Oper} {V : Value → Prop} {a : Act} {w : World} {K : Act → World → Prop} (ho : ops[i]? = some o) (hy : YV P ops C o V a) (hw : C w) (h : ∀ v w', V v → C w' → K (a.put o.dst v) w') : Go.wpOp P ops Q i K a w := by
  unfold Go.wpOp
  simp only [ho]
  rcases hy with ⟨h1, h2⟩ | ⟨h1, h2⟩
  · simp only [h1, if_true]
    left
    have h3 := h2 w hw
    unfold Oper.wp
    generalize (execOp a.eval o).run P w = r at *
    cases r with
    | ok n w' =>
      cases n <;> simp only [someUpon] at h3 <;> simp only [Oper.upon]
      case value u => exact h _ _ h3.2 h3.1
      case skip => exact h _ _ h3.2 h3.1
      case enter f args =>
        obtain ⟨e1, hc⟩ := h3
        rw [e1]
        exact hc.mono fun e w'' ⟨v, hv, he, hw''⟩ => by subst he; exact h _ _ hv hw''
    | halt x w' => simp only [someUpon] at h3
  · simp only [h1, Bool.false_eq_true, if_false]
    exact h _ _ h2 hw
theorem YV.some {o : Oper} {V : Value → Prop} {a : Act} (hy : YV P ops C o V a) (hC : ∃ w, C w) : ∃ v, V v := by
  obtain ⟨w, hw⟩ := hC
  rcases hy with ⟨_, h2⟩ | ⟨_, h2⟩
  · have h3 := h2 w hw
    generalize (execOp a.eval o).run P w = r at *
    cases r with
    | ok n w' =>
      cases n <;> simp only [someUpon] at h3
      case value u => exact ⟨_, h3.2⟩
      case skip => exact ⟨_, h3.2⟩
      case enter f args =>
        obtain ⟨e, w'', fr, ⟨v, hv, _⟩, _⟩ := h3.2 []
        exact ⟨v, hv⟩
    | halt x w' => simp only [someUpon] at h3
  · exact ⟨_, h2⟩
/-- the states behind a step -/
def putS (S : Act → Prop) (d : Option Nat) (V : Value → Prop) : Act → Prop := fun a' => ∃ a v, S a ∧ V v ∧ a' = a.put d v
/-- Whatever comes up among the first n, f times; then L. -/
def hS (P : Program) (md : Region.Mode) (ops : Array Oper) (C : World → Prop) (n : Nat) (L : Array Bool → (Act → Prop) → Prop) : Nat → Array Bool → (Act → Prop) → Prop
  | 0, done, S => L done S
  | f + 1, done, S => Region.ready md ops done ≠ [] ∧ ∀ i, i ∈ Region.ready md ops done → i < n ∧ ∃ o V, ops[i]? = some o ∧ (∀ a, S a → YV P ops C o V a) ∧ hS P md ops C n L f (done.setIfInBounds i true) (putS S o.dst V)
theorem hS_mono {n : Nat} {L : Array Bool → (Act → Prop) → Prop} (hL : ∀ done S S', (∀ a, S' a → S a) → L done S → L done S') (f : Nat) : ∀ done S S', (∀ a, S' a → S a) → hS P md ops C n L f done S → hS P md ops C n L f done S' := by
  induction f with
  | zero => intro done S S' h H; exact hL done S S' h H
  | succ f ih =>
    intro done S S' h H
    refine ⟨H.1, fun i hi => ?_⟩
    obtain ⟨h1, o, V, ho, hy, hK⟩ := H.2 i hi
    refine ⟨h1, o, V, ho, fun a ha => hy a (h a ha), ih _ _ _ ?_ hK⟩
    rintro a ⟨b, v, hb, hv, rfl⟩
    exact ⟨b, v, h b hb, hv, rfl⟩
theorem any_of_hS {n g : Nat} {L : Array Bool → (Act → Prop) → Prop} (hL : ∀ done S a w, S a → C w → L done S → wpAny P md ops Q g done a w) (f : Nat) :
    ∀ done S a w, S a → C w → hS P md ops C n L f done S → wpAny P md ops Q (f + g) done a w := by
  induction f with
  | zero => intro done S a w ha hw h; rw [Nat.zero_add]; exact hL _ _ _ _ ha hw h
  | succ f ih =>
    intro done S a w ha hw h
    obtain ⟨h1, h2⟩ := h
    have e : f + 1 + g = (f + g) + 1 := by omega
    rw [e]
    refine ⟨fun h0 => absurd h0 h1, ?_⟩
    intro i hi
    obtain ⟨_, o, V, ho, hy, hK⟩ := h2 i hi
    exact (hy a ha).wpOp ho hw (fun v w' hv hw' => ih _ _ _ _ ⟨a, v, ha, hv, rfl⟩ hw' hK)
theorem hS_first {n i : Nat} {o : Oper} {V : Value → Prop} {L : Array Bool → (Act → Prop) → Prop} (hp : Parted md ops n) (ho : ops[i]? = some o) (hin : i < n) (hC : ∃ w, C w)
    (hLm : ∀ done S S', (∀ a, S' a → S a) → L done S → L done S')
    (hL : ∀ done S, L done S → ∀ j, j ∈ Region.ready md ops done → n ≤ j) (f : Nat) :
    ∀ done S, HeadInv md ops n done →
      (∀ j oj, ops[j]? = some oj → j ≠ i → done.getD j true = false → (∀ e ∈ oj.after, Region.binds md e = true → e.on ≠ i) → o.apart ops oj = true) →
      i ∈ Region.ready md ops done → (∀ a, S a → YV P ops C o V a) →
      hS P md ops C n L f (done.setIfInBounds i true) (putS S o.dst V) → hS P md ops C n L (f + 1) done S := by
  have hsel := Region.noSelect_spec hp.sel
  induction f with
  | zero =>
    intro done S inv _ hr hy H
    refine ⟨List.ne_nil_of_mem hr, fun j hj => ⟨hp.low inv hr hin j hj, ?_⟩⟩
    by_cases e : j = i
    · rw [e]; exact ⟨o, V, ho, hy, H⟩
    · have h1 := hL _ _ H j (ready_mono hj e)
      have h2 := hp.low inv hr hin j hj
      omega
  | succ f ih =>
    intro done S inv hfree hr hy H
    refine ⟨List.ne_nil_of_mem hr, fun j hj => ?_⟩
    have hjn := hp.low inv hr hin j hj
    refine ⟨hjn, ?_⟩
    by_cases e : j = i
    · rw [e]; exact ⟨o, V, ho, hy, H⟩
    · obtain ⟨hun, oj, hoj, hall⟩ := mem_ready.1 hj
      have hno : ∀ x ∈ oj.after, Region.binds md x = true → x.on ≠ i := by
        intro x hx hb hxi
        have hz := hall x hx hb
        rw [hxi, getD_both (mem_ready.1 hr).1] at hz
        exact Bool.false_ne_true hz
      obtain ⟨h1, h2, h3⟩ := Oper.apart_spec (hfree j oj hoj e hun hno)
      obtain ⟨_, oj', Vj, hoj', hyj, hK⟩ := H.2 j (ready_mono hj e)
      obtain rfl : oj = oj' := Option.some.inj (hoj.symm.trans hoj')
      refine ⟨oj, Vj, hoj, fun a ha => ?_, ?_⟩
      · obtain ⟨v, hv⟩ := (hy a ha).some hC
        exact (hyj _ ⟨a, v, ha, hv, rfl⟩).of_same (execOp_put oj (fun cs b => hsel j oj cs b hoj) a o.dst v h1).symm (wanted_put oj a o.dst v h1).symm
      · refine ih (done.setIfInBounds j true) _ (inv.set hj hjn) ?_ (ready_mono hr (Ne.symm e)) ?_ ?_
        · intro k ok hk hki hku hkn
          by_cases hjk : j = k
          · subst hjk
            exact hfree j ok hk hki hun hkn
          · rw [getD_set_ne true hjk] at hku
            exact hfree k ok hk hki hku hkn
        · rintro a' ⟨a, u, ha, _, rfl⟩
          exact (hy a ha).of_same (execOp_put o (fun cs b => hsel i o cs b ho) a oj.dst u h3) (wanted_put o a oj.dst u h3)
        · rw [Array.setIfInBounds_comm _ _ e]
          refine hS_mono hLm f _ _ _ ?_ hK
          rintro a' ⟨b, v, ⟨a, u, ha, hu, rfl⟩, hv, rfl⟩
          exact ⟨_, u, ⟨a, v, ha, hv, rfl⟩, hu, (Act.put_comm a v u h2).symm⟩
/-- The walk in the order of the text. -/
def lexS (P : Program) (ops : Array Oper) (C : World → Prop) (K : Act → Prop) : List Oper → (Act → Prop) → Prop
  | [], S => ∀ a, S a → K a
  | o :: l, S => ∃ V, (∀ a, S a → YV P ops C o V a) ∧ lexS P ops C K l (putS S o.dst V)
theorem lexS_mono {K : Act → Prop} : ∀ (l : List Oper) {S S' : Act → Prop}, (∀ a, S' a → S a) → lexS P ops C K l S → lexS P ops C K l S'
  | [], _, _, h, H => fun a ha => H a (h a ha)
  | o :: l, _, _, h, ⟨V, hy, hK⟩ => ⟨V, fun a ha => hy a (h a ha), lexS_mono l (fun _ ⟨b, v, hb, hv, he⟩ => ⟨b, v, h b hb, hv, he⟩) hK⟩
theorem hS_lex {n g : Nat} {K : Act → Prop} (hC : ∃ w, C w) (hp : Parted md ops n) (l : List Oper) :
    ∀ (k : Nat) (done : Array Bool) (S : Act → Prop), (∀ j, j < l.length → l[j]? = ops[k + j]?) → k + l.length = n → HeadInv md ops n done →
    Region.lexHead md ops g l.length k done = true → lexS P ops C K l S →
    hS P md ops C n (fun done' S' => Region.seqB md ops g n done' = true ∧ ∀ a, S' a → K a) l.length done S := by
  induction l with
  | nil =>
    intro k done S _ hk _ hB h
    rw [List.length_nil, Nat.add_zero] at hk
    rw [hk] at hB
    exact ⟨hB, h⟩
  | cons o l ih =>
    intro k done S hl hk inv hB h
    rw [List.length_cons] at hk
    have ho : ops[k]? = some o := (hl 0 (Nat.succ_pos _)).symm
    simp only [List.length_cons, Region.lexHead, Bool.and_eq_true] at hB
    have hr : k ∈ Region.ready md ops done := List.contains_iff_mem.1 hB.1.1
    obtain ⟨V, hy, hK⟩ := h
    refine hS_first hp ho (by omega) hC (fun d S S' hs hL => ⟨hL.1, fun a ha => hL.2 a (hs a ha)⟩) (fun d b hL => seqB_ready hL.1) l.length done S inv (Region.free_spec ho hB.1.2) hr hy ?_
    refine ih (k + 1) _ _ (fun j hj => ?_) (by omega) (inv.set hr (by omega)) hB.2 hK
    have := hl (j + 1) (by rw [List.length_cons]; omega)
    rw [List.getElem?_cons_succ] at this
    rw [this]
    congr 1
    omega
theorem region_told {id : Nat} {a : Act} {w : World} {l : List Oper} (n : Nat) (hm : P.follows .mixedOrders = true) (hB : Region.lexTailB .any l.toArray n = true) (hC : C w.drew)
    (h : lexS P l.toArray C (fun a' => ∀ w', C w' → wpList P l.toArray Q (l.drop n) a' w') (l.take n) (· = a)) : (Code.region id l.toArray true).wp P Q a w := by
  unfold Region.lexTailB at hB
  simp only [Bool.and_eq_true, decide_eq_true_eq] at hB
  have hp : Parted .any l.toArray n := ⟨hB.1.1.1.1, hB.1.1.2, hB.1.2, hB.1.1.1.2⟩
  have hn : n < l.length := by simpa using hp.lt
  have h1 : (l.take n).length = n := by rw [List.length_take]; omega
  have h2 : (l.drop n).length = l.toArray.size - n := by simp
  have inv : HeadInv .any l.toArray n (Array.replicate l.toArray.size false) := by
    refine ⟨by simp, fun j oj _ hl => ?_, fun t _ ht => getD_in (by simpa using ht) (getD_replicate_false _ _)⟩
    rw [getD_replicate_false] at hl
    exact absurd hl Bool.false_ne_true
  have H := hS_lex (g := l.toArray.size - n) ⟨_, hC⟩ hp (l.take n) 0 _ (· = a) (fun j hj => by rw [h1] at hj; simp [hj]) (by omega) inv (by rw [h1]; exact hB.2) h
  refine wp_region_any hm ?_
  have A := any_of_hS (P := P) (md := .any) (ops := l.toArray) (C := C) (Q := Q) (n := n) (g := l.toArray.size - n) (L := fun done' S' => Region.seqB .any l.toArray (l.toArray.size - n) n done' = true ∧ ∀ a, S' a → ∀ w', C w' → wpList P l.toArray Q (l.drop n) a w') (fun done S a' w' ha' hw' hL => by
    have S1 := wpAny_of_seq (md := .any) (ops := l.toArray) (Q' := Q) (l.drop n) n done a' w' (fun j => by simp [List.getElem?_drop]) (by rw [h2]; exact hL.1) (hL.2 a' ha' w' hw')
    rw [h2] at S1
    exact S1) _ _ (fun x => x = a) a _ rfl hC H
  rw [h1, show n + (l.toArray.size - n) = l.toArray.size by omega] at A
  exact A
/-- the same, the region's own operations and what comes behind it behind letters -/
theorem region_tell {id : Nat} {a : Act} {w : World} {l : List Oper} (n : Nat) (hm : P.follows .mixedOrders = true) (hB : Region.lexTailB .any l.toArray n = true) (hC : C w.drew)
    (h : ∀ (K : Act → Prop) (L : Array Oper), (∀ a', (∀ w', C w' → wpList P l.toArray Q (l.drop n) a' w') → K a') → lexS P L C K (l.take n) (· = a)) : (Code.region id l.toArray true).wp P Q a w :=
  region_told n hm hB hC (h _ _ (fun _ h => h))
/-! ## Steps of the walk, over families of states -/
variable {ι : Type} {ρ : ι → Prop} {A : ι → Act} {K : Act → Prop} {o : Oper} {l : List Oper}
def fam (ρ : ι → Prop) (A : ι → Act) : Act → Prop := fun a => ∃ i, ρ i ∧ a = A i
theorem lexS_start {a : Act} (h : lexS P ops C K l (fam (fun _ : Unit => True) (fun _ => a))) : lexS P ops C K l (· = a) := lexS_mono l (fun _ e => ⟨(), trivial, e⟩) h
/-- one value, whatever the letter -/
theorem lexS_det (v : Value) (hy : ∀ i, ρ i → YieldsIn P ops C o v (A i)) (h : lexS P ops C K l (fam ρ (fun i => (A i).put o.dst v))) : lexS P ops C K (o :: l) (fam ρ A) :=
  ⟨(· = v), fun _ ⟨i, hi, e⟩ => by rw [e]; exact YV.of_one (hy i hi), lexS_mono l (fun _ hx => by obtain ⟨_, _, ⟨i, hi, rfl⟩, rfl, rfl⟩ := hx; exact ⟨i, hi, rfl⟩) h⟩
/-- a float that is told -/
theorem lexS_tell (c : Nat) (hy : ∀ i, ρ i → YV P ops C o (fun v => ∃ r, v = .float .f32 r ∧ Fl .f32 c r) (A i)) (h : lexS P ops C K l (fam (fun p : ι × Nat => ρ p.1 ∧ Fl .f32 c p.2) (fun p => (A p.1).put o.dst (.float .f32 p.2)))) : lexS P ops C K (o :: l) (fam ρ A) :=
  ⟨_, fun _ ⟨i, hi, e⟩ => by rw [e]; exact hy i hi, lexS_mono l (fun _ hx => by obtain ⟨_, _, ⟨i, hi, rfl⟩, ⟨r, rfl, hr⟩, rfl⟩ := hx; exact ⟨(i, r), ⟨hi, hr⟩, rfl⟩) h⟩
/-- the worlds that have drawn since W -/
def Dr (W : World) (w : World) : Prop := ∃ q, w = W.drewN q
theorem tS_val {W : World} (v : Value) (hg : o.guard = none) (hr : ∀ i, ρ i → ∀ q, (execOp (A i).eval o).run P (W.drewN q) = .ok (.value v) (W.drewN q)) (h : lexS P ops (Dr W) K l (fam ρ (fun i => (A i).put o.dst v))) : lexS P ops (Dr W) K (o :: l) (fam ρ A) :=
  lexS_det v (fun i hi => .inl ⟨by unfold Region.wanted; rw [hg], fun w hw => by obtain ⟨q, rfl⟩ := hw; unfold Oper.quietAt; rw [hr i hi q]; exact ⟨rfl, rfl⟩⟩) h
theorem tS_call {W : World} (c : Nat) (hg : o.guard = none) {f : FuncId} {args : Array Value} (hr : ∀ i, ρ i → ∀ q, (execOp (A i).eval o).run P (W.drewN q) = .ok (.enter f args) (W.drewN q)) (hc : ∀ q, Calls P f args (W.drewN q) (RF .f32 c (W.drewN q))) (h : lexS P ops (Dr W) K l (fam (fun p : ι × Nat => ρ p.1 ∧ Fl .f32 c p.2) (fun p => (A p.1).put o.dst (.float .f32 p.2)))) : lexS P ops (Dr W) K (o :: l) (fam ρ A) :=
  lexS_tell c (fun i hi => .inl ⟨by unfold Region.wanted; rw [hg], fun w hw => by
    obtain ⟨q, rfl⟩ := hw
    rw [hr i hi q]
    exact ⟨rfl, (hc q).mono fun e w' ⟨r, n, he, hf, hw'⟩ => ⟨_, ⟨r, rfl, hf⟩, he, ⟨q + n, by rw [hw', World.drewN_drewN]⟩⟩⟩⟩) h
theorem tS_fop {W : World} {op : BinOp} {t t' : TypeId} {x y : Operand} (cx cy : Nat) (hg : o.guard = none) (ho : o.op = .binOp op t x y t') (ha : arithOp op = true) (hx : ∀ i, ρ i → ∃ u, (A i).eval x = .float .f32 u ∧ Fl .f32 cx u) (hy : ∀ i, ρ i → ∃ u, (A i).eval y = .float .f32 u ∧ Fl .f32 cy u) (h : lexS P ops (Dr W) K l (fam (fun p : ι × Nat => ρ p.1 ∧ Fl .f32 (fop op .f32 cx cy) p.2) (fun p => (A p.1).put o.dst (.float .f32 p.2)))) : lexS P ops (Dr W) K (o :: l) (fam ρ A) :=
  lexS_tell (fop op .f32 cx cy) (fun i hi => .inl ⟨by unfold Region.wanted; rw [hg], fun w hw => by
    obtain ⟨q, rfl⟩ := hw
    obtain ⟨u, eu, fu⟩ := hx i hi
    obtain ⟨v, ev, fv⟩ := hy i hi
    obtain ⟨r, n, hr, hf⟩ := fop_run (P := P) (W.drewN q) ha t fu fv
    have e : (execOp (A i).eval o).run P (W.drewN q) = .ok (.value (.float .f32 r)) ((W.drewN q).drewN n) := by simp [execOp, ho, eu, ev, eqGuard_float, hr]
    rw [e]
    exact ⟨⟨q + n, by rw [World.drewN_drewN]⟩, r, rfl, hf⟩⟩) h
theorem lexS_end (h : ∀ i, ρ i → K (A i)) : lexS P ops C K [] (fam ρ A) := fun _ ⟨i, hi, e⟩ => by rw [e]; exact h i hi
end
end Go.Proofs.YthambmgibelpkaaDoor
