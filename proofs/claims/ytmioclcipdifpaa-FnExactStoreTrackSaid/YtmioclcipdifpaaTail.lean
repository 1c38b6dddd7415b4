/-
  A region that draws its order: all operations but the last few are quiet in a class of worlds (each yields one value in every world of the class, calls may leave another world of the class), and the last few come one after another behind all others: one walk in the order of the text serves every order. No premise beyond those named.
-/
import Derived.Deep.Quiet
import Derived.StillTail
import Derived.Test.YtmioclcipdifpaaSt
import Derived.Deep.RegionWith
import Derived.BigQuiet
namespace Go.Proofs.Ytmioclcipdifpaa
open Go Go.RowKit

section
variable {P : Program} {ops : Array Oper} {md : Region.Mode} {C : World → Prop}
/-- Whatever comes up among the first n, f times; then L. -/
def headQ (P : Program) (md : Region.Mode) (ops : Array Oper) (C : World → Prop) (n : Nat) (L : Array Bool → Act → Prop) : Nat → Array Bool → Act → Prop
  | 0, done, a => L done a
  | f + 1, done, a => Region.ready md ops done ≠ [] ∧ ∀ i, i ∈ Region.ready md ops done → i < n ∧ qOp P ops C i (headQ P md ops C n L f (done.setIfInBounds i true)) a
theorem any_of_headQ {n g : Nat} {L : Array Bool → Act → Prop} {Q : Exit → Act → World → Prop} (hL : ∀ done a w, C w → L done a → wpAny P md ops Q g done a w) (f : Nat) :
    ∀ done a w, C w → headQ P md ops C n L f done a → wpAny P md ops Q (f + g) done a w := by
  induction f with
  | zero => intro done a w hw h; rw [Nat.zero_add]; exact hL _ _ _ hw h
  | succ f ih =>
    intro done a w hw h
    obtain ⟨h1, h2⟩ := h
    have e : f + 1 + g = (f + g) + 1 := by omega
    rw [e]
    refine ⟨fun h0 => absurd h0 h1, ?_⟩
    intro i hi
    exact wpOp_of_qOp hw (fun a' w' hw' hk => ih _ a' w' hw' hk) (h2 i hi).2
/-- The tail's and the head's places, told by the kernel. -/
structure Parted (md : Region.Mode) (ops : Array Oper) (n : Nat) : Prop where
  sel : Region.noSelect ops = true
  sink : Region.sinkB md ops n = true
  chain : Region.chainB md ops n = true
  lt : n < ops.size
theorem Parted.low {n i : Nat} {done : Array Bool} (h : Parted md ops n) (inv : HeadInv md ops n done) (hi : i ∈ Region.ready md ops done) (hin : i < n) : ∀ j, j ∈ Region.ready md ops done → j < n := by
  intro j hj
  apply Nat.lt_of_not_le
  intro hge
  exact tail_waits h.sink h.chain h.lt inv _ i rfl hin (mem_ready.1 hi).1 j hge hj
theorem headQ_first {n i : Nat} {o : Oper} {v : Value} {L : Array Bool → Act → Prop} (hp : Parted md ops n) (ho : ops[i]? = some o) (hin : i < n)
    (hL : ∀ done a, L done a → ∀ j, j ∈ Region.ready md ops done → n ≤ j) (f : Nat) :
    ∀ done a, HeadInv md ops n done →
      (∀ j oj, ops[j]? = some oj → j ≠ i → done.getD j true = false → (∀ e ∈ oj.after, Region.binds md e = true → e.on ≠ i) → o.apart ops oj = true) →
      i ∈ Region.ready md ops done → YieldsIn P ops C o v a →
      headQ P md ops C n L f (done.setIfInBounds i true) (a.put o.dst v) → headQ P md ops C n L (f + 1) done a := by
  have hsel := Region.noSelect_spec hp.sel
  induction f with
  | zero =>
    intro done a inv _ hr hy H
    refine ⟨List.ne_nil_of_mem hr, fun j hj => ⟨hp.low inv hr hin j hj, ?_⟩⟩
    by_cases e : j = i
    · rw [e]; exact hy.qOp ho H
    · have h1 := hL _ _ H j (ready_mono hj e)
      have h2 := hp.low inv hr hin j hj
      omega
  | succ f ih =>
    intro done a inv hfree hr hy H
    refine ⟨List.ne_nil_of_mem hr, fun j hj => ?_⟩
    have hjn := hp.low inv hr hin j hj
    refine ⟨hjn, ?_⟩
    by_cases e : j = i
    · rw [e]; exact hy.qOp ho H
    · obtain ⟨hun, oj, hoj, hall⟩ := mem_ready.1 hj
      have hno : ∀ x ∈ oj.after, Region.binds md x = true → x.on ≠ i := by
        intro x hx hb hxi
        have hz := hall x hx hb
        rw [hxi, getD_both (mem_ready.1 hr).1] at hz
        exact Bool.false_ne_true hz
      have step := qOp_put hoj (hfree j oj hoj e hun hno) (fun cs b => hsel i o cs b ho) (fun cs b => hsel j oj cs b hoj) hy (H.2 j (ready_mono hj e)).2
      refine qOp_mono (fun a' h3 => ?_) step
      refine ih (done.setIfInBounds j true) a' (inv.set hj hjn) ?_ (ready_mono hr (Ne.symm e)) h3.1 ?_
      · intro k ok hk hki hku hkn
        by_cases hjk : j = k
        · subst hjk
          exact hfree j ok hk hki hun hkn
        · rw [getD_set_ne true hjk] at hku
          exact hfree k ok hk hki hku hkn
      · rw [Array.setIfInBounds_comm _ _ e]
        exact h3.2
theorem headQ_lex {n g : Nat} {K : Act → Prop} (hp : Parted md ops n) (l : List Oper) :
    ∀ (k : Nat) (done : Array Bool) (a : Act), (∀ j, j < l.length → l[j]? = ops[k + j]?) → k + l.length = n → HeadInv md ops n done →
    Region.lexHead md ops g l.length k done = true → wpQuiet P ops C K l a →
    headQ P md ops C n (fun done' a' => Region.seqB md ops g n done' = true ∧ K a') l.length done a := by
  induction l with
  | nil =>
    intro k done a _ hk _ hB h
    rw [List.length_nil, Nat.add_zero] at hk
    rw [hk] at hB
    exact ⟨hB, h⟩
  | cons o l ih =>
    intro k done a hl hk inv hB h
    rw [List.length_cons] at hk
    have ho : ops[k]? = some o := (hl 0 (Nat.succ_pos _)).symm
    simp only [List.length_cons, Region.lexHead, Bool.and_eq_true] at hB
    have hr : k ∈ Region.ready md ops done := List.contains_iff_mem.1 hB.1.1
    have hq : qOp P ops C k (wpQuiet P ops C K l) a := by unfold qOp; rw [ho]; exact h
    obtain ⟨v, hy, hK⟩ := yieldsIn_of_qOp ho hq
    refine headQ_first hp ho (by omega) (fun d b hL => seqB_ready hL.1) l.length done a inv (Region.free_spec ho hB.1.2) hr hy ?_
    refine ih (k + 1) _ _ (fun j hj => ?_) (by omega) (inv.set hr (by omega)) hB.2 hK
    have := hl (j + 1) (by rw [List.length_cons]; omega)
    rw [List.getElem?_cons_succ] at this
    rw [this]
    congr 1
    omega
theorem region_tail {id : Nat} {Q : Exit → Act → World → Prop} {a : Act} {w : World} {l : List Oper} (n : Nat) (hm : P.follows .mixedOrders = true) (hB : Region.lexTailB .any l.toArray n = true) (hC : C w.drew)
    (h : wpQuiet P l.toArray C (fun a' => ∀ w', C w' → wpList P l.toArray Q (l.drop n) a' w') (l.take n) a) : (Code.region id l.toArray true).wp P Q a w := by
  unfold Region.lexTailB at hB
  simp only [Bool.and_eq_true, decide_eq_true_eq] at hB
  have hp : Parted .any l.toArray n := ⟨hB.1.1.1.1, hB.1.1.2, hB.1.2, hB.1.1.1.2⟩
  have hn : n < l.length := by simpa using hp.lt
  have h1 : (l.take n).length = n := by rw [List.length_take]; omega
  have h2 : (l.drop n).length = l.toArray.size - n := by simp
  have inv : HeadInv .any l.toArray n (Array.replicate l.toArray.size false) := by
    refine ⟨by simp, fun j oj _ hl => ?_, fun t _ ht => getD_in (by simpa using ht) (getD_replicate_false _ _)⟩
    rw [getD_replicate_false] at hl
    exact absurd hl Bool.false_ne_true
  have H := headQ_lex (g := l.toArray.size - n) hp (l.take n) 0 _ a (fun j hj => by rw [h1] at hj; simp [hj]) (by omega) inv (by rw [h1]; exact hB.2) h
  refine wp_region_any hm ?_
  have A := any_of_headQ (Q := Q) (g := l.toArray.size - n) (fun done a' w' hw' hL => by
    have S := wpAny_of_seq (md := .any) (Q' := Q) (l.drop n) n done a' w' (fun j => by simp [List.getElem?_drop]) (by rw [h2]; exact hL.1) (hL.2 w' hw')
    rw [h2] at S
    exact S) _ _ _ _ hC H
  rw [h1, show n + (l.toArray.size - n) = l.toArray.size by omega] at A
  exact A
/-- The same without a tail. -/
theorem region_class {id : Nat} {Q : Exit → Act → World → Prop} {a : Act} {w : World} {l : List Oper} (hm : P.follows .mixedOrders = true) (hB : Region.lexB .any l.toArray = true) (hC : C w.drew)
    (h : wpQuiet P l.toArray C (fun a' => ∀ w', C w' → Q .normal a' w') l a) : (Code.region id l.toArray true).wp P Q a w :=
  wp_region_quiet hm hB hC (by simpa using h)
/-- An operation that yields v in every world of the class. -/
theorem quiet_value {o : Oper} {rest : List Oper} {Q : Act → Prop} {a : Act} {v : Value} (hg : o.guard = none) (h : ∀ w, C w → (execOp a.eval o).run P w = .ok (.value v) w) (hk : wpQuiet P ops C Q rest (a.put o.dst v)) : wpQuiet P ops C Q (o :: rest) a := by
  refine wpQuiet_step fun K hK => ?_
  rw [if_pos (by unfold Region.wanted; rw [hg])]
  refine ⟨v, fun w hw => ?_, hK _ hk⟩
  unfold Oper.quietAt
  rw [h w hw]
  exact ⟨rfl, rfl⟩
/-- A call that returns v in every world of the class, and leaves one. -/
theorem quiet_callee {o : Oper} {rest : List Oper} {Q : Act → Prop} {a : Act} {v : Value} {f : FuncId} {args : Array Value} (hg : o.guard = none) (h : ∀ w, (execOp a.eval o).run P w = .ok (.enter f args) w) (hc : ∀ w, C w → Calls P f args w (fun e w' => e = .returned v ∧ C w')) (hk : wpQuiet P ops C Q rest (a.put o.dst v)) : wpQuiet P ops C Q (o :: rest) a := by
  refine wpQuiet_step fun K hK => ?_
  rw [if_pos (by unfold Region.wanted; rw [hg])]
  refine ⟨v, fun w hw => ?_, hK _ hk⟩
  unfold Oper.quietAt
  rw [h w]
  exact ⟨rfl, hc w hw⟩
/-- The worlds in which what was there stands as it stood, told by a function of a letter. -/
theorem class_of (W : World) : ∃ (I : Type) (F : I → World), Nonempty I ∧ (∃ i, W.drew = F i) ∧ Hb (∀ i, Below W.heap.size W (F i)) ∧ Hb (∀ i w', Below (F i).heap.size (F i) w' → ∃ j, w' = F j) :=
  ⟨{w' // Below W.heap.size W w'}, fun i => i.val, ⟨⟨W, Below.refl _ _⟩⟩, ⟨⟨W.drew, (Below.refl _ _).drew⟩, rfl⟩, ⟨fun i => i.property⟩, ⟨fun i w' h => ⟨⟨w', Below.on i.property h i.property.size⟩, rfl⟩⟩⟩
theorem region_keep {id : Nat} {Q : Exit → Act → World → Prop} {a : Act} {w : World} {l : List Oper} (n : Nat) (hm : P.follows .mixedOrders = true) (hB : Region.lexTailB .any l.toArray n = true)
    (h : ∀ (I : Type) (F : I → World), Nonempty I → Hb (∀ i, Below w.heap.size w (F i)) → Hb (∀ i w', Below (F i).heap.size (F i) w' → ∃ j, w' = F j) →
      wpQuiet P l.toArray (fun w' => ∃ i, w' = F i) (fun a' => ∀ w', (∃ i, w' = F i) → wpList P l.toArray Q (l.drop n) a' w') (l.take n) a) : (Code.region id l.toArray true).wp P Q a w := by
  obtain ⟨I, F, hI, h0, h1, h2⟩ := class_of w
  exact region_tail (C := fun w' => ∃ i, w' = F i) n hm hB h0 (h I F hI h1 h2)
theorem region_all {id : Nat} {Q : Exit → Act → World → Prop} {a : Act} {w : World} {l : List Oper} (hm : P.follows .mixedOrders = true) (hB : Region.lexB .any l.toArray = true)
    (h : ∀ (I : Type) (F : I → World), Nonempty I → Hb (∀ i, Below w.heap.size w (F i)) → Hb (∀ i w', Below (F i).heap.size (F i) w' → ∃ j, w' = F j) →
      wpQuiet P l.toArray (fun w' => ∃ i, w' = F i) (fun a' => ∀ w', (∃ i, w' = F i) → Q .normal a' w') l a) : (Code.region id l.toArray true).wp P Q a w := by
  obtain ⟨I, F, hI, h0, h1, h2⟩ := class_of w
  exact region_class (C := fun w' => ∃ i, w' = F i) hm hB h0 (h I F hI h1 h2)
theorem keepF {I : Type} {F : I → World} {w : World} (h : Hb (∀ i, Below w.heap.size w (F i))) {p : Addr} {v : Value} (hc : w.cell? p = some v) : ∀ i, (F i).cell? p = some v := fun i => Below.keep (h.out i) hc
theorem keepZ {I : Type} {F : I → World} {w : World} (h : Hb (∀ i, Below w.heap.size w (F i))) {p : Addr} (hlt : p.block < w.heap.size) (hf : w.frozen? p = false) : ∀ i, (F i).frozen? p = false := fun i => by rw [(h.out i).frozen hlt]; exact hf
theorem callS {I : Type} {F : I → World} {i : I} {f : FuncId} {args : Array Value} {v : Value} (hcl : Hb (∀ i w', Below (F i).heap.size (F i) w' → ∃ j, w' = F j)) (h : Calls P f args (F i) (RS v (F i))) : Calls P f args (F i) (fun e w' => e = .returned v ∧ ∃ j, w' = F j) :=
  h.mono fun _ w' ⟨he, hb⟩ => ⟨he, hcl.out i w' hb⟩
theorem callD {I : Type} {F : I → World} {i : I} {f : FuncId} {args : Array Value} {v : Value} (hcl : Hb (∀ i w', Below (F i).heap.size (F i) w' → ∃ j, w' = F j)) (h : Calls P f args (F i) (RT v (F i))) : Calls P f args (F i) (fun e w' => e = .returned v ∧ ∃ j, w' = F j) :=
  h.mono fun _ w' ⟨he, n, hw⟩ => ⟨he, hcl.out i w' (by rw [hw]; exact Below.drews (Below.refl _ _))⟩
theorem exactF {k : FloatKind} {c : Nat} {w : World} {f : FuncId} {args : Array Value} (h : Calls P f args w (RF k c w)) (hn : fin k c = true) : Calls P f args w (RT (.float k c) w) :=
  h.mono fun _ _ ⟨r, n, he, hf, hw⟩ => ⟨by rw [he, hf.word (fin_notN hn)], n, hw⟩
end
theorem fop_exact {P : Program} {op : BinOp} (t : TypeId) {k : FloatKind} {x y : Nat} (hr : fin k (fop op k x y) = true) : ∀ w, (binOp op t (.float k x) (.float k y)).run P w = .ok (.float k (fop op k x y)) w := by
  intro w
  cases h : floatBits op k x y with
  | some r => rw [run_float_arith w op t k x y r h, fop_of_some h]
  | none =>
    rw [fop_of_none h] at hr
    have := fin_notN hr
    rw [isN_qn] at this
    exact absurd this (by decide)
end Go.Proofs.Ytmioclcipdifpaa
