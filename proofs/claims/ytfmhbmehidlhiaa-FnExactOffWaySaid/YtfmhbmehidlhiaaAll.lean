/-
  A drawn region with an allocation that nothing of the head waits for: the quiet operations yield one value each in every world of a class and leave a world below the one that they got; the allocation comes up at any time ahead of the tail; one walk in the order of the text (without the allocation) serves every order.
-/
import Derived.Test.YtfmhbmehidlhiaaTail
namespace Go.Proofs.Ytfmhbmehidlhiaa
open Go Go.RowKit

section
variable {P : Program} {ops : Array Oper} {md : Region.Mode} {C : World → Prop} {R : World → World → Prop} {Q : Exit → Act → World → Prop}
/-- In every world of the class the operation yields v and leaves a world in relation to it. -/
def YR (P : Program) (ops : Array Oper) (C : World → Prop) (R : World → World → Prop) (o : Oper) (v : Value) (a : Act) : Prop :=
  (Region.wanted o (yielded ops a.tmps) = true ∧ ∀ w, C w → Oper.quietUpon P (R w) w v ((execOp a.eval o).run P w)) ∨ (Region.wanted o (yielded ops a.tmps) = false ∧ v = undef)
theorem YR.of_same {o : Oper} {v : Value} {a a' : Act} (hy : YR P ops C R o v a) (he : execOp a'.eval o = execOp a.eval o) (hw : Region.wanted o (yielded ops a'.tmps) = Region.wanted o (yielded ops a.tmps)) : YR P ops C R o v a' := by
  unfold YR at *
  rw [he, hw]
  exact hy
theorem YR.wpOp {i : Nat} {o : Oper} {v : Value} {a : Act} {w : World} {K : Act → World → Prop} (ho : ops[i]? = some o) (hy : YR P ops C R o v a) (hw : C w) (hr : R w w) (h : ∀ w', R w w' → K (a.put o.dst v) w') : Go.wpOp P ops Q i K a w := by
  unfold Go.wpOp
  simp only [ho]
  rcases hy with ⟨h1, h2⟩ | ⟨h1, rfl⟩
  · simp only [h1, if_true]
    left
    have h3 := h2 w hw
    unfold Oper.wp
    generalize (execOp a.eval o).run P w = r at *
    cases r with
    | ok n w' =>
      cases n <;> simp only [Oper.quietUpon] at h3 <;> simp only [Oper.upon]
      case value u =>
        obtain ⟨e1, e2⟩ := h3
        rw [e1, e2]
        exact h _ hr
      case skip =>
        obtain ⟨e1, e2⟩ := h3
        rw [e1, ← e2]
        exact h _ hr
      case enter f args =>
        obtain ⟨e1, hc⟩ := h3
        rw [e1]
        exact hc.mono fun e w'' ⟨he, hw''⟩ => by subst he; exact h _ hw''
    | halt x w' => simp only [Oper.quietUpon] at h3
  · simp only [h1, Bool.false_eq_true, if_false]
    exact h _ hr
/-- Whatever comes up among the operations ahead of number k, f times; then L. -/
def hR (P : Program) (md : Region.Mode) (ops : Array Oper) (C : World → Prop) (R : World → World → Prop) (k : Nat) (L : Array Bool → Act → Prop) : Nat → Array Bool → Act → Prop
  | 0, done, a => L done a
  | f + 1, done, a => (∃ i, i ∈ Region.ready md ops done ∧ i ≠ k) ∧ ∀ i, i ∈ Region.ready md ops done → i ≠ k → i < k ∧ ∃ o v, ops[i]? = some o ∧ YR P ops C R o v a ∧ hR P md ops C R k L f (done.setIfInBounds i true) (a.put o.dst v)
theorem hR_first {k i : Nat} {o : Oper} {v : Value} {L : Array Bool → Act → Prop} (hp : Parted md ops (k + 1)) (ho : ops[i]? = some o) (hin : i < k)
    (hL : ∀ done a, L done a → ∀ j, j ∈ Region.ready md ops done → j ≠ k → k < j) (f : Nat) :
    ∀ done a, HeadInv md ops (k + 1) done →
      (∀ j oj, ops[j]? = some oj → j ≠ i → done.getD j true = false → (∀ e ∈ oj.after, Region.binds md e = true → e.on ≠ i) → o.apart ops oj = true) →
      i ∈ Region.ready md ops done → YR P ops C R o v a →
      hR P md ops C R k L f (done.setIfInBounds i true) (a.put o.dst v) → hR P md ops C R k L (f + 1) done a := by
  have hsel := Region.noSelect_spec hp.sel
  have hik : i ≠ k := Nat.ne_of_lt hin
  induction f with
  | zero =>
    intro done a inv _ hr hy H
    refine ⟨⟨i, hr, hik⟩, fun j hj hjk => ?_⟩
    by_cases e : j = i
    · rw [e]; exact ⟨hin, o, v, ho, hy, H⟩
    · have h1 := hL _ _ H j (ready_mono hj e) hjk
      have h2 := hp.low inv hr (by omega) j hj
      omega
  | succ f ih =>
    intro done a inv hfree hr hy H
    refine ⟨⟨i, hr, hik⟩, fun j hj hjk => ?_⟩
    have hjn := hp.low inv hr (by omega) j hj
    by_cases e : j = i
    · rw [e]; exact ⟨hin, o, v, ho, hy, H⟩
    · obtain ⟨hun, oj, hoj, hall⟩ := mem_ready.1 hj
      have hno : ∀ x ∈ oj.after, Region.binds md x = true → x.on ≠ i := by
        intro x hx hb hxi
        have hz := hall x hx hb
        rw [hxi, getD_both (mem_ready.1 hr).1] at hz
        exact Bool.false_ne_true hz
      obtain ⟨h1, h2, h3⟩ := Oper.apart_spec (hfree j oj hoj e hun hno)
      obtain ⟨_, oj', u, hoj', hyj, hK⟩ := H.2 j (ready_mono hj e) hjk
      obtain rfl : oj = oj' := Option.some.inj (hoj.symm.trans hoj')
      refine ⟨by omega, oj, u, hoj, hyj.of_same (execOp_put oj (fun cs b => hsel j oj cs b hoj) a o.dst v h1).symm (wanted_put oj a o.dst v h1).symm, ?_⟩
      refine ih (done.setIfInBounds j true) _ (inv.set hj hjn) ?_ (ready_mono hr (Ne.symm e)) (hy.of_same (execOp_put o (fun cs b => hsel i o cs b ho) a oj.dst u h3) (wanted_put o a oj.dst u h3)) ?_
      · intro q oq hq hqi hqu hqn
        by_cases hjq : j = q
        · subst hjq
          exact hfree j oq hq hqi hun hqn
        · rw [getD_set_ne true hjq] at hqu
          exact hfree q oq hq hqi hqu hqn
      · rw [Array.setIfInBounds_comm _ _ e, ← Act.put_comm a v u h2]
        exact hK
/-- The walk in the order of the text. -/
def lexR (P : Program) (ops : Array Oper) (C : World → Prop) (R : World → World → Prop) (K : Act → Prop) : List Oper → Act → Prop
  | [], a => K a
  | o :: l, a => ∃ v, YR P ops C R o v a ∧ lexR P ops C R K l (a.put o.dst v)
theorem hR_lex {k g : Nat} {K : Act → Prop} (hp : Parted md ops (k + 1)) (l : List Oper) :
    ∀ (j : Nat) (done : Array Bool) (a : Act), (∀ q, q < l.length → l[q]? = ops[j + q]?) → j + l.length = k → HeadInv md ops (k + 1) done →
    Region.lexHead md ops g (l.length + 1) j done = true → lexR P ops C R K l a →
    hR P md ops C R k (fun done' a' => Region.lexHead md ops g 1 k done' = true ∧ K a') l.length done a := by
  induction l with
  | nil =>
    intro j done a _ hk _ hB h
    rw [List.length_nil, Nat.add_zero] at hk
    subst hk
    exact ⟨hB, h⟩
  | cons o l ih =>
    intro j done a hl hk inv hB h
    rw [List.length_cons] at hk
    have ho : ops[j]? = some o := (hl 0 (Nat.succ_pos _)).symm
    rw [List.length_cons, Region.lexHead] at hB
    simp only [Bool.and_eq_true] at hB
    have hr : j ∈ Region.ready md ops done := List.contains_iff_mem.1 hB.1.1
    obtain ⟨v, hy, hK⟩ := h
    refine hR_first hp ho (by omega) (fun d b hL q hq hqk => ?_) l.length done a inv (Region.free_spec ho hB.1.2) hr hy ?_
    · have h1 := hL.1
      simp only [Region.lexHead, Bool.and_eq_true] at h1
      exact seqB_ready h1.2 q (ready_mono hq hqk)
    · refine ih (j + 1) _ _ (fun q hq => ?_) (by omega) (inv.set hr (by omega)) hB.2 hK
      have := hl (q + 1) (by rw [List.length_cons]; omega)
      rw [List.getElem?_cons_succ] at this
      rw [this]
      congr 1
      omega
/-- The allocation is apart from all that is ahead of it, and nothing ahead of it waits for it. -/
def aloneB (ops : Array Oper) (k : Nat) : Bool := (List.range k).all fun j => match ops[j]?, ops[k]? with
  | some o, some ok => ok.apart ops o && o.after.all (fun e => e.on != k)
  | _, _ => false
theorem aloneB_spec {k j : Nat} {o ok : Oper} (h : aloneB ops k = true) (hj : j < k) (ho : ops[j]? = some o) (hk : ops[k]? = some ok) : ok.apart ops o = true ∧ ∀ e ∈ o.after, e.on ≠ k := by
  have h1 := List.all_eq_true.1 h j (List.mem_range.2 hj)
  rw [ho, hk] at h1
  simp only [Bool.and_eq_true] at h1
  refine ⟨h1.1, fun e he => ?_⟩
  have h2 := Array.all_eq_true'.1 h1.2 e he
  simpa using h2
/-- Behind the allocation. -/
theorem any_after {k g : Nat} {ok : Oper} {pv : Value} {I : World → Prop} {L : Array Bool → Act → Prop} (hp : Parted md ops (k + 1)) (hk : ops[k]? = some ok) (hal : aloneB ops k = true)
    (hI : ∀ w w', I w → R w w' → I w') (hIC : ∀ w, I w → C w) (hR0 : ∀ w, R w w)
    (hT : ∀ done a w, L done a → I w → wpAny P md ops Q g (done.setIfInBounds k true) (a.put ok.dst pv) w) (f : Nat) :
    ∀ done a w, HeadInv md ops (k + 1) done → k ∈ Region.ready md ops done → hR P md ops C R k L f done a → I w → wpAny P md ops Q (f + g) (done.setIfInBounds k true) (a.put ok.dst pv) w := by
  have hsel := Region.noSelect_spec hp.sel
  induction f with
  | zero => intro done a w _ _ h hw; rw [Nat.zero_add]; exact hT _ _ _ h hw
  | succ f ih =>
    intro done a w inv hkr h hw
    obtain ⟨⟨i0, hr0, hne0⟩, h2⟩ := h
    have e : f + 1 + g = (f + g) + 1 := by omega
    rw [e]
    have hi0 := (h2 i0 hr0 hne0).1
    have inv' := inv.set hkr (by omega)
    have hr0' := ready_mono hr0 hne0
    refine ⟨fun h0 => absurd h0 (List.ne_nil_of_mem hr0'), fun i hi => ?_⟩
    have hin := hp.low inv' hr0' (by omega) i hi
    have hsz : k < done.size := by rw [inv.size]; exact (Array.getElem?_eq_some_iff.1 hk).1
    have hik : i ≠ k := by
      intro hik
      have h5 := (mem_ready.1 hi).1
      rw [hik] at h5
      simp [hsz] at h5
    obtain ⟨hun, o, ho, hall⟩ := mem_ready.1 hi
    obtain ⟨hap, haf⟩ := aloneB_spec hal (show i < k by omega) ho hk
    have hi' : i ∈ Region.ready md ops done := by
      refine mem_ready.2 ⟨by rw [getD_set_ne true (Ne.symm hik)] at hun; exact hun, o, ho, fun x hx hb => ?_⟩
      have h6 := hall x hx hb
      rw [getD_set_ne false (Ne.symm (haf x hx))] at h6
      exact h6
    obtain ⟨_, o', v, ho', hy, hK⟩ := h2 i hi' hik
    obtain rfl : o = o' := Option.some.inj (ho.symm.trans ho')
    obtain ⟨a1, a2, _⟩ := Oper.apart_spec hap
    refine YR.wpOp ho (hy.of_same (execOp_put o (fun cs b => hsel i o cs b ho) a ok.dst pv a1) (wanted_put o a ok.dst pv a1)) (hIC _ hw) (hR0 _) (fun w' hr => ?_)
    have h7 := ih (done.setIfInBounds i true) (a.put o.dst v) w' (inv.set hi' (by omega)) (ready_mono hkr (Ne.symm hik)) hK (hI _ _ hw hr)
    rw [Array.setIfInBounds_comm _ _ (Ne.symm hik), Act.put_comm a pv v a2]
    exact h7
/-- While the allocation has not come up. -/
theorem any_before {k g : Nat} {ok : Oper} {I : Value → World → Prop} {L : Array Bool → Act → Prop} (hp : Parted md ops (k + 1)) (hk : ops[k]? = some ok) (hal : aloneB ops k = true)
    (hC : ∀ w w', C w → R w w' → C w') (hI : ∀ v w w', I v w → R w w' → I v w') (hIC : ∀ v w, I v w → C w) (hR0 : ∀ w, R w w)
    (hA : ∀ (a : Act) w, C w → ∃ v w', (execOp a.eval ok).run P w = .ok (.value v) w' ∧ I v w') (hg : ok.guard = none)
    (hL : ∀ done a, L done a → ∀ j, j ∈ Region.ready md ops done → j ≠ k → k < j)
    (hT : ∀ v done a w, L done a → I v w → wpAny P md ops Q g (done.setIfInBounds k true) (a.put ok.dst v) w) (f : Nat) :
    ∀ done a w, HeadInv md ops (k + 1) done → k ∈ Region.ready md ops done → hR P md ops C R k L f done a → C w → wpAny P md ops Q (f + g + 1) done a w := by
  have step : ∀ f done a w, HeadInv md ops (k + 1) done → k ∈ Region.ready md ops done → hR P md ops C R k L f done a → C w → wpOp P ops Q k (wpAny P md ops Q (f + g) (done.setIfInBounds k true)) a w := by
    intro f done a w inv hkr h hw
    obtain ⟨v, w', hrun, hv⟩ := hA a w hw
    unfold wpOp
    simp only [hk]
    rw [if_pos (by unfold Region.wanted; rw [hg])]
    left
    unfold Oper.wp
    rw [hrun]
    exact any_after (I := I v) hp hk hal (hI v) (hIC v) hR0 (hT v) f done a w' inv hkr h hv
  induction f with
  | zero =>
    intro done a w inv hkr h hw
    refine ⟨fun h0 => absurd h0 (List.ne_nil_of_mem hkr), fun i hi => ?_⟩
    by_cases e : i = k
    · rw [e]; exact step 0 done a w inv hkr h hw
    · have h1 := hL _ _ h i hi e
      have h2 := hp.low inv hkr (by omega) i hi
      omega
  | succ f ih =>
    intro done a w inv hkr h hw
    refine ⟨fun h0 => absurd h0 (List.ne_nil_of_mem hkr), fun i hi => ?_⟩
    by_cases e : i = k
    · rw [e]; exact step (f + 1) done a w inv hkr h hw
    · obtain ⟨_, o, v, ho, hy, hK⟩ := h.2 i hi e
      refine YR.wpOp ho hy hw (hR0 _) (fun w' hr => ?_)
      have e2 : f + 1 + g = f + g + 1 := by omega
      rw [e2]
      exact ih _ _ w' (inv.set hi (by have := hp.low inv hkr (by omega) i hi; omega)) (ready_mono hkr (Ne.symm e)) hK (hC _ _ hw hr)
/-- The region's walk: the quiet operations in the order of the text, then the tail for every block that the allocation may have laid. -/
theorem region_alloc {id : Nat} {a : Act} {w : World} {l : List Oper} {ok : Oper} {I : Value → World → Prop} (k : Nat) (hm : P.follows .mixedOrders = true) (hB : Region.lexTailB .any l.toArray (k + 1) = true) (hal : aloneB l.toArray k = true)
    (hk : l.toArray[k]? = some ok) (hg : ok.guard = none) (hn : ok.after = #[])
    (hC : ∀ w w', C w → R w w' → C w') (hI : ∀ v w w', I v w → R w w' → I v w') (hIC : ∀ v w, I v w → C w) (hR0 : ∀ w, R w w) (hC0 : C w.drew)
    (hA : ∀ (a : Act) w, C w → ∃ v w', (execOp a.eval ok).run P w = .ok (.value v) w' ∧ I v w')
    (h : lexR P l.toArray C R (fun a' => ∀ v w', I v w' → wpList P l.toArray Q (l.drop (k + 1)) (a'.put ok.dst v) w') (l.take k) a) : (Code.region id l.toArray true).wp P Q a w := by
  unfold Region.lexTailB at hB
  simp only [Bool.and_eq_true, decide_eq_true_eq] at hB
  have hp : Parted .any l.toArray (k + 1) := ⟨hB.1.1.1.1, hB.1.1.2, hB.1.2, hB.1.1.1.2⟩
  have hlt : k + 1 < l.length := by simpa using hp.lt
  have h1 : (l.take k).length = k := by rw [List.length_take]; omega
  have h2 : (l.drop (k + 1)).length = l.toArray.size - (k + 1) := by simp
  have inv : HeadInv .any l.toArray (k + 1) (Array.replicate l.toArray.size false) := by
    refine ⟨by simp, fun j oj _ hl => ?_, fun t _ ht => getD_in (by simpa using ht) (getD_replicate_false _ _)⟩
    rw [getD_replicate_false] at hl
    exact absurd hl Bool.false_ne_true
  have hkr : k ∈ Region.ready .any l.toArray (Array.replicate l.toArray.size false) := by
    refine mem_ready.2 ⟨getD_in (by simp; omega) (getD_replicate_false _ _), ok, hk, fun e he => ?_⟩
    rw [hn] at he
    simp at he
  have H := hR_lex (C := C) (R := R) (P := P) (g := l.toArray.size - (k + 1)) hp (l.take k) 0 _ a (fun j hj => by rw [h1] at hj; simp [hj]) (by omega) inv (by rw [h1]; exact hB.2) h
  rw [h1] at H
  refine wp_region_any hm ?_
  have A := any_before (Q := Q) (g := l.toArray.size - (k + 1)) hp hk hal hC hI hIC hR0 hA hg (fun done a hL j hj hjk => by
    have h1 := hL.1
    simp only [Region.lexHead, Bool.and_eq_true] at h1
    exact seqB_ready h1.2 j (ready_mono hj hjk)) (fun v done a w hL hw => by
    have h1 := hL.1
    simp only [Region.lexHead, Bool.and_eq_true] at h1
    have S := wpAny_of_seq (md := .any) (Q' := Q) (l.drop (k + 1)) (k + 1) (done.setIfInBounds k true) (a.put ok.dst v) w (fun j => by simp [List.getElem?_drop]) (by rw [h2]; exact h1.2) (hL.2 v w hw)
    rw [h2] at S
    exact S) k _ a _ inv hkr H hC0
  rw [show k + (l.toArray.size - (k + 1)) + 1 = l.toArray.size by simp at hlt ⊢; omega] at A
  exact A
theorem lexR_mono {K K' : Act → Prop} (h : ∀ a, K a → K' a) : ∀ (l : List Oper) (a : Act), lexR P ops C R K l a → lexR P ops C R K' l a
  | [], a, H => h a H
  | _ :: l, _, ⟨v, h1, h2⟩ => ⟨v, h1, lexR_mono h l _ h2⟩
theorem lex_step {K : Act → Prop} {a : Act} {o : Oper} {l : List Oper}
    (h : ∀ K' : Act → Prop, (∀ a, lexR P ops C R K l a → K' a) → if Region.wanted o (yielded ops a.tmps) then ∃ v, (∀ w, C w → Oper.quietUpon P (R w) w v ((execOp a.eval o).run P w)) ∧ K' (a.put o.dst v) else K' (a.put o.dst undef)) : lexR P ops C R K (o :: l) a := by
  have h1 := h _ (fun _ h => h)
  unfold lexR
  by_cases hw : Region.wanted o (yielded ops a.tmps) = true
  · rw [if_pos hw] at h1
    obtain ⟨v, h2, h3⟩ := h1
    exact ⟨v, .inl ⟨hw, h2⟩, h3⟩
  · rw [if_neg hw] at h1
    exact ⟨undef, .inr ⟨by simpa using hw, rfl⟩, h1⟩
theorem lex_nil {K : Act → Prop} {a : Act} (h : K a) : lexR P ops C R K [] a := h
theorem callR {I : Type} {F : I → World} {i : I} {f : FuncId} {args : Array Value} {v : Value} (h : Calls P f args (F i) (RS v (F i))) : Calls P f args (F i) (fun e w' => e = .returned v ∧ Below (F i).heap.size (F i) w') := h
theorem callRT {I : Type} {F : I → World} {i : I} {f : FuncId} {args : Array Value} {v : Value} (h : Calls P f args (F i) (RT v (F i))) : Calls P f args (F i) (fun e w' => e = .returned v ∧ Below (F i).heap.size (F i) w') :=
  h.mono fun _ w' ⟨he, n, hw⟩ => ⟨he, by rw [hw]; exact Below.drews (Below.refl _ _)⟩
/-- The same for a block that is laid in a world of the region. -/
theorem region_fresh {id : Nat} {a : Act} {w : World} {l : List Oper} {ok : Oper} {o : Obj} (k : Nat) (hm : P.follows .mixedOrders = true) (hB : Region.lexTailB .any l.toArray (k + 1) = true) (hal : aloneB l.toArray k = true)
    (hk : l.toArray[k]? = some ok) (hg : ok.guard = none) (hn : ok.after = #[])
    (hA : ∀ (a : Act) w, (execOp a.eval ok).run P w = .ok (.value (.pointer (some ⟨w.heap.size, 0, none⟩))) (w.alloc o))
    (h : ∀ (I : Type) (F : I → World), Nonempty I → Hb (∀ i, Below w.heap.size w (F i)) →
      lexR P l.toArray (fun w' => ∃ i, w' = F i) (fun w1 w2 => Below w1.heap.size w1 w2) (fun a' => ∀ i w', Below ((F i).alloc o).heap.size ((F i).alloc o) w' → wpList P l.toArray Q (l.drop (k + 1)) (a'.put ok.dst (.pointer (some ⟨(F i).heap.size, 0, none⟩))) w') (l.take k) a) :
    (Code.region id l.toArray true).wp P Q a w := by
  obtain ⟨I, F, hI, h0, h1, h2⟩ := class_of w
  refine region_alloc (C := fun w' => ∃ i, w' = F i) (R := fun w1 w2 => Below w1.heap.size w1 w2) (I := fun v w' => ∃ i, v = .pointer (some ⟨(F i).heap.size, 0, none⟩) ∧ Below ((F i).alloc o).heap.size ((F i).alloc o) w') k hm hB hal hk hg hn ?_ ?_ ?_ (fun w => Below.refl _ _) h0 ?_ ?_
  · rintro _ w' ⟨i, rfl⟩ hb
    exact h2.out i w' hb
  · rintro v w1 w2 ⟨i, hv, hb⟩ hr
    exact ⟨i, hv, Below.on hb hr hb.size⟩
  · rintro v w' ⟨i, _, hb⟩
    exact h2.out i w' (Below.on ((Below.refl _ _).alloc (Nat.le_refl _) _) hb (by simp))
  · rintro a _ ⟨i, rfl⟩
    exact ⟨_, _, hA a (F i), i, rfl, Below.refl _ _⟩
  · have H := h I F hI h1
    refine lexR_mono (fun a' ha v w' ⟨i, hv, hb⟩ => ?_) _ _ H
    subst hv
    exact ha i w' hb
end
end Go.Proofs.Ytfmhbmehidlhiaa
