/-
  A drawn region without an allocation, with a late value (the second result of a call, say) for which the stores do not wait: one walk in the order of the text serves every order.
-/
import Derived.Test.YtfmhbmehidlhiaaLate
namespace Go.Proofs.Ytfmhbmehidlhiaa
open Go Go.RowKit

section
variable {P : Program} {ops : Array Oper} {md : Region.Mode} {C : World → Prop} {R : World → World → Prop} {Q : Exit → Act → World → Prop}
/-- Whatever comes up among the first n, f times; then L. -/
def hS (P : Program) (md : Region.Mode) (ops : Array Oper) (C : World → Prop) (R : World → World → Prop) (n : Nat) (L : Array Bool → Act → Prop) : Nat → Array Bool → Act → Prop
  | 0, done, a => L done a
  | f + 1, done, a => (∃ i, i ∈ Region.ready md ops done ∧ i < n) ∧ ∀ i, i ∈ Region.ready md ops done → i < n → ∃ o v, ops[i]? = some o ∧ YR P ops C R o v a ∧ hS P md ops C R n L f (done.setIfInBounds i true) (a.put o.dst v)
theorem hS_first {n i : Nat} {o : Oper} {v : Value} {L : Array Bool → Act → Prop} (hs : Region.noSelect ops = true) (ho : ops[i]? = some o) (hin : i < n)
    (hL : ∀ done a, L done a → ∀ j, j ∈ Region.ready md ops done → n ≤ j) (f : Nat) :
    ∀ done a,
      (∀ j oj, ops[j]? = some oj → j ≠ i → done.getD j true = false → (∀ e ∈ oj.after, Region.binds md e = true → e.on ≠ i) → o.apart ops oj = true) →
      i ∈ Region.ready md ops done → YR P ops C R o v a →
      hS P md ops C R n L f (done.setIfInBounds i true) (a.put o.dst v) → hS P md ops C R n L (f + 1) done a := by
  have hsel := Region.noSelect_spec hs
  induction f with
  | zero =>
    intro done a _ hr hy H
    refine ⟨⟨i, hr, hin⟩, fun j hj hjn => ?_⟩
    by_cases e : j = i
    · rw [e]; exact ⟨o, v, ho, hy, H⟩
    · have h1 := hL _ _ H j (ready_mono hj e)
      omega
  | succ f ih =>
    intro done a hfree hr hy H
    refine ⟨⟨i, hr, hin⟩, fun j hj hjn => ?_⟩
    by_cases e : j = i
    · rw [e]; exact ⟨o, v, ho, hy, H⟩
    · obtain ⟨hun, oj, hoj, hall⟩ := mem_ready.1 hj
      have hno : ∀ x ∈ oj.after, Region.binds md x = true → x.on ≠ i := by
        intro x hx hb hxi
        have hz := hall x hx hb
        rw [hxi, getD_both (mem_ready.1 hr).1] at hz
        exact Bool.false_ne_true hz
      obtain ⟨h1, h2, h3⟩ := Oper.apart_spec (hfree j oj hoj e hun hno)
      obtain ⟨oj', u, hoj', hyj, hK⟩ := H.2 j (ready_mono hj e) hjn
      obtain rfl : oj = oj' := Option.some.inj (hoj.symm.trans hoj')
      refine ⟨oj, u, hoj, hyj.of_same (execOp_put oj (fun cs b => hsel j oj cs b hoj) a o.dst v h1).symm (wanted_put oj a o.dst v h1).symm, ?_⟩
      refine ih (done.setIfInBounds j true) _ ?_ (ready_mono hr (Ne.symm e)) (hy.of_same (execOp_put o (fun cs b => hsel i o cs b ho) a oj.dst u h3) (wanted_put o a oj.dst u h3)) ?_
      · intro q oq hq hqi hqu hqn
        by_cases hjq : j = q
        · subst hjq
          exact hfree j oq hq hqi hun hqn
        · rw [getD_set_ne true hjq] at hqu
          exact hfree q oq hq hqi hqu hqn
      · rw [Array.setIfInBounds_comm _ _ e, ← Act.put_comm a v u h2]
        exact hK
theorem hS_lex {n g : Nat} {K : Act → Prop} (hs : Region.noSelect ops = true) (l : List Oper) :
    ∀ (j : Nat) (done : Array Bool) (a : Act), (∀ q, q < l.length → l[q]? = ops[j + q]?) → j + l.length = n →
    Region.lexHead md ops g l.length j done = true → lexR P ops C R K l a →
    hS P md ops C R n (fun done' a' => Region.seqB md ops g n done' = true ∧ K a') l.length done a := by
  induction l with
  | nil =>
    intro j done a _ hk hB h
    rw [List.length_nil, Nat.add_zero] at hk
    subst hk
    exact ⟨hB, h⟩
  | cons o l ih =>
    intro j done a hl hk hB h
    rw [List.length_cons] at hk
    have ho : ops[j]? = some o := (hl 0 (Nat.succ_pos _)).symm
    rw [List.length_cons, Region.lexHead] at hB
    simp only [Bool.and_eq_true] at hB
    have hr : j ∈ Region.ready md ops done := List.contains_iff_mem.1 hB.1.1
    obtain ⟨v, hy, hK⟩ := h
    refine hS_first hs ho (by omega) (fun d b hL => seqB_ready hL.1) l.length done a (Region.free_spec ho hB.1.2) hr hy ?_
    refine ih (j + 1) _ _ (fun q hq => ?_) (by omega) hB.2 hK
    have := hl (q + 1) (by rw [List.length_cons]; omega)
    rw [List.getElem?_cons_succ] at this
    rw [this]
    congr 1
    omega
def late0B (ops : Array Oper) (n p : Nat) : Bool :=
  Region.noSelect ops && decide (n < ops.size) && sinkP .any ops n p && Region.chainB .any ops n && decide (p < n) && floatB .any ops p && Region.lexHead .any ops (ops.size - n) n 0 (Array.replicate ops.size false)
theorem any_of_hS {n p g : Nat} {op : Oper} {L : Array Bool → Act → Prop} (hs : Region.noSelect ops = true) (hk : sinkP md ops n p = true) (hc : Region.chainB md ops n = true) (hn : n < ops.size) (hpn : p < n) (hfl : floatB md ops p = true)
    (hpo : ops[p]? = some op) (hpu : ∀ a v, YR P ops C R op v a → Yields P ops op v a) (hQ : ∀ d v c a w, Q (.panic c) (Act.put a d v) w → Q (.panic c) a w)
    (hC : ∀ w w', C w → R w w' → C w') (hR0 : ∀ w, R w w)
    (hT : ∀ done a w, L done a → C w → wpAny P md ops Q g done a w) (f : Nat) :
    ∀ done a w, HeadInv md ops n done → hS P md ops C R n L f done a → C w → wpAny P md ops Q (f + g) done a w := by
  have hsel := Region.noSelect_spec hs
  induction f with
  | zero => intro done a w _ h hw; rw [Nat.zero_add]; exact hT _ _ _ h hw
  | succ f ih =>
    intro done a w inv h hw
    obtain ⟨⟨i0, hr0, hi0⟩, h2⟩ := h
    have e : f + 1 + g = (f + g) + 1 := by omega
    rw [e]
    by_cases hpr : p ∈ Region.ready md ops done
    · obtain ⟨o', v, ho', hy, hK⟩ := h2 p hpr hpn
      obtain rfl : op = o' := Option.some.inj (hpo.symm.trans ho')
      exact wpAny_first hpo hsel (hQ op.dst v) (f + g) _ _ w (floatB_spec hfl hpo hpr) hpr (hpu _ v hy) (ih _ _ w (inv.set hpr hpn) hK hw)
    have hi0p : i0 ≠ p := fun hh => hpr (hh ▸ hr0)
    refine ⟨fun h0 => absurd h0 (List.ne_nil_of_mem hr0), fun i hi => ?_⟩
    have hin : i < n := by
      apply Nat.lt_of_not_le
      intro hge
      exact tail_waits_but hk hc hn inv _ i0 rfl hi0 hi0p (mem_ready.1 hr0).1 i hge hi
    obtain ⟨o, v, ho, hy, hK⟩ := h2 i hi hin
    exact YR.wpOp ho hy hw (hR0 _) (fun w' hr => ih _ _ w' (inv.set hi hin) hK (hC _ _ hw hr))
/-- The region's walk: the quiet operations in the order of the text, then the tail. -/
theorem region_late0 {id : Nat} {a : Act} {w : World} {l : List Oper} {op : Oper} (n p : Nat) (hm : P.follows .mixedOrders = true) (hB : late0B l.toArray n p = true)
    (hpo : l.toArray[p]? = some op) (hpu : ∀ (C : World → Prop) (R : World → World → Prop) a v, (∃ w, C w) → YR P l.toArray C R op v a → Yields P l.toArray op v a) (hQ : ∀ d v c a w, Q (.panic c) (Act.put a d v) w → Q (.panic c) a w)
    (h : ∀ (I : Type) (F : I → World), Nonempty I → Hb (∀ i, Below w.heap.size w (F i)) →
      lexR P l.toArray (fun w' => ∃ i, w' = F i) (fun w1 w2 => Below w1.heap.size w1 w2) (fun a' => ∀ i, wpList P l.toArray Q (l.drop n) a' (F i)) (l.take n) a) : (Code.region id l.toArray true).wp P Q a w := by
  obtain ⟨I, F, hI, h0, h1, h2⟩ := class_of w
  have H := h I F hI h1
  unfold late0B at hB
  simp only [Bool.and_eq_true, decide_eq_true_eq] at hB
  have hlt : n < l.length := by simpa using hB.1.1.1.1.1.2
  have e1 : (l.take n).length = n := by rw [List.length_take]; omega
  have e2 : (l.drop n).length = l.toArray.size - n := by simp
  have inv : HeadInv .any l.toArray n (Array.replicate l.toArray.size false) := by
    refine ⟨by simp, fun j oj _ hl => ?_, fun t _ ht => getD_in (by simpa using ht) (getD_replicate_false _ _)⟩
    rw [getD_replicate_false] at hl
    exact absurd hl Bool.false_ne_true
  have S := hS_lex (P := P) (md := .any) (n := n) (g := l.toArray.size - n) hB.1.1.1.1.1.1 (l.take n) 0 _ a (fun j hj => by rw [e1] at hj; simp [hj]) (by omega) (by rw [e1]; exact hB.2) H
  rw [e1] at S
  refine wp_region_any hm ?_
  have A := any_of_hS (Q := Q) (g := l.toArray.size - n) hB.1.1.1.1.1.1 hB.1.1.1.1.2 hB.1.1.1.2 hB.1.1.1.1.1.2 hB.1.1.2 hB.1.2 hpo (fun a v hy => hpu _ _ a v ⟨_, h0⟩ hy) hQ (by rintro _ w' ⟨i, rfl⟩ hb; exact h2.out i w' hb) (fun w => Below.refl _ _) (fun done a w hL hw => by
    obtain ⟨i, rfl⟩ := hw
    have T := wpAny_of_seq (md := .any) (Q' := Q) (l.drop n) n done a (F i) (fun j => by simp [List.getElem?_drop]) (by rw [e2]; exact hL.1) (hL.2 i)
    rw [e2] at T
    exact T) n _ a _ inv S h0
  rw [show n + (l.toArray.size - n) = l.toArray.size by simp at hlt ⊢; omega] at A
  exact A
end
end Go.Proofs.Ytfmhbmehidlhiaa
