/-
  A drawn region with an allocation that nothing of the head waits for, and a late value (the second result of a call, say) for which the stores do not wait: one walk in the order of the text serves every order.
-/
import Derived.Test.YtfmhbmehidlhiaaAll
namespace Go.Proofs.Ytfmhbmehidlhiaa
open Go Go.RowKit

section
variable {P : Program} {ops : Array Oper} {md : Region.Mode} {C : World → Prop} {R : World → World → Prop} {Q : Exit → Act → World → Prop}
/-- Every operation of the head but number p is waited for by a later one that is not p. -/
def sinkP (md : Region.Mode) (ops : Array Oper) (n p : Nat) : Bool :=
  (List.range n).all fun i => i == p || (List.range (n + 1)).any fun j => decide (i < j) && (j != p && Region.waitsFor md ops j i)
theorem tail_waits_but {n p : Nat} {listed : Array Bool} (hs : sinkP md ops n p = true) (hc : Region.chainB md ops n = true) (hn : n < ops.size) (inv : HeadInv md ops n listed) :
    ∀ (d i : Nat), n - i = d → i < n → i ≠ p → listed.getD i true = false → ∀ t, n ≤ t → t ∉ Region.ready md ops listed := by
  intro d
  induction d using Nat.strongRecOn with
  | _ d ih =>
    intro i hd hi hip hun t ht hr
    obtain ⟨_, ot, hot, hall⟩ := mem_ready.1 hr
    have htlt : t < ops.size := (Array.getElem?_eq_some_iff.1 hot).1
    by_cases htn : t = n
    · subst htn
      have h1 := List.all_eq_true.1 hs i (List.mem_range.2 hi)
      simp only [Bool.or_eq_true, beq_iff_eq] at h1
      obtain ⟨j, hj, hj2⟩ := List.any_eq_true.1 (h1.resolve_left hip)
      simp only [Bool.and_eq_true, decide_eq_true_eq, bne_iff_ne] at hj2
      obtain ⟨oj, hoj, e, he, hb, hon⟩ := Region.waitsFor_spec hj2.2.2
      have hjle : j ≤ t := by have := List.mem_range.1 hj; omega
      by_cases hjt : j = t
      · subst hjt
        obtain rfl : oj = ot := Option.some.inj (hoj.symm.trans hot)
        have h2 := hall e he hb
        rw [hon, getD_both hun] at h2
        cases h2
      · cases hl : listed.getD j false with
        | true =>
          have h2 := inv.closed j oj hoj hl e he hb
          rw [hon, getD_both hun] at h2
          cases h2
        | false =>
          have hjs : j < listed.size := by rw [inv.size]; omega
          exact ih (t - j) (by omega) j rfl (by omega) hj2.2.1 (getD_in hjs hl) t (Nat.le_refl _) hr
    · have h1 := List.all_eq_true.1 hc t (List.mem_range.2 htlt)
      simp only [Bool.or_eq_true, decide_eq_true_eq] at h1
      rcases h1 with h1 | h1
      · omega
      · obtain ⟨o', ho', e, he, hb, hon⟩ := Region.waitsFor_spec h1
        obtain rfl : o' = ot := Option.some.inj (ho'.symm.trans hot)
        have h2 := hall e he hb
        rw [hon, getD_both (inv.tail (t - 1) (by omega) (by omega))] at h2
        cases h2
/-- Operation p is apart from all that neither wait for it nor are waited for by it. -/
def floatB (md : Region.Mode) (ops : Array Oper) (p : Nat) : Bool :=
  (List.range ops.size).all fun j => j == p || (Region.waitsFor md ops p j || (Region.waitsFor md ops j p || match ops[p]?, ops[j]? with
    | some op, some oj => op.apart ops oj
    | _, _ => false))
theorem waits_listed {listed : Array Bool} {i j : Nat} (hi : i ∈ Region.ready md ops listed) (h : Region.waitsFor md ops i j = true) : listed.getD j false = true := by
  obtain ⟨oi, hoi, e, he, hb, hon⟩ := Region.waitsFor_spec h
  obtain ⟨_, o, ho, hall⟩ := mem_ready.1 hi
  obtain rfl : oi = o := Option.some.inj (hoi.symm.trans ho)
  rw [← hon]
  exact hall e he hb
theorem floatB_spec {listed : Array Bool} {p : Nat} {op : Oper} (h : floatB md ops p = true) (hp : ops[p]? = some op) (hr : p ∈ Region.ready md ops listed) (j : Nat) (oj : Oper) (hj : ops[j]? = some oj) (hne : j ≠ p) (hun : listed.getD j true = false) (hno : ∀ e ∈ oj.after, Region.binds md e = true → e.on ≠ p) : op.apart ops oj = true := by
  have h1 := List.all_eq_true.1 h j (List.mem_range.2 (Array.getElem?_eq_some_iff.1 hj).1)
  simp only [Bool.or_eq_true, beq_iff_eq, hp, hj] at h1
  rcases h1 with h1 | h1 | h1 | h1
  · exact absurd h1 hne
  · have := waits_listed hr h1
    rw [getD_both hun] at this
    cases this
  · obtain ⟨o', ho', e, he, hb, hon⟩ := Region.waitsFor_spec h1
    obtain rfl : o' = oj := Option.some.inj (ho'.symm.trans hj)
    exact absurd hon (hno e he hb)
  · exact h1
structure Floats (md : Region.Mode) (ops : Array Oper) (k p : Nat) : Prop where
  sel : Region.noSelect ops = true
  sink : sinkP md ops (k + 1) p = true
  chain : Region.chainB md ops (k + 1) = true
  lt : k + 1 < ops.size
  pk : p < k
  float : floatB md ops p = true
theorem Floats.low {k p i : Nat} {done : Array Bool} (h : Floats md ops k p) (inv : HeadInv md ops (k + 1) done) (hi : i ∈ Region.ready md ops done) (hin : i < k + 1) (hip : i ≠ p) : ∀ j, j ∈ Region.ready md ops done → j < k + 1 := by
  intro j hj
  apply Nat.lt_of_not_le
  intro hge
  exact tail_waits_but h.sink h.chain h.lt inv _ i rfl hin hip (mem_ready.1 hi).1 j hge hj
theorem hF_first {k p i : Nat} {o : Oper} {v : Value} {L : Array Bool → Act → Prop} (hp : Floats md ops k p) (ho : ops[i]? = some o) (hin : i < k)
    (hL : ∀ done a, L done a → ∀ j, j ∈ Region.ready md ops done → j ≠ k → k < j) (f : Nat) :
    ∀ done a, HeadInv md ops (k + 1) done → k ∈ Region.ready md ops done →
      (∀ j oj, ops[j]? = some oj → j ≠ i → done.getD j true = false → (∀ e ∈ oj.after, Region.binds md e = true → e.on ≠ i) → o.apart ops oj = true) →
      i ∈ Region.ready md ops done → YR P ops C R o v a →
      hR P md ops C R k L f (done.setIfInBounds i true) (a.put o.dst v) → hR P md ops C R k L (f + 1) done a := by
  have hsel := Region.noSelect_spec hp.sel
  have hik : i ≠ k := Nat.ne_of_lt hin
  induction f with
  | zero =>
    intro done a inv hkr _ hr hy H
    refine ⟨⟨i, hr, hik⟩, fun j hj hjk => ?_⟩
    by_cases e : j = i
    · rw [e]; exact ⟨hin, o, v, ho, hy, H⟩
    · have h1 := hL _ _ H j (ready_mono hj e) hjk
      have h2 := hp.low inv hkr (by omega) (Nat.ne_of_gt hp.pk) j hj
      omega
  | succ f ih =>
    intro done a inv hkr hfree hr hy H
    refine ⟨⟨i, hr, hik⟩, fun j hj hjk => ?_⟩
    have hjn := hp.low inv hkr (by omega) (Nat.ne_of_gt hp.pk) j hj
    by_cases e : j = i
    · rw [e]; exact ⟨hin, o, v, ho, hy, H⟩
    · obtain ⟨hun, oj, hoj, hall⟩ := mem_ready.1 hj
      have hno : ∀ x ∈ oj.after, Region.binds md x = true → x.on ≠ i := by
        intro x hx hb hxi
        have hz := hall x hx hb
        rw [hxi, getD_both (mem_ready.1 hr).1] at hz
        exact Bool.false_ne_true hz
      obtain ⟨h1, h2, h3⟩ := Oper.apart_spec (hfree j oj hoj e hun hno)
      obtain ⟨_, oj', u, hoj', hyj, hK⟩ := H.2 j (ready_mono hj e) hjk
      obtain rfl : oj = oj' := Option.some.inj (hoj.symm.trans hoj')
      refine ⟨by omega, oj, u, hoj, hyj.of_same (execOp_put oj (fun cs b => hsel j oj cs b hoj) a o.dst v h1).symm (wanted_put oj a o.dst v h1).symm, ?_⟩
      refine ih (done.setIfInBounds j true) _ (inv.set hj hjn) (ready_mono hkr (Ne.symm hjk)) ?_ (ready_mono hr (Ne.symm e)) (hy.of_same (execOp_put o (fun cs b => hsel i o cs b ho) a oj.dst u h3) (wanted_put o a oj.dst u h3)) ?_
      · intro q oq hq hqi hqu hqn
        by_cases hjq : j = q
        · subst hjq
          exact hfree j oq hq hqi hun hqn
        · rw [getD_set_ne true hjq] at hqu
          exact hfree q oq hq hqi hqu hqn
      · rw [Array.setIfInBounds_comm _ _ e, ← Act.put_comm a v u h2]
        exact hK
theorem hF_lex {k p g : Nat} {K : Act → Prop} (hp : Floats md ops k p) (l : List Oper) :
    ∀ (j : Nat) (done : Array Bool) (a : Act), (∀ q, q < l.length → l[q]? = ops[j + q]?) → j + l.length = k → HeadInv md ops (k + 1) done → k ∈ Region.ready md ops done →
    Region.lexHead md ops g (l.length + 1) j done = true → lexR P ops C R K l a →
    hR P md ops C R k (fun done' a' => Region.lexHead md ops g 1 k done' = true ∧ K a') l.length done a := by
  induction l with
  | nil =>
    intro j done a _ hk _ _ hB h
    rw [List.length_nil, Nat.add_zero] at hk
    subst hk
    exact ⟨hB, h⟩
  | cons o l ih =>
    intro j done a hl hk inv hkr hB h
    rw [List.length_cons] at hk
    have ho : ops[j]? = some o := (hl 0 (Nat.succ_pos _)).symm
    rw [List.length_cons, Region.lexHead] at hB
    simp only [Bool.and_eq_true] at hB
    have hr : j ∈ Region.ready md ops done := List.contains_iff_mem.1 hB.1.1
    obtain ⟨v, hy, hK⟩ := h
    refine hF_first hp ho (by omega) (fun d b hL q hq hqk => ?_) l.length done a inv hkr (Region.free_spec ho hB.1.2) hr hy ?_
    · have h1 := hL.1
      simp only [Region.lexHead, Bool.and_eq_true] at h1
      exact seqB_ready h1.2 q (ready_mono hq hqk)
    · refine ih (j + 1) _ _ (fun q hq => ?_) (by omega) (inv.set hr (by omega)) (ready_mono hkr (by omega)) hB.2 hK
      have := hl (q + 1) (by rw [List.length_cons]; omega)
      rw [List.getElem?_cons_succ] at this
      rw [this]
      congr 1
      omega
/-- Behind the allocation. -/
theorem anyF_after {k p g : Nat} {ok op : Oper} {pv : Value} {I : World → Prop} {L : Array Bool → Act → Prop} (hp : Floats md ops k p) (hpo : ops[p]? = some op) (hpu : ∀ a v, YR P ops C R op v a → Yields P ops op v a) (hQ : ∀ d v c a w, Q (.panic c) (Act.put a d v) w → Q (.panic c) a w) (hk : ops[k]? = some ok) (hal : aloneB ops k = true)
    (hI : ∀ w w', I w → R w w' → I w') (hIC : ∀ w, I w → C w) (hR0 : ∀ w, R w w)
    (hT : ∀ done a w, L done a → I w → wpAny P md ops Q g (done.setIfInBounds k true) (a.put ok.dst pv) w) (f : Nat) :
    ∀ done a w, HeadInv md ops (k + 1) done → k ∈ Region.ready md ops done → hR P md ops C R k L f done a → I w → wpAny P md ops Q (f + g) (done.setIfInBounds k true) (a.put ok.dst pv) w := by
  have hsel := Region.noSelect_spec hp.sel
  induction f with
  | zero => intro done a w _ _ h hw; rw [Nat.zero_add]; exact hT _ _ _ h hw
  | succ f ih =>
    intro done a w inv hkr h hw
    obtain ⟨⟨i0, hr0, hne0⟩, h2⟩ := h
    have e : f + 1 + g = (f + g) + 1 := by omega
    rw [e]
    have hi0 := (h2 i0 hr0 hne0).1
    have inv' := inv.set hkr (by omega)
    have hr0' := ready_mono hr0 hne0
    by_cases hpr : p ∈ Region.ready md ops done
    · have hpk : p ≠ k := Nat.ne_of_lt hp.pk
      obtain ⟨_, o', v, ho', hy, hK⟩ := h2 p hpr hpk
      obtain rfl : op = o' := Option.some.inj (hpo.symm.trans ho')
      obtain ⟨hap, _⟩ := aloneB_spec hal hp.pk hpo hk
      obtain ⟨a1, a2, _⟩ := Oper.apart_spec hap
      have hpr' := ready_mono hpr hpk
      have hy' := hpu _ v (hy.of_same (execOp_put op (fun cs b => hsel p op cs b hpo) a ok.dst pv a1) (wanted_put op a ok.dst pv a1))
      refine wpAny_first hpo hsel (hQ op.dst v) (f + g) _ _ w (floatB_spec hp.float hpo hpr') hpr' hy' ?_
      have h7 := ih (done.setIfInBounds p true) (a.put op.dst v) w (inv.set hpr (by have := hp.pk; omega)) (ready_mono hkr (Ne.symm hpk)) hK hw
      rw [Array.setIfInBounds_comm _ _ (Ne.symm hpk), Act.put_comm a pv v a2]
      exact h7
    have hi0p : i0 ≠ p := fun hh => hpr (hh ▸ hr0)
    refine ⟨fun h0 => absurd h0 (List.ne_nil_of_mem hr0'), fun i hi => ?_⟩
    have hin := hp.low inv' hr0' (by omega) hi0p i hi
    have hsz : k < done.size := by rw [inv.size]; exact (Array.getElem?_eq_some_iff.1 hk).1
    have hik : i ≠ k := by
      intro hik
      have h5 := (mem_ready.1 hi).1
      rw [hik] at h5
      simp [hsz] at h5
    obtain ⟨hun, o, ho, hall⟩ := mem_ready.1 hi
    obtain ⟨hap, haf⟩ := aloneB_spec hal (show i < k by omega) ho hk
    have hi' : i ∈ Region.ready md ops done := by
      refine mem_ready.2 ⟨by rw [getD_set_ne true (Ne.symm hik)] at hun; exact hun, o, ho, fun x hx hb => ?_⟩
      have h6 := hall x hx hb
      rw [getD_set_ne false (Ne.symm (haf x hx))] at h6
      exact h6
    obtain ⟨_, o', v, ho', hy, hK⟩ := h2 i hi' hik
    obtain rfl : o = o' := Option.some.inj (ho.symm.trans ho')
    obtain ⟨a1, a2, _⟩ := Oper.apart_spec hap
    refine YR.wpOp ho (hy.of_same (execOp_put o (fun cs b => hsel i o cs b ho) a ok.dst pv a1) (wanted_put o a ok.dst pv a1)) (hIC _ hw) (hR0 _) (fun w' hr => ?_)
    have h7 := ih (done.setIfInBounds i true) (a.put o.dst v) w' (inv.set hi' (by omega)) (ready_mono hkr (Ne.symm hik)) hK (hI _ _ hw hr)
    rw [Array.setIfInBounds_comm _ _ (Ne.symm hik), Act.put_comm a pv v a2]
    exact h7
/-- While the allocation has not come up. -/
theorem anyF_before {k p g : Nat} {ok op : Oper} {I : Value → World → Prop} {L : Array Bool → Act → Prop} (hp : Floats md ops k p) (hpo : ops[p]? = some op) (hpu : ∀ a v, YR P ops C R op v a → Yields P ops op v a) (hQ : ∀ d v c a w, Q (.panic c) (Act.put a d v) w → Q (.panic c) a w) (hk : ops[k]? = some ok) (hal : aloneB ops k = true)
    (hC : ∀ w w', C w → R w w' → C w') (hI : ∀ v w w', I v w → R w w' → I v w') (hIC : ∀ v w, I v w → C w) (hR0 : ∀ w, R w w)
    (hA : ∀ (a : Act) w, C w → ∃ v w', (execOp a.eval ok).run P w = .ok (.value v) w' ∧ I v w') (hg : ok.guard = none)
    (hL : ∀ done a, L done a → ∀ j, j ∈ Region.ready md ops done → j ≠ k → k < j)
    (hT : ∀ v done a w, L done a → I v w → wpAny P md ops Q g (done.setIfInBounds k true) (a.put ok.dst v) w) (f : Nat) :
    ∀ done a w, HeadInv md ops (k + 1) done → k ∈ Region.ready md ops done → hR P md ops C R k L f done a → C w → wpAny P md ops Q (f + g + 1) done a w := by
  have step : ∀ f done a w, HeadInv md ops (k + 1) done → k ∈ Region.ready md ops done → hR P md ops C R k L f done a → C w → wpOp P ops Q k (wpAny P md ops Q (f + g) (done.setIfInBounds k true)) a w := by
    intro f done a w inv hkr h hw
    obtain ⟨v, w', hrun, hv⟩ := hA a w hw
    unfold wpOp
    simp only [hk]
    rw [if_pos (by unfold Region.wanted; rw [hg])]
    left
    unfold Oper.wp
    rw [hrun]
    exact anyF_after (I := I v) hp hpo hpu hQ hk hal (hI v) (hIC v) hR0 (hT v) f done a w' inv hkr h hv
  induction f with
  | zero =>
    intro done a w inv hkr h hw
    refine ⟨fun h0 => absurd h0 (List.ne_nil_of_mem hkr), fun i hi => ?_⟩
    by_cases e : i = k
    · rw [e]; exact step 0 done a w inv hkr h hw
    · have h1 := hL _ _ h i hi e
      have h2 := hp.low inv hkr (by omega) (Nat.ne_of_gt hp.pk) i hi
      omega
  | succ f ih =>
    intro done a w inv hkr h hw
    refine ⟨fun h0 => absurd h0 (List.ne_nil_of_mem hkr), fun i hi => ?_⟩
    by_cases e : i = k
    · rw [e]; exact step (f + 1) done a w inv hkr h hw
    · obtain ⟨_, o, v, ho, hy, hK⟩ := h.2 i hi e
      refine YR.wpOp ho hy hw (hR0 _) (fun w' hr => ?_)
      have e2 : f + 1 + g = f + g + 1 := by omega
      rw [e2]
      exact ih _ _ w' (inv.set hi (by have := hp.low inv hkr (by omega) (Nat.ne_of_gt hp.pk) i hi; omega)) (ready_mono hkr (Ne.symm e)) hK (hC _ _ hw hr)
def lateB (ops : Array Oper) (k p : Nat) : Bool :=
  Region.noSelect ops && decide (k + 1 < ops.size) && sinkP .any ops (k + 1) p && Region.chainB .any ops (k + 1) && decide (p < k) && floatB .any ops p && Region.lexHead .any ops (ops.size - (k + 1)) (k + 1) 0 (Array.replicate ops.size false)
/-- The region's walk: the quiet operations in the order of the text, then the tail for every block that the allocation may have laid. -/
theorem region_late {id : Nat} {a : Act} {w : World} {l : List Oper} {ok op : Oper} {I : Value → World → Prop} (k p : Nat) (hm : P.follows .mixedOrders = true) (hB : lateB l.toArray k p = true) (hal : aloneB l.toArray k = true)
    (hk : l.toArray[k]? = some ok) (hpo : l.toArray[p]? = some op) (hpu : ∀ a v, YR P l.toArray C R op v a → Yields P l.toArray op v a) (hQ : ∀ d v c a w, Q (.panic c) (Act.put a d v) w → Q (.panic c) a w) (hg : ok.guard = none) (hn : ok.after = #[])
    (hC : ∀ w w', C w → R w w' → C w') (hI : ∀ v w w', I v w → R w w' → I v w') (hIC : ∀ v w, I v w → C w) (hR0 : ∀ w, R w w) (hC0 : C w.drew)
    (hA : ∀ (a : Act) w, C w → ∃ v w', (execOp a.eval ok).run P w = .ok (.value v) w' ∧ I v w')
    (h : lexR P l.toArray C R (fun a' => ∀ v w', I v w' → wpList P l.toArray Q (l.drop (k + 1)) (a'.put ok.dst v) w') (l.take k) a) : (Code.region id l.toArray true).wp P Q a w := by
  unfold lateB at hB
  simp only [Bool.and_eq_true, decide_eq_true_eq] at hB
  have hp : Floats .any l.toArray k p := ⟨hB.1.1.1.1.1.1, hB.1.1.1.1.2, hB.1.1.1.2, hB.1.1.1.1.1.2, hB.1.1.2, hB.1.2⟩
  have hlt : k + 1 < l.length := by simpa using hp.lt
  have h1 : (l.take k).length = k := by rw [List.length_take]; omega
  have h2 : (l.drop (k + 1)).length = l.toArray.size - (k + 1) := by simp
  have inv : HeadInv .any l.toArray (k + 1) (Array.replicate l.toArray.size false) := by
    refine ⟨by simp, fun j oj _ hl => ?_, fun t _ ht => getD_in (by simpa using ht) (getD_replicate_false _ _)⟩
    rw [getD_replicate_false] at hl
    exact absurd hl Bool.false_ne_true
  have hkr : k ∈ Region.ready .any l.toArray (Array.replicate l.toArray.size false) := by
    refine mem_ready.2 ⟨getD_in (by simp; omega) (getD_replicate_false _ _), ok, hk, fun e he => ?_⟩
    rw [hn] at he
    simp at he
  have H := hF_lex (C := C) (R := R) (P := P) (g := l.toArray.size - (k + 1)) hp (l.take k) 0 _ a (fun j hj => by rw [h1] at hj; simp [hj]) (by omega) inv hkr (by rw [h1]; exact hB.2) h
  rw [h1] at H
  refine wp_region_any hm ?_
  have A := anyF_before (Q := Q) (g := l.toArray.size - (k + 1)) hp hpo hpu hQ hk hal hC hI hIC hR0 hA hg (fun done a hL j hj hjk => by
    have h1 := hL.1
    simp only [Region.lexHead, Bool.and_eq_true] at h1
    exact seqB_ready h1.2 j (ready_mono hj hjk)) (fun v done a w hL hw => by
    have h1 := hL.1
    simp only [Region.lexHead, Bool.and_eq_true] at h1
    have S := wpAny_of_seq (md := .any) (Q' := Q) (l.drop (k + 1)) (k + 1) (done.setIfInBounds k true) (a.put ok.dst v) w (fun j => by simp [List.getElem?_drop]) (by rw [h2]; exact h1.2) (hL.2 v w hw)
    rw [h2] at S
    exact S) k _ a _ inv hkr H hC0
  rw [show k + (l.toArray.size - (k + 1)) + 1 = l.toArray.size by simp at hlt ⊢; omega] at A
  exact A
/-- The same for a block that is laid in a world of the region. -/
theorem region_freshl {id : Nat} {a : Act} {w : World} {l : List Oper} {ok op : Oper} {o : Obj} (k p : Nat) (hm : P.follows .mixedOrders = true) (hB : lateB l.toArray k p = true) (hal : aloneB l.toArray k = true)
    (hk : l.toArray[k]? = some ok) (hpo : l.toArray[p]? = some op) (hpu : ∀ (C : World → Prop) (R : World → World → Prop) a v, (∃ w, C w) → YR P l.toArray C R op v a → Yields P l.toArray op v a) (hQ : ∀ d v c a w, Q (.panic c) (Act.put a d v) w → Q (.panic c) a w) (hg : ok.guard = none) (hn : ok.after = #[])
    (hA : ∀ (a : Act) w, (execOp a.eval ok).run P w = .ok (.value (.pointer (some ⟨w.heap.size, 0, none⟩))) (w.alloc o))
    (h : ∀ (I : Type) (F : I → World), Nonempty I → Hb (∀ i, Below w.heap.size w (F i)) →
      lexR P l.toArray (fun w' => ∃ i, w' = F i) (fun w1 w2 => Below w1.heap.size w1 w2) (fun a' => ∀ i w', Below ((F i).alloc o).heap.size ((F i).alloc o) w' → wpList P l.toArray Q (l.drop (k + 1)) (a'.put ok.dst (.pointer (some ⟨(F i).heap.size, 0, none⟩))) w') (l.take k) a) :
    (Code.region id l.toArray true).wp P Q a w := by
  obtain ⟨I, F, hI, h0, h1, h2⟩ := class_of w
  refine region_late (C := fun w' => ∃ i, w' = F i) (R := fun w1 w2 => Below w1.heap.size w1 w2) (I := fun v w' => ∃ i, v = .pointer (some ⟨(F i).heap.size, 0, none⟩) ∧ Below ((F i).alloc o).heap.size ((F i).alloc o) w') k p hm hB hal hk hpo (fun a v hy => hpu _ _ a v ⟨_, h0⟩ hy) hQ hg hn ?_ ?_ ?_ (fun w => Below.refl _ _) h0 ?_ ?_
  · rintro _ w' ⟨i, rfl⟩ hb
    exact h2.out i w' hb
  · rintro v w1 w2 ⟨i, hv, hb⟩ hr
    exact ⟨i, hv, Below.on hb hr hb.size⟩
  · rintro v w' ⟨i, _, hb⟩
    exact h2.out i w' (Below.on ((Below.refl _ _).alloc (Nat.le_refl _) _) hb (by simp))
  · rintro a _ ⟨i, rfl⟩
    exact ⟨_, _, hA a (F i), i, rfl, Below.refl _ _⟩
  · have H := h I F hI h1
    refine lexR_mono (fun a' ha v w' ⟨i, hv, hb⟩ => ?_) _ _ H
    subst hv
    exact ha i w' hb
end
end Go.Proofs.Ytfmhbmehidlhiaa
