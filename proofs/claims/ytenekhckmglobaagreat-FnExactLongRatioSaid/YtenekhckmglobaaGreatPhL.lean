/-
  FnExactPhasorOf: the law's own walk. No condition.
-/
import Derived.Test.YtenekhckmglobaaGreatPhC
namespace Go.Proofs.YtenekhckmglobaaGreat
open Go Go.RowKit

theorem wpList_ccv {P : Program} {ops : Array Oper} {rest : List Oper} {o : Oper} {a : Act} {w : World} {Q : Exit → Act → World → Prop} (hgd : o.guard = none) {src dst : TypeId} {x : Operand} (ho : o.op = .convert src dst x) {cr ci r i : Nat} (hx : a.eval x = .complex .f32 r i)
    (hs : (P.underlying src).isSome = true) (hd : P.underlying dst = some (.complex .f64)) (fr : Fl .f32 cr r) (fi : Fl .f32 ci i)
    (h : ∀ r' i' n, Fl .f64 (fcv .f32 .f64 cr) r' → Fl .f64 (fcv .f32 .f64 ci) i' → wpList P ops Q rest (a.put o.dst (.complex .f64 r' i')) (w.drewN n)) : wpList P ops Q (o :: rest) a w := by
  obtain ⟨r', i', n, hr, f1, f2⟩ := ccv_run w src dst hs hd fr fi
  refine wpList_value hgd ?_ (h r' i' n f1 f2)
  simp [execOp, ho, hx, hr]
set_option maxHeartbeats 1000000 in
theorem sameComplex_any {cr ci a b c d : Nat} (h1 : Fl .f64 cr a) (h2 : Fl .f64 ci b) (h3 : Fl .f64 cr c) (h4 : Fl .f64 ci d) (w : World) : Calls Tryz.prog 12 #[.complex .f64 a b, .complex .f64 c d] w (RB true w) := by
  go_enter Tryz.func12, Tryz.ntmps12
  have tk_a : True := trivial; have tk_b : True := trivial
  go_wp2_with (first | (go_at_call 15; clear tk_a; refine (sameFloat_any h1 h3 _).mono ?_; rintro e w' ⟨rfl, n, rfl⟩) | (go_at_call 15; clear tk_b; refine (sameFloat_any h2 h4 _).mono ?_; rintro e w' ⟨rfl, n, rfl⟩))
  go_ret
  exact RB.any rfl (by repeat (first | exact Drew.refl _ | refine Drew.more ?_))
theorem Keep.as {p : Prop} (h : p) : Keep p := ⟨h⟩
theorem l01Phasor_nan {c x : Nat} (hx : Fl .f64 c x) (hf : fin .f64 c = false) (w : World) : Calls Tryz.prog 58 #[.float .f64 x] w (RC (qn .f32) (qn .f32) w) := by
  have hq : Fl .f32 (qn .f32) 2143289344 := ⟨by decide +kernel, by decide +kernel⟩
  have hn : fcmp .neq .f64 (fop .sub .f64 c c) 0 = true := by rw [fcmp_neq_fin, hf]; rfl
  clear hf
  go_enter Tryz.func58, Tryz.ntmps58
  go_wp2_with (first | (refine wpList_fop rfl rfl rfl rfl rfl (by first | (with_reducible assumption) | (with_reducible exact Fl.ofInt _ _) | exact Fl.not (by decide +kernel) (by decide +kernel)) (by first | (with_reducible assumption) | (with_reducible exact Fl.ofInt _ _) | exact Fl.not (by decide +kernel) (by decide +kernel)) ?_; intro r n hr; simp only [Act.put, List.setIfInBounds_toArray, List.set_cons_succ, List.set_cons_zero]) | (refine wpList_fcmp rfl rfl rfl rfl rfl (by first | (with_reducible assumption) | (with_reducible exact Fl.ofInt _ _) | exact Fl.not (by decide +kernel) (by decide +kernel)) (by first | (with_reducible assumption) | (with_reducible exact Fl.ofInt _ _) | exact Fl.not (by decide +kernel) (by decide +kernel)) ?_; simp only [Act.put, List.setIfInBounds_toArray, List.set_cons_succ, List.set_cons_zero, hn]) | (go_at_call 103; refine (l01From_any (by omega) (by omega) _).mono ?_; rintro e w' ⟨rfl, n, rfl⟩))
  go_ret
  exact ⟨_, _, rfl, hq, hq, (by repeat (first | exact Drew.refl _ | refine Drew.more ?_))⟩
theorem l01Phasor_many {c x : Nat} (hx : Fl .f64 c x) (hf : fin .f64 c = true) (h : (fcmp .geq .f64 c 4841369599423283200 || fcmp .leq .f64 c 14064741636278059008) = true) (w : World) : Calls Tryz.prog 58 #[.float .f64 x] w (RC 1065353216 0 w) := by
  have hn : fcmp .neq .f64 (fop .sub .f64 c c) 0 = false := by rw [fcmp_neq_fin, hf]; rfl
  have h1 : Fl .f32 1065353216 1065353216 := Fl.not (by decide +kernel) (by decide +kernel)
  have h0 : Fl .f32 0 0 := Fl.not (by decide +kernel) (by decide +kernel)
  clear hf
  cases hg : fcmp .geq .f64 c 4841369599423283200
  · rw [hg, Bool.false_or] at h
    go_enter Tryz.func58, Tryz.ntmps58
    go_wp2_with (first | (refine wpList_fop rfl rfl rfl rfl rfl (by first | (with_reducible assumption) | (with_reducible exact Fl.ofInt _ _) | exact Fl.not (by decide +kernel) (by decide +kernel)) (by first | (with_reducible assumption) | (with_reducible exact Fl.ofInt _ _) | exact Fl.not (by decide +kernel) (by decide +kernel)) ?_; intro r n hr; simp only [Act.put, List.setIfInBounds_toArray, List.set_cons_succ, List.set_cons_zero]) | (refine wpList_fcmp rfl rfl rfl rfl rfl (by first | (with_reducible assumption) | (with_reducible exact Fl.ofInt _ _) | exact Fl.not (by decide +kernel) (by decide +kernel)) (by first | (with_reducible assumption) | (with_reducible exact Fl.ofInt _ _) | exact Fl.not (by decide +kernel) (by decide +kernel)) ?_; simp only [Act.put, List.setIfInBounds_toArray, List.set_cons_succ, List.set_cons_zero, hn, hg]) | (refine wpList_fcmp_g rfl rfl rfl rfl rfl (by first | (with_reducible assumption) | (with_reducible exact Fl.ofInt _ _) | exact Fl.not (by decide +kernel) (by decide +kernel)) (by first | (with_reducible assumption) | (with_reducible exact Fl.ofInt _ _) | exact Fl.not (by decide +kernel) (by decide +kernel)) ?_; simp only [Act.put, List.setIfInBounds_toArray, List.set_cons_succ, List.set_cons_zero, h]))
    go_ret
    exact ⟨_, _, rfl, h1, h0, (by repeat (first | exact Drew.refl _ | refine Drew.more ?_))⟩
  · clear h
    go_enter Tryz.func58, Tryz.ntmps58
    go_wp2_with (first | (refine wpList_fop rfl rfl rfl rfl rfl (by first | (with_reducible assumption) | (with_reducible exact Fl.ofInt _ _) | exact Fl.not (by decide +kernel) (by decide +kernel)) (by first | (with_reducible assumption) | (with_reducible exact Fl.ofInt _ _) | exact Fl.not (by decide +kernel) (by decide +kernel)) ?_; intro r n hr; simp only [Act.put, List.setIfInBounds_toArray, List.set_cons_succ, List.set_cons_zero]) | (refine wpList_fcmp rfl rfl rfl rfl rfl (by first | (with_reducible assumption) | (with_reducible exact Fl.ofInt _ _) | exact Fl.not (by decide +kernel) (by decide +kernel)) (by first | (with_reducible assumption) | (with_reducible exact Fl.ofInt _ _) | exact Fl.not (by decide +kernel) (by decide +kernel)) ?_; simp only [Act.put, List.setIfInBounds_toArray, List.set_cons_succ, List.set_cons_zero, hn, hg]))
    go_ret
    exact ⟨_, _, rfl, h1, h0, (by repeat (first | exact Drew.refl _ | refine Drew.more ?_))⟩
theorem iPhasor_nan {c x : Nat} (hx : Fl .f64 c x) (hf : fin .f64 c = false) (w : World) : Calls Tryz.prog 168 #[.float .f64 x] w (RC (qn .f32) (qn .f32) w) := by
  have K := Keep.mk hf
  clear hf
  go_enter Tryz.func168, Tryz.ntmps168
  have tk_a : True := trivial; have tk_b : True := trivial
  go_wp2_with (first | (go_at_call 117; refine (isFiniteWide_any hx _).mono ?_; rw [K.out]; rintro e w' ⟨rfl, n, rfl⟩) | (go_at_call 118; clear tk_a; refine (notANumber_any _).mono ?_; rintro e w' ⟨r1, n, rfl, h1, rfl⟩) | (go_at_call 118; clear tk_b; refine (notANumber_any _).mono ?_; rintro e w' ⟨r2, n, rfl, h2, rfl⟩))
  go_ret
  exact ⟨_, _, rfl, h1, h2, (by repeat (first | exact Drew.refl _ | refine Drew.more ?_))⟩
theorem iPhasor_many {c x : Nat} (hx : Fl .f64 c x) (hf : fin .f64 c = true) (hm : many c = true) (w : World) : Calls Tryz.prog 168 #[.float .f64 x] w (RC 1065353216 0 w) := by
  have K := Keep.mk hf
  have KM := Keep.mk hm
  clear hf hm
  go_enter Tryz.func168, Tryz.ntmps168
  go_wp2_with (first | (go_at_call 117; refine (isFiniteWide_any hx _).mono ?_; rw [K.out]; rintro e w' ⟨rfl, n, rfl⟩) | (go_at_call 130; refine (isManyTurns_any hx _).mono ?_; rw [KM.out]; rintro e w' ⟨rfl, n, rfl⟩))
  go_ret
  exact ⟨_, _, rfl, Fl.not (by decide +kernel) (by decide +kernel), Fl.not (by decide +kernel) (by decide +kernel), (by repeat (first | exact Drew.refl _ | refine Drew.more ?_))⟩
theorem fop_lt (op : BinOp) (x y : Nat) : fop op .f64 x y < 18446744073709551616 := by
  unfold fop
  cases h : floatBits op .f64 x y with
  | none => decide +kernel
  | some r => have := floatBits_wf h; simpa [Lit.wf] using this
theorem left_lt (c : Nat) (n : Int) : left c n < 18446744073709551616 := by
  unfold left; split <;> exact fop_lt _ _ _
theorem qf_shift (f : Nat) : ∀ k, qf f (k + 1) = qf (fop .sub .f64 f 4598175219545276416) k
  | 0 => rfl
  | k + 1 => by
    show fop .sub .f64 (qf f (k + 1)) 4598175219545276416 = fop .sub .f64 (qf (fop .sub .f64 f 4598175219545276416) k) 4598175219545276416
    rw [qf_shift f k]
theorem InQ.stops_lt : ∀ (n f : Nat), f < n → InQ f → ∃ k, QStop f k := by
  intro n
  induction n with
  | zero => intro f hf; omega
  | succ n ih =>
    intro f hf h
    cases hg : fcmp .geq .f64 f 4598175219545276416
    · exact ⟨0, fun j hj => absurd hj (Nat.not_lt_zero j), hg⟩
    · obtain ⟨s1, s2⟩ := h.step hg
      obtain ⟨k, hk⟩ := ih _ (by omega) s1
      refine ⟨k + 1, fun j hj => ?_, by rw [qf_shift]; exact hk.off⟩
      cases j with
      | zero => exact hg
      | succ j => rw [qf_shift]; exact hk.on j (by omega)
theorem InQ.stops {f : Nat} (h : InQ f) : ∃ k, QStop f k := InQ.stops_lt (f + 1) f (by omega) h
theorem phasorL {c x : Nat} (hx : Fl .f64 c x) : ∃ cr ci, (∀ w, Calls Tryz.prog 58 #[.float .f64 x] w (RC cr ci w)) ∧ (∀ w, Calls Tryz.prog 168 #[.float .f64 x] w (RC cr ci w)) := by
  cases hf : fin .f64 c
  · refine ⟨qn .f32, qn .f32, fun w => ?_, fun w => ?_⟩
    · exact l01Phasor_nan hx hf w
    · exact iPhasor_nan hx hf w
  · cases hm : many c
    · obtain ⟨iv, hi⟩ := fint_in hf hm
      have hm' := many_fin hf
      rw [hm] at hm'
      have hm2 := Bool.or_eq_false_iff.1 hm'.symm
      have hn : fcmp .neq .f64 (fop .sub .f64 c c) 0 = false := by rw [fcmp_neq_fin, hf]; rfl
      obtain rfl := hx.word (fin_notN hf)
      have hI : InQ (left x iv) := ⟨left_bd hf hm hi, left_lt x iv⟩
      obtain ⟨k, hk⟩ := hI.stops
      refine ⟨phRe k (qf (left x iv) k), phIm k (qf (left x iv) k), fun w => ?_, fun w => ?_⟩
      · exact (l01Phasor_any hx hi hn hm2.1 hm2.2 hI w).mono fun e w' ⟨l, hl, h⟩ => by obtain rfl := hl.same hk; exact h
      · exact (iPhasor_any hx hi hn hm2.1 hm2.2 hI w).mono fun e w' ⟨l, hl, h⟩ => by obtain rfl := hl.same hk; exact h
    · have hm' := many_fin hf
      rw [hm] at hm'
      exact ⟨1065353216, 0, fun w => l01Phasor_many hx hf hm'.symm w, fun w => iPhasor_many hx hf hm w⟩
end Go.Proofs.YtenekhckmglobaaGreat
