/-
  PhasorOf of the program. No condition beyond those named.
-/
import Derived.Test.YtenekhckmglobaaGreatPh
namespace Go.Proofs.YtenekhckmglobaaGreat
open Go Go.RowKit

theorem iNarrowC_any {cr ci r i : Nat} (hr : Fl .f64 cr r) (hi : Fl .f64 ci i) (fr : fits .f64 .f32 cr = true) (fi : fits .f64 .f32 ci = true) (w : World) : Calls Tryz.prog 86 #[.complex .f64 r i] w (RC (fcv .f64 .f32 cr) (fcv .f64 .f32 ci) w) := by
  go_enter Tryz.func86, Tryz.ntmps86
  have tk_a : True := trivial; have tk_b : True := trivial
  go_wp2_with (first | (go_at_call 97; clear tk_a; refine (iNarrow_any hr fr _).mono ?_; rintro e w' ⟨r1, n, rfl, hr1, rfl⟩) | (go_at_call 97; clear tk_b; refine (iNarrow_any hi fi _).mono ?_; rintro e w' ⟨r2, n, rfl, hr2, rfl⟩))
  go_ret
  exact ⟨_, _, rfl, hr1, hr2, (by repeat (first | exact Drew.refl _ | refine Drew.more ?_))⟩
theorem iPhasor_any {c x : Nat} {iv : Int} (hx : Fl .f64 c x) (hn : floatToIntVal .f64 x .i64 = some iv) (hf : fcmp .neq .f64 (fop .sub .f64 c c) 0 = false) (h1 : fcmp .geq .f64 c 4841369599423283200 = false) (h2 : fcmp .leq .f64 c 14064741636278059008 = false)
    (hI : InQ (left c iv)) (w : World) : Calls Tryz.prog 168 #[.float .f64 x] w (fun e w' => ∃ k, QStop (left c iv) k ∧ RC (phRe k (qf (left c iv) k)) (phIm k (qf (left c iv) k)) w e w') := by
  have hfin : fin .f64 c = true := by
    rw [fcmp_neq_fin] at hf; simpa using hf
  have hm : many c = false := by rw [many_fin hfin, h1, h2]; rfl
  have KL := Keep.mk (turnsLeft_any hx hn)
  have KFi := Keep.mk hfin
  have KM := Keep.mk hm
  clear hfin hm
  all_goals
    generalize left c iv = F at KL hI ⊢
    have KI := Keep.mk hI
    clear hI
    go_enter Tryz.func168, Tryz.ntmps168
    go_wp2_with (first | (go_at_call 117; refine (isFiniteWide_any hx _).mono ?_; rw [KFi.out]; rintro e w' ⟨rfl, n, rfl⟩) | (go_at_call 130; refine (isManyTurns_any hx _).mono ?_; rw [KM.out]; rintro e w' ⟨rfl, n, rfl⟩) | (go_at_call 140; refine (KL.out _).mono ?_; rintro e w' ⟨r, n, rfl, hr, rfl⟩))
    go_loopw [3, 4] (fun f q wr => ∃ (k x : Nat), f = .float .f64 x ∧ Fl .f64 (qf F k) x ∧ q = .int .i64 k ∧ Keep (∀ j, j < k → fcmp .geq .f64 (qf F j) 4598175219545276416 = true) ∧ k + qf F k ≤ F ∧ Drew w wr) (fun f _ _ => match f with | .float _ b => b | _ => 0)
    case atStart => exact ⟨0, _, rfl, hr, rfl, ⟨fun j hj => absurd hj (Nat.not_lt_zero j)⟩, by show 0 + F ≤ F; omega, (by repeat (first | exact Drew.refl _ | refine Drew.more ?_))⟩
    case round =>
      obtain ⟨k, y, rfl, hy, rfl, ho, hk, q, rfl⟩ := hrel
      have hIk := KI.out.at ho.out
      cases hg : fcmp .geq .f64 (qf F k) 4598175219545276416
      · have KQ := Keep.mk (QStop.mk ho.out hg)
        obtain rfl := hy.word hIk.notN
        obtain ⟨i1, i2, C, S, D, kD, nD, v1, v2, ⟨p1, p2, p3⟩, ⟨g1, g2, g3⟩, kC, kS, kcos, ksin, fC, fS, fNC, fNS⟩ := ph_names hIk
        have KRe := Keep.mk (show phRe k (qf F k) = fcv .f64 .f32 (if k = 1 then fop .sub .f64 0 S else if k = 2 then fop .sub .f64 0 C else if k = 3 then S else C) by unfold phRe; rw [kcos.out, ksin.out])
        have KIm := Keep.mk (show phIm k (qf F k) = fcv .f64 .f32 (if k = 1 then C else if k = 2 then fop .sub .f64 0 S else if k = 3 then fop .sub .f64 0 C else S) by unfold phIm; rw [kcos.out, ksin.out])
        have HP := Keep.mk (And.intro p1 (And.intro p2 p3))
        have HG := Keep.mk (And.intro g1 (And.intro g2 g3))
        have V1 := Keep.mk v1
        have V2 := Keep.mk v2
        clear p1 p2 p3 g1 g2 g3 v1 v2 kcos ksin
        clear hk hIk ho
        generalize hqf : qf F k = g at *
        have KG := Keep.mk hqf
        clear hqf
        rcases (by omega : k = 1 ∨ k = 2 ∨ k = 3 ∨ (k ≠ 1 ∧ k ≠ 2 ∧ k ≠ 3)) with hk | hk | hk | ⟨hk1, hk2, hk3⟩
        · subst hk
          rw [if_pos rfl] at KRe KIm
          have tk_a : True := trivial; have tk_b : True := trivial; have tk_c : True := trivial; have tk_d : True := trivial
          go_wp2_with (first | (clear tk_a; (refine wpList_fcmp rfl rfl rfl rfl rfl (by first | (with_reducible assumption) | (with_reducible exact Fl.ofInt _ _) | exact Fl.not (by decide +kernel) (by decide +kernel)) (by first | (with_reducible assumption) | (with_reducible exact Fl.ofInt _ _) | exact Fl.not (by decide +kernel) (by decide +kernel)) ?_; simp only [Act.put, List.setIfInBounds_toArray, List.set_cons_succ, List.set_cons_zero, hg])) | (clear tk_b; refine wpList_fop rfl rfl rfl rfl rfl (Fl.not (by decide +kernel) (by decide +kernel)) hy ?_; intro r n hr; rw [kD.out] at hr; obtain rfl := hr.word nD; simp only [Act.put, List.setIfInBounds_toArray, List.set_cons_succ, List.set_cons_zero]) | (go_at_call 131; clear tk_c; refine (wideSine_any hr V1.out _).mono ?_; rintro e w' ⟨rc, n, rfl, hrc, rfl⟩; rw [kC.out] at hrc) | (go_at_call 131; clear tk_d; refine (wideSine_any hy V2.out _).mono ?_; rintro e w' ⟨rs, n, rfl, hrs, rfl⟩; rw [kS.out] at hrs) | (refine wpList_fop rfl rfl rfl rfl rfl (by first | (with_reducible assumption) | (with_reducible exact Fl.ofInt _ _) | exact Fl.not (by decide +kernel) (by decide +kernel)) (by first | (with_reducible assumption) | (with_reducible exact Fl.ofInt _ _) | exact Fl.not (by decide +kernel) (by decide +kernel)) ?_; intro r n hr; simp only [Act.put, List.setIfInBounds_toArray, List.set_cons_succ, List.set_cons_zero]) | (go_at_call 86; refine (iNarrowC_any (by assumption) (by assumption) (by assumption) (by assumption) _).mono ?_; rintro e w' ⟨r1, r2, rfl, hr1, hr2, n, rfl⟩))
          go_ret
          exact ⟨_, KQ.out, _, _, rfl, by rw [KG.out, KRe.out]; assumption, by rw [KG.out, KIm.out]; assumption, (by repeat (first | exact Drew.refl _ | refine Drew.more ?_))⟩
        · subst hk
          rw [if_neg (by decide), if_pos rfl] at KRe KIm
          have tk_a : True := trivial; have tk_b : True := trivial; have tk_c : True := trivial; have tk_d : True := trivial
          go_wp2_with (first | (clear tk_a; (refine wpList_fcmp rfl rfl rfl rfl rfl (by first | (with_reducible assumption) | (with_reducible exact Fl.ofInt _ _) | exact Fl.not (by decide +kernel) (by decide +kernel)) (by first | (with_reducible assumption) | (with_reducible exact Fl.ofInt _ _) | exact Fl.not (by decide +kernel) (by decide +kernel)) ?_; simp only [Act.put, List.setIfInBounds_toArray, List.set_cons_succ, List.set_cons_zero, hg])) | (clear tk_b; refine wpList_fop rfl rfl rfl rfl rfl (Fl.not (by decide +kernel) (by decide +kernel)) hy ?_; intro r n hr; rw [kD.out] at hr; obtain rfl := hr.word nD; simp only [Act.put, List.setIfInBounds_toArray, List.set_cons_succ, List.set_cons_zero]) | (go_at_call 131; clear tk_c; refine (wideSine_any hr V1.out _).mono ?_; rintro e w' ⟨rc, n, rfl, hrc, rfl⟩; rw [kC.out] at hrc) | (go_at_call 131; clear tk_d; refine (wideSine_any hy V2.out _).mono ?_; rintro e w' ⟨rs, n, rfl, hrs, rfl⟩; rw [kS.out] at hrs) | (refine wpList_fop rfl rfl rfl rfl rfl (by first | (with_reducible assumption) | (with_reducible exact Fl.ofInt _ _) | exact Fl.not (by decide +kernel) (by decide +kernel)) (by first | (with_reducible assumption) | (with_reducible exact Fl.ofInt _ _) | exact Fl.not (by decide +kernel) (by decide +kernel)) ?_; intro r n hr; simp only [Act.put, List.setIfInBounds_toArray, List.set_cons_succ, List.set_cons_zero]) | (go_at_call 86; refine (iNarrowC_any (by assumption) (by assumption) (by assumption) (by assumption) _).mono ?_; rintro e w' ⟨r1, r2, rfl, hr1, hr2, n, rfl⟩))
          go_ret
          exact ⟨_, KQ.out, _, _, rfl, by rw [KG.out, KRe.out]; assumption, by rw [KG.out, KIm.out]; assumption, (by repeat (first | exact Drew.refl _ | refine Drew.more ?_))⟩
        · subst hk
          rw [if_neg (by decide), if_neg (by decide), if_pos rfl] at KRe KIm
          have tk_a : True := trivial; have tk_b : True := trivial; have tk_c : True := trivial; have tk_d : True := trivial
          go_wp2_with (first | (clear tk_a; (refine wpList_fcmp rfl rfl rfl rfl rfl (by first | (with_reducible assumption) | (with_reducible exact Fl.ofInt _ _) | exact Fl.not (by decide +kernel) (by decide +kernel)) (by first | (with_reducible assumption) | (with_reducible exact Fl.ofInt _ _) | exact Fl.not (by decide +kernel) (by decide +kernel)) ?_; simp only [Act.put, List.setIfInBounds_toArray, List.set_cons_succ, List.set_cons_zero, hg])) | (clear tk_b; refine wpList_fop rfl rfl rfl rfl rfl (Fl.not (by decide +kernel) (by decide +kernel)) hy ?_; intro r n hr; rw [kD.out] at hr; obtain rfl := hr.word nD; simp only [Act.put, List.setIfInBounds_toArray, List.set_cons_succ, List.set_cons_zero]) | (go_at_call 131; clear tk_c; refine (wideSine_any hr V1.out _).mono ?_; rintro e w' ⟨rc, n, rfl, hrc, rfl⟩; rw [kC.out] at hrc) | (go_at_call 131; clear tk_d; refine (wideSine_any hy V2.out _).mono ?_; rintro e w' ⟨rs, n, rfl, hrs, rfl⟩; rw [kS.out] at hrs) | (refine wpList_fop rfl rfl rfl rfl rfl (by first | (with_reducible assumption) | (with_reducible exact Fl.ofInt _ _) | exact Fl.not (by decide +kernel) (by decide +kernel)) (by first | (with_reducible assumption) | (with_reducible exact Fl.ofInt _ _) | exact Fl.not (by decide +kernel) (by decide +kernel)) ?_; intro r n hr; simp only [Act.put, List.setIfInBounds_toArray, List.set_cons_succ, List.set_cons_zero]) | (go_at_call 86; refine (iNarrowC_any (by assumption) (by assumption) (by assumption) (by assumption) _).mono ?_; rintro e w' ⟨r1, r2, rfl, hr1, hr2, n, rfl⟩))
          go_ret
          exact ⟨_, KQ.out, _, _, rfl, by rw [KG.out, KRe.out]; assumption, by rw [KG.out, KIm.out]; assumption, (by repeat (first | exact Drew.refl _ | refine Drew.more ?_))⟩
        · rw [if_neg hk1, if_neg hk2, if_neg hk3] at KRe KIm
          have q1 : ((k : Int) == 1) = false := by rw [beq_eq_false_iff_ne]; omega
          have q2 : ((k : Int) == 2) = false := by rw [beq_eq_false_iff_ne]; omega
          have q3 : ((k : Int) == 3) = false := by rw [beq_eq_false_iff_ne]; omega
          have tk_a : True := trivial; have tk_b : True := trivial; have tk_c : True := trivial; have tk_d : True := trivial
          go_wp2_with (first | (clear tk_a; (refine wpList_fcmp rfl rfl rfl rfl rfl (by first | (with_reducible assumption) | (with_reducible exact Fl.ofInt _ _) | exact Fl.not (by decide +kernel) (by decide +kernel)) (by first | (with_reducible assumption) | (with_reducible exact Fl.ofInt _ _) | exact Fl.not (by decide +kernel) (by decide +kernel)) ?_; simp only [Act.put, List.setIfInBounds_toArray, List.set_cons_succ, List.set_cons_zero, hg])) | (clear tk_b; refine wpList_fop rfl rfl rfl rfl rfl (Fl.not (by decide +kernel) (by decide +kernel)) hy ?_; intro r n hr; rw [kD.out] at hr; obtain rfl := hr.word nD; simp only [Act.put, List.setIfInBounds_toArray, List.set_cons_succ, List.set_cons_zero]) | (go_at_call 131; clear tk_c; refine (wideSine_any hr V1.out _).mono ?_; rintro e w' ⟨rc, n, rfl, hrc, rfl⟩; rw [kC.out] at hrc) | (go_at_call 131; clear tk_d; refine (wideSine_any hy V2.out _).mono ?_; rintro e w' ⟨rs, n, rfl, hrs, rfl⟩; rw [kS.out] at hrs) | (refine wpList_fop rfl rfl rfl rfl rfl (by first | (with_reducible assumption) | (with_reducible exact Fl.ofInt _ _) | exact Fl.not (by decide +kernel) (by decide +kernel)) (by first | (with_reducible assumption) | (with_reducible exact Fl.ofInt _ _) | exact Fl.not (by decide +kernel) (by decide +kernel)) ?_; intro r n hr; simp only [Act.put, List.setIfInBounds_toArray, List.set_cons_succ, List.set_cons_zero]) | (go_at_call 86; refine (iNarrowC_any (by assumption) (by assumption) (by assumption) (by assumption) _).mono ?_; rintro e w' ⟨r1, r2, rfl, hr1, hr2, n, rfl⟩))
          go_ret
          exact ⟨_, KQ.out, _, _, rfl, by rw [KG.out, KRe.out]; assumption, by rw [KG.out, KIm.out]; assumption, (by repeat (first | exact Drew.refl _ | refine Drew.more ?_))⟩
      · have hst := hIk.step hg
        have KK := Keep.mk hst
        have hF : F ≤ 4611686018427387904 := by
          cases k with
          | zero => exact (KI.out.word hg).2
          | succ k => exact (KI.out.word (ho.out 0 (by omega))).2
        have hyw := Keep.mk (hy.word hIk.notN)
        clear hst
        go_wp2_with (first | (refine wpList_fop rfl rfl rfl rfl rfl (by first | (with_reducible assumption) | (with_reducible exact Fl.ofInt _ _) | exact Fl.not (by decide +kernel) (by decide +kernel)) (by first | (with_reducible assumption) | (with_reducible exact Fl.ofInt _ _) | exact Fl.not (by decide +kernel) (by decide +kernel)) ?_; intro r n hr; simp only [Act.put, List.setIfInBounds_toArray, List.set_cons_succ, List.set_cons_zero]) | (refine wpList_fcmp rfl rfl rfl rfl rfl (by first | (with_reducible assumption) | (with_reducible exact Fl.ofInt _ _) | exact Fl.not (by decide +kernel) (by decide +kernel)) (by first | (with_reducible assumption) | (with_reducible exact Fl.ofInt _ _) | exact Fl.not (by decide +kernel) (by decide +kernel)) ?_; simp only [Act.put, List.setIfInBounds_toArray, List.set_cons_succ, List.set_cons_zero, hg]))
        go_roundw
        case rel => exact ⟨k + 1, _, rfl, hr, i_e (by omega), ⟨fun j hj => by by_cases he : j = k; (subst he; exact hg); exact ho.out j (by omega)⟩, by have := KK.out.2; show k + 1 + fop .sub .f64 (qf F k) 4598175219545276416 ≤ F; omega, (by repeat (first | exact Drew.refl _ | refine Drew.more ?_))⟩
        case measure => rw [hyw.out, hr.word KK.out.1.notN]; exact KK.out.2
end Go.Proofs.YtenekhckmglobaaGreat
