/-
  How great the parts of a map's points are. No condition beyond a valid map and a valid place.
-/
import Derived.Test.YtenekhckmglobaaGreatCos
import Derived.Test.YtenekhckmglobaaGreatPtO
namespace Go.Proofs.YtenekhckmglobaaGreat
open Go Go.RowKit
set_option maxRecDepth 100000
theorem sinQ_ab {g : Nat} (hf : fin .f64 g = true) (hm : many g = false) : Ab .f64 (sinQ g) 4611686018427387904 := by
  obtain ⟨iv, hi⟩ := fint_in hf hm
  obtain ⟨h1, h2⟩ := left_np hf hm hi
  unfold sinQ
  rw [fint_of hi]
  unfold sinW
  split
  · exact (sinV_ab h1 h2).neg
  · exact sinV_ab h1 h2
theorem zsub_ab {x : Nat} (h : Ab .f64 x 4611686018427387904) : Ab .f64 (fop .sub .f64 0 x) 4611686018427387904 :=
  sub_ab (a := 0) ⟨Nat.le_refl _, fin_zero _⟩ h (by decide +kernel) (by decide +kernel)
theorem nar_ab {x : Nat} (h : Ab .f64 x 4611686018427387904) : Ab .f32 (fcv .f64 .f32 x) 1073741824 :=
  (narrow_ab h.fin (by decide +kernel) (Nat.le_trans h.le (by decide +kernel))).1
theorem ph_ab {k g : Nat} (h : InQ g) : Ab .f32 (phRe k g) 1073741824 ∧ Ab .f32 (phIm k g) 1073741824 := by
  obtain ⟨b1, b2⟩ := h.ten
  have hs := sinQ_ab h.bd.fin (few_many b1)
  have hc : Ab .f64 (cosQ g) 4611686018427387904 := sinQ_ab b2.fin (few_many b2)
  refine ⟨nar_ab ?_, nar_ab ?_⟩
  · split
    · exact zsub_ab hs
    · split
      · exact zsub_ab hc
      · split
        · exact hs
        · exact hc
  · split
    · exact hc
    · split
      · exact zsub_ab hs
      · split
        · exact zsub_ab hc
        · exact hs
theorem phasorB {c x : Nat} (hx : Fl .f64 c x) (hf : fin .f64 c = true) : ∃ cr ci, (∀ w, Calls Tryz.prog 58 #[.float .f64 x] w (RC cr ci w)) ∧ (∀ w, Calls Tryz.prog 168 #[.float .f64 x] w (RC cr ci w)) ∧ Ab .f32 cr 1073741824 ∧ Ab .f32 ci 1073741824 := by
  cases hm : many c
  · obtain ⟨iv, hi⟩ := fint_in hf hm
    have hm' := many_fin hf
    rw [hm] at hm'
    have hm2 := Bool.or_eq_false_iff.1 hm'.symm
    have hn : fcmp .neq .f64 (fop .sub .f64 c c) 0 = false := by rw [fcmp_neq_fin, hf]; rfl
    obtain rfl := hx.word (fin_notN hf)
    have hI : InQ (left x iv) := ⟨left_bd hf hm hi, left_lt x iv⟩
    obtain ⟨k, hk⟩ := hI.stops
    have hb := ph_ab (k := k) (hI.at hk.on)
    refine ⟨phRe k (qf (left x iv) k), phIm k (qf (left x iv) k), fun w => ?_, fun w => ?_, hb⟩
    · exact (l01Phasor_any hx hi hn hm2.1 hm2.2 hI w).mono fun e w' ⟨l, hl, h⟩ => by obtain rfl := hl.same hk; exact h
    · exact (iPhasor_any hx hi hn hm2.1 hm2.2 hI w).mono fun e w' ⟨l, hl, h⟩ => by obtain rfl := hl.same hk; exact h
  · have hm' := many_fin hf
    rw [hm] at hm'
    exact ⟨1065353216, 0, fun w => l01Phasor_many hx hf hm'.symm w, fun w => iPhasor_many hx hf hm w, ⟨by decide +kernel, by decide +kernel⟩, ⟨by decide +kernel, by decide +kernel⟩⟩
/-- 2 to the power of 46, the greatest size of a part of a point -/
def big46 : Nat := 1451229184
theorem big_fin : fin .f32 big46 = true := by decide +kernel
theorem Ab.big {x b : Nat} (h : Ab .f32 x b) (hb : rung .f32 b ≤ rung .f32 big46) : Ab .f32 x big46 := h.mono hb big_fin
theorem round_ab {x a c : Nat} (h : Ab .f32 x a) (hc : fin .f32 c = true) (hv : val FloatKind.f32.format (rung .f32 1086918619) * val FloatKind.f32.format (rung .f32 a) ≤ val FloatKind.f32.format (rung .f32 c) * 2 ^ (-FloatKind.f32.format.leastPlace).toNat) : Ab .f32 (roundC x) c :=
  mul_ab (a := 1086918619) ⟨Nat.le_refl _, by decide +kernel⟩ h hc hv
theorem log_ab {c : Nat} (hc : c < 4294967296) (hf : fin .f32 (logC c) = true) : Ab .f32 (logC c) 1426063360 := by
  unfold logC at *
  split
  · rename_i h; rw [if_pos h] at hf; exact absurd hf (by decide +kernel)
  · rename_i h
    rw [if_neg h] at hf
    split
    · rename_i h; rw [if_pos h] at hf; exact absurd hf (by decide +kernel)
    · rename_i h2
      rw [if_neg h2] at hf
      split
      · rename_i h; rw [if_pos h, h] at hf; exact absurd hf (by decide +kernel)
      · rename_i h3
        rw [if_neg h3] at hf
        split
        · rename_i h4
          obtain ⟨p1, p2⟩ : 0 < c ∧ c < 2139095040 := by
            rcases classes hc with g | g | g | g | g
            · exact absurd g h
            · exact absurd g h2
            · exact absurd g h3
            · exact g
            · omega
          obtain ⟨r1, r2⟩ := wide_range p1 p2
          have hb := logW_bd r1 r2
          have ha : Ab .f64 (logW (fcv .f32 .f64 c)) 4800837202776948736 := ab_of_bd hb (by decide +kernel) (by decide +kernel)
          exact (narrow_ab ha.fin (by decide +kernel) (Nat.le_trans ha.le (by decide +kernel))).1
        · rename_i h4; rw [if_neg h4] at hf; exact absurd hf (by decide +kernel)
theorem log_fin {c : Nat} (hf : fin .f32 (fop .quo .f32 (logC c) 1086918619) = true) : fin .f32 (logC c) = true := by
  cases h : fin .f32 (logC c)
  · exfalso
    revert hf h
    unfold logC
    split
    · intro hf; exact absurd hf (by decide +kernel)
    · split
      · intro hf; exact absurd hf (by decide +kernel)
      · split
        · rename_i h3; rw [h3]; intro hf; exact absurd hf (by decide +kernel)
        · split
          · rename_i h1 h2 h3 h4
            obtain ⟨p1, p2⟩ : 0 < c ∧ c < 2139095040 := by
              refine ⟨Nat.pos_of_ne_zero fun h => h2 (.inl h), ?_⟩
              rcases classes (c := c) (by omega) with g | g | g | g | g
              · exact absurd g h1
              · exact absurd g h2
              · exact absurd g h3
              · exact g.2
              · omega
            obtain ⟨r1, r2⟩ := wide_range p1 p2
            have ha : Ab .f64 (logW (fcv .f32 .f64 c)) 4800837202776948736 := ab_of_bd (logW_bd r1 r2) (by decide +kernel) (by decide +kernel)
            have hb := (narrow_ab (c := 1426063360) ha.fin (by decide +kernel) (Nat.le_trans ha.le (by decide +kernel))).1.fin
            intro _ h; rw [hb] at h; cases h
          · intro hf; exact absurd hf (by decide +kernel)
  · rfl
theorem stret_ab {c : Nat} (h : stretOk c = true) : Ab .f32 (stretV c) 1409286144 := by
  have e : stretV c = stretC c := by unfold stretV; rw [if_pos h]
  unfold stretOk at h
  rw [Bool.and_eq_true] at h
  rw [e]
  unfold stretC at *
  have h1 := log_ab (fop_lt32 _ _ _) (log_fin h.2)
  exact (quo_ab (d := 1086918619) (c := 1409286144) h1 (by decide +kernel) (Nat.le_refl _) (by decide +kernel) (by decide +kernel) (by decide +kernel)).1
theorem aptC_nn {n e n' e' : Nat} (v1 : validC n e = true) (v2 : validC n' e' = true) : Nn .f32 (ptA n e n' e') 1056964608 := by
  have ha := Apt.of (Wb.way (turns_of v1).1 (turns_of v1).2) (Wb.way (turns_of v2).1 (turns_of v2).2)
  exact ⟨ha.ap, (angle_ab ha.lf ha.d.fin).2.2 ha.lz⟩
theorem geq_pos {x a : Nat} (h : fin .f32 x = true) (hs : sgn .f32 x = false) (ha : fin .f32 a = true) (h0 : sv .f32 a ≤ 0) : fcmp .geq .f32 x a = true := by
  rw [(fcmp_fin h ha).2.2.2.1, decide_eq_true_eq]; have := sv_nn hs; omega
theorem ster_ab {n e n' e' : Nat} (v1 : validC n e = true) (v2 : validC n' e' = true) (h : sterOk (ptA n e n' e') = true) : Ab .f32 (sterC (ptA n e n' e')) 1132462080 := by
  have hn := aptC_nn v1 v2
  unfold sterOk at h
  generalize ptA n e n' e' = A at *
  rw [(fcmp_fin hn.ab.fin (by decide +kernel)).2.1, decide_eq_true_eq] at h
  have hA : Nn .f32 A 1055286886 := ⟨⟨rung_le_of_sv (sv_nn hn.pos) (by decide +kernel) h, by decide +kernel⟩, hn.pos⟩
  have hH : Nn .f32 (halfC A) 1046898278 := mul_nn (a := 1056964608) ⟨⟨Nat.le_refl _, by decide +kernel⟩, by decide +kernel⟩ hA (by decide +kernel) (by decide +kernel)
  have hc := cos_lb (f := halfC A) (geq_pos hH.ab.fin hH.pos (by decide +kernel) (by decide +kernel)) (by
    rw [(fcmp_fin hH.ab.fin (by decide +kernel)).2.1, decide_eq_true_eq]
    have h1 := hH.ab.val
    rw [sv_pos hH.pos]
    have c : ((val FloatKind.f32.format (rung .f32 1046898278) : Nat) : Int) ≤ sv .f32 1047904911 := by decide +kernel
    omega)
  have hcf : fin .f32 (cosC (halfC A)) = true := (cos_ab (hH.ab.mono (by decide +kernel) (by decide +kernel))).fin
  have hq := (quo_ab (d := 1015021568) (c := 1124073472) (sine_ab (c := halfC A) hH.ab.fin) hcf hc.2 (by decide +kernel) (by decide +kernel) (by decide +kernel)).1
  exact mul_ab (a := 1073741824) ⟨Nat.le_refl _, by decide +kernel⟩ hq (by decide +kernel) (by decide +kernel)
/-- Both parts are small where there is a point. -/
def Small (cr ci : Nat) (ok : Bool) : Prop := ok = true → Ab .f32 cr big46 ∧ Ab .f32 ci big46
theorem lpointsB {k : Int} {mn me f pn pe : Nat} (h1 : Fl .f32 mn mn) (h2 : Fl .f32 me me) (h3 : Fl .f32 f f) (h4 : Fl .f32 pn pn) (h5 : Fl .f32 pe pe) (hv : validM k mn me f = true) (hp : validC pn pe = true) :
    ∃ cr ci ok, (Lit.float .f32 cr).wf = true ∧ (Lit.float .f32 ci).wf = true ∧ Small cr ci ok ∧ (∀ g (w : World), g < w.heap.size → w.cell? ⟨g, 0, none⟩ = some (.int .i64 k) → w.cell? ⟨g, 1, none⟩ = some (.float .f32 mn) → w.cell? ⟨g, 2, none⟩ = some (.float .f32 me) → w.cell? ⟨g, 3, none⟩ = some (.float .f32 f) → Calls Tryz.prog 24 #[.pointer (some ⟨g, 0, none⟩), pl pn pe] w (RS (ptT cr ci ok) w)) ∧ (∀ w, Calls Tryz.prog 11 #[mp k mn me f, pl pn pe] w (RS (ptT cr ci ok) w)) := by
  have hv' := hv
  unfold validM at hv'
  simp only [Bool.and_eq_true] at hv'
  obtain ⟨hk, v1, hf⟩ := hv'
  have tf := first_turn hf
  have hm : Pm mn me f pn pe := ⟨h1, h2, h3, h4, h5, v1, hp, tf⟩
  obtain ⟨cr, ci, hS, hI, br, bi⟩ := phasorB (ptX_fl v1 hp) (ptX_wide v1 hp)
  have HS := Hb.mk hS
  have HI := Hb.mk hI
  have tp := turns_of hp
  have bE := round_ab (c := 1199570944) (ptE_ab v1 hp) (by decide +kernel) (by decide +kernel)
  have bN := round_ab (c := 1073741824) (valid_ab hp).1 (by decide +kernel) (by decide +kernel)
  have nA := aptC_nn v1 hp
  unfold firstIn at hf
  rw [Bool.and_eq_true] at hf
  have lc := cos_lb hf.1 hf.2
  unfold kindIn at hk
  have hk := of_decide_eq_true hk
  have hc : k = 0 ∨ k = 1 ∨ k = 2 ∨ k = 3 ∨ k = 4 ∨ k = 5 ∨ k = 6 := by omega
  rcases hc with rfl | rfl | rfl | rfl | rfl | rfl | rfl
  · exact ⟨_, _, _, (by exact wf_fop _ _ _ _), (by exact wf_fop _ _ _ _), fun _ => ⟨mul_ab bE tf.cos big_fin (by decide +kernel), bN.big (by decide +kernel)⟩, fun g w hg c0 c1 c2 c3 => l03Point_0 hm w hg c0 c1 c2 c3, fun w => iPointOf_flat h1 h2 h3 h4 h5 hv hp (Good := fun b w => w.cell? ⟨b, 0, none⟩ = some (.float .f32 (cosC f))) ⟨fun w => proj_0 h3 tf w⟩ ⟨fun b w h => iPt_0 hm w h⟩ w⟩
  · cases hs : stretOk pn
    · refine ⟨roundC (ptE me pe), roundC (stretV pn), false, wf_fop _ _ _ _, wf_fop _ _ _ _, (fun h => by cases h), ?_, ?_⟩
      · rw [ptT_no (by rfl)]
        exact fun g w hg c0 c1 c2 c3 => l03Point_1n hm hs w hg c0 c1 c2 c3
      · exact fun w => iPointOf_flat h1 h2 h3 h4 h5 hv hp (V := fun _ => _) (Good := fun _ _ => True) ⟨fun w => (proj_1 h3 tf w).mono fun _ _ ⟨a, b⟩ => ⟨0, a, trivial, b⟩⟩ ⟨fun _ w _ => hs ▸ iPt_1 hm w⟩ w
    · exact ⟨_, _, _, (by exact wf_fop _ _ _ _), (by exact wf_fop _ _ _ _), fun _ => ⟨bE.big (by decide +kernel), round_ab (stret_ab hs) big_fin (by decide +kernel)⟩, fun g w hg c0 c1 c2 c3 => l03Point_1y hm hs w hg c0 c1 c2 c3, fun w => iPointOf_flat h1 h2 h3 h4 h5 hv hp (V := fun _ => _) (Good := fun _ _ => True) ⟨fun w => (proj_1 h3 tf w).mono fun _ _ ⟨a, b⟩ => ⟨0, a, trivial, b⟩⟩ ⟨fun _ w _ => hs ▸ iPt_1 hm w⟩ w⟩
  · exact ⟨_, _, _, (by exact wf_fop _ _ _ _), (by exact wf_fop _ _ _ _), fun _ => ⟨mul_ab bE tf.cos big_fin (by decide +kernel), (quo_ab (d := 1015021568) tp.1.sine tf.cos.fin lc.2 (by decide +kernel) big_fin (by decide +kernel)).1⟩, fun g w hg c0 c1 c2 c3 => l03Point_2 hm w hg c0 c1 c2 c3, fun w => iPointOf_flat h1 h2 h3 h4 h5 hv hp (Good := fun b w => w.cell? ⟨b, 0, none⟩ = some (.float .f32 (cosC f))) ⟨fun w => proj_2 h3 tf w⟩ ⟨fun b w h => iPt_2 hm w h⟩ w⟩
  · exact ⟨_, _, _, (by exact wf_fop _ _ _ _), (by exact wf_fop _ _ _ _), fun _ => ⟨mul_ab bE tp.1.cos big_fin (by decide +kernel), bN.big (by decide +kernel)⟩, fun g w hg c0 c1 c2 c3 => l03Point_3 hm w hg c0 c1 c2 c3, fun w => iPointOf_flat h1 h2 h3 h4 h5 hv hp (V := fun _ => _) (Good := fun _ _ => True) ⟨fun w => (proj_3 h3 tf w).mono fun _ _ ⟨a, b⟩ => ⟨0, a, trivial, b⟩⟩ ⟨fun _ w _ => iPt_3 hm w⟩ w⟩
  · cases hs : sterOk (ptA mn me pn pe)
    · refine ⟨fop .mul .f32 cr (sterC (ptA mn me pn pe)), fop .mul .f32 ci (sterC (ptA mn me pn pe)), false, wf_fop _ _ _ _, wf_fop _ _ _ _, (fun h => by cases h), ?_, ?_⟩
      · rw [ptT_no (by rfl)]
        exact fun g w hg c0 c1 c2 c3 => l03Point_4n hm HS hs w hg c0 c1 c2 c3
      · exact fun w => iPointOf_round h1 h2 h3 h4 h5 hv hp (V := fun _ => _) (Good := fun _ _ => True) ⟨fun w => (proj_4 h3 tf w).mono fun _ _ ⟨a, b⟩ => ⟨0, a, trivial, b⟩⟩ ⟨fun _ w _ => hs ▸ iPt_4 HI hm w⟩ w
    · have bs := ster_ab v1 hp hs
      exact ⟨_, _, _, (by exact wf_fop _ _ _ _), (by exact wf_fop _ _ _ _), fun _ => ⟨mul_ab br bs big_fin (by decide +kernel), mul_ab bi bs big_fin (by decide +kernel)⟩, fun g w hg c0 c1 c2 c3 => l03Point_4y hm HS hs w hg c0 c1 c2 c3, fun w => iPointOf_round h1 h2 h3 h4 h5 hv hp (V := fun _ => _) (Good := fun _ _ => True) ⟨fun w => (proj_4 h3 tf w).mono fun _ _ ⟨a, b⟩ => ⟨0, a, trivial, b⟩⟩ ⟨fun _ w _ => hs ▸ iPt_4 HI hm w⟩ w⟩
  · have hh : Ab .f32 (halfC (ptA mn me pn pe)) 1056964608 := mul_ab (a := 1056964608) ⟨Nat.le_refl _, by decide +kernel⟩ nA.ab (by decide +kernel) (by decide +kernel)
    have bq : Ab .f32 (equC (ptA mn me pn pe)) 1082130432 := mul_ab (a := 1073741824) ⟨Nat.le_refl _, by decide +kernel⟩ (sine_ab hh.fin) (by decide +kernel) (by decide +kernel)
    exact ⟨_, _, _, (by exact wf_fop _ _ _ _), (by exact wf_fop _ _ _ _), fun _ => ⟨mul_ab br bq big_fin (by decide +kernel), mul_ab bi bq big_fin (by decide +kernel)⟩, fun g w hg c0 c1 c2 c3 => l03Point_5 hm HS w hg c0 c1 c2 c3, fun w => iPointOf_round h1 h2 h3 h4 h5 hv hp (V := fun _ => _) (Good := fun _ _ => True) ⟨fun w => (proj_5 h3 tf w).mono fun _ _ ⟨a, b⟩ => ⟨0, a, trivial, b⟩⟩ ⟨fun _ w _ => iPt_5 HI hm w⟩ w⟩
  · have bq := round_ab (c := 1082130432) nA.ab (by decide +kernel) (by decide +kernel)
    exact ⟨_, _, _, (by exact wf_fop _ _ _ _), (by exact wf_fop _ _ _ _), fun _ => ⟨mul_ab br bq big_fin (by decide +kernel), mul_ab bi bq big_fin (by decide +kernel)⟩, fun g w hg c0 c1 c2 c3 => l03Point_6 hm HS w hg c0 c1 c2 c3, fun w => iPointOf_round h1 h2 h3 h4 h5 hv hp (V := fun _ => _) (Good := fun _ _ => True) ⟨fun w => (proj_6 h3 tf w).mono fun _ _ ⟨a, b⟩ => ⟨0, a, trivial, b⟩⟩ ⟨fun _ w _ => iPt_6 HI hm w⟩ w⟩
end Go.Proofs.YtenekhckmglobaaGreat
