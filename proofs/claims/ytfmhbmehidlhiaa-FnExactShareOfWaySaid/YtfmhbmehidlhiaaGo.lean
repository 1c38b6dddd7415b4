/-
  Where a course leads, of the program and of its model; the exact law GoFrom. No condition.
-/
import Derived.Test.YtfmhbmehidlhiaaMeet
import Derived.Test.YtfmhbmehidlhiaaCrs
import Derived.Test.YtfmhbmehidlhiaaCos
namespace Go.Proofs.Ytfmhbmehidlhiaa
open Go Go.RowKit
set_option maxRecDepth 100000
theorem add_abr {k : FloatKind} {x y a b c : Nat} (hx : Ab k x a) (hy : Ab k y b) (hc : fin k c = true) (h : rung k (k.format.nearest false (val k.format (rung k a) + val k.format (rung k b)) k.format.leastPlace) ≤ rung k c) : Ab k (fop .add k x y) c := by
  refine ⟨?_, hc⟩
  rw [fop_add_near hx.fin hy.fin]
  refine Nat.le_trans (nearest_mono (t := false) _ _ ?_) h
  have h1 := hx.val
  have h2 := hy.val
  rw [← sv_abs k x] at h1
  rw [← sv_abs k y] at h2
  omega
theorem ab_max {x : Nat} (h : fin .f32 x = true) : Ab .f32 x 2139095039 := by
  refine ⟨?_, by decide +kernel⟩
  unfold fin at h
  rw [decide_eq_true_eq, in32] at h
  have e : rung .f32 2139095039 = 2139095039 := by decide +kernel
  omega
/-- a cosine of any finite number of turns -/
theorem cos_any {c : Nat} (h : fin .f32 c = true) : Ab .f32 (cosC c) 1073741824 :=
  sine_ab (add_abr (c := 2139095039) (ab_max h) (⟨Nat.le_refl _, by decide +kernel⟩ : Ab .f32 1048576000 1048576000) (by decide +kernel) (by decide +kernel)).fin
theorem Ab.ng {x b : Nat} (h : Ab .f32 x b) : Ab .f32 (Op.negFloat .f32 x) b := ⟨by rw [rung_neg]; exact h.le, h.fit⟩
theorem Wb.times {x y z b s d : Nat} (h : Wb x y z b) (g : Ab .f32 s d) {m : Nat} (hm : fin .f32 m = true) (k1 : val FloatKind.f32.format (rung .f32 b) * val FloatKind.f32.format (rung .f32 d) ≤ val FloatKind.f32.format (rung .f32 m) * 2 ^ (-FloatKind.f32.format.leastPlace).toNat) : Wb (fop .mul .f32 x s) (fop .mul .f32 y s) (fop .mul .f32 z s) m := by
  have a1 := mul_ab h.ax g hm k1
  have a2 := mul_ab h.ay g hm k1
  have a3 := mul_ab h.az g hm k1
  exact ⟨a1, a2, a3, fop_fl (op := .mul) a1.fin, fop_fl (op := .mul) a2.fin, fop_fl (op := .mul) a3.fin⟩
theorem Wb.sum {x y z x' y' z' b d : Nat} (h : Wb x y z b) (g : Wb x' y' z' d) {m : Nat} (hm : fin .f32 m = true) (k1 : val FloatKind.f32.format (rung .f32 b) + val FloatKind.f32.format (rung .f32 d) ≤ val FloatKind.f32.format (rung .f32 m)) : Wb (fop .add .f32 x x') (fop .add .f32 y y') (fop .add .f32 z z') m := by
  have a1 := add_ab h.ax g.ax hm k1
  have a2 := add_ab h.ay g.ay hm k1
  have a3 := add_ab h.az g.az hm k1
  exact ⟨a1, a2, a3, fop_fl (op := .add) a1.fin, fop_fl (op := .add) a2.fin, fop_fl (op := .add) a3.fin⟩
theorem ng_fl {x : Nat} (h : Fl .f32 x x) (hf : fin .f32 x = true) : Fl .f32 (Op.negFloat .f32 x) (Op.negFloat .f32 x) := ngf_fl h hf
def nD1 (n e c : Nat) : Nat := fop .add .f32 (fop .mul .f32 (Op.negFloat .f32 (fop .mul .f32 (sineC n) (cosC e))) (cosC c)) (fop .mul .f32 (Op.negFloat .f32 (sineC e)) (sineC c))
def nD2 (n e c : Nat) : Nat := fop .add .f32 (fop .mul .f32 (Op.negFloat .f32 (fop .mul .f32 (sineC n) (sineC e))) (cosC c)) (fop .mul .f32 (cosC e) (sineC c))
def nD3 (n c : Nat) : Nat := fop .add .f32 (fop .mul .f32 (cosC n) (cosC c)) (fop .mul .f32 0 (sineC c))
def nP1 (n e c f : Nat) : Nat := fop .add .f32 (fop .mul .f32 (wxC n e) (cosC f)) (fop .mul .f32 (nD1 n e c) (sineC f))
def nP2 (n e c f : Nat) : Nat := fop .add .f32 (fop .mul .f32 (wyC n e) (cosC f)) (fop .mul .f32 (nD2 n e c) (sineC f))
def nP3 (n c f : Nat) : Nat := fop .add .f32 (fop .mul .f32 (sineC n) (cosC f)) (fop .mul .f32 (nD3 n c) (sineC f))
/-- the numbers of a start and a course -/
structure Go1 (n e c : Nat) : Prop where
  an : Ab .f32 (fop .mul .f32 (sineC n) (cosC e)) 1082130432
  ae : Ab .f32 (fop .mul .f32 (sineC n) (sineC e)) 1082130432
  N : Wb (Op.negFloat .f32 (fop .mul .f32 (sineC n) (cosC e))) (Op.negFloat .f32 (fop .mul .f32 (sineC n) (sineC e))) (cosC n) 1082130432
  M : Wb (Op.negFloat .f32 (sineC e)) (cosC e) 0 1082130432
  NC : Wb (fop .mul .f32 (Op.negFloat .f32 (fop .mul .f32 (sineC n) (cosC e))) (cosC c)) (fop .mul .f32 (Op.negFloat .f32 (fop .mul .f32 (sineC n) (sineC e))) (cosC c)) (fop .mul .f32 (cosC n) (cosC c)) 1090519040
  MS : Wb (fop .mul .f32 (Op.negFloat .f32 (sineC e)) (sineC c)) (fop .mul .f32 (cosC e) (sineC c)) (fop .mul .f32 0 (sineC c)) 1090519040
  D : Wb (nD1 n e c) (nD2 n e c) (nD3 n c) 1098907648
theorem Go1.of {n e c : Nat} (hn : Turn n) (he : Turn e) (hc : fin .f32 c = true) : Go1 n e c := by
  have an : Ab .f32 (fop .mul .f32 (sineC n) (cosC e)) 1082130432 := mul_ab hn.sine he.cos (by decide +kernel) (by decide +kernel)
  have ae : Ab .f32 (fop .mul .f32 (sineC n) (sineC e)) 1082130432 := mul_ab hn.sine he.sine (by decide +kernel) (by decide +kernel)
  have up : ∀ {x : Nat}, Ab .f32 x 1073741824 → Ab .f32 x 1082130432 := fun h => h.mono (by decide +kernel) (by decide +kernel)
  have N : Wb (Op.negFloat .f32 (fop .mul .f32 (sineC n) (cosC e))) (Op.negFloat .f32 (fop .mul .f32 (sineC n) (sineC e))) (cosC n) 1082130432 :=
    ⟨an.ng, ae.ng, up hn.cos, ng_fl (fop_fl an.fin) an.fin, ng_fl (fop_fl ae.fin) ae.fin, sine_ok hn.cos.fin⟩
  have M : Wb (Op.negFloat .f32 (sineC e)) (cosC e) 0 1082130432 :=
    ⟨(up he.sine).ng, up he.cos, ⟨by decide +kernel, by decide +kernel⟩, ng_fl (sine_ok he.sine.fin) he.sine.fin, sine_ok he.cos.fin, fl0⟩
  have NC := N.times (m := 1090519040) (cos_any hc) (by decide +kernel) (by decide +kernel)
  have MS := M.times (m := 1090519040) (sine_ab hc) (by decide +kernel) (by decide +kernel)
  exact ⟨an, ae, N, M, NC, MS, NC.sum MS (by decide +kernel) (by decide +kernel)⟩
structure Go2 (n e c f : Nat) : Prop where
  WC : Wb (fop .mul .f32 (wxC n e) (cosC f)) (fop .mul .f32 (wyC n e) (cosC f)) (fop .mul .f32 (sineC n) (cosC f)) 1090519040
  DS : Wb (fop .mul .f32 (nD1 n e c) (sineC f)) (fop .mul .f32 (nD2 n e c) (sineC f)) (fop .mul .f32 (nD3 n c) (sineC f)) 1107296256
  P : Wb (nP1 n e c f) (nP2 n e c f) (nP3 n c f) 1115684864
theorem Go2.of {n e c f : Nat} (hn : Turn n) (he : Turn e) (hc : fin .f32 c = true) (hf : fin .f32 f = true) : Go2 n e c f := by
  have WC := (Wb.way hn he).times (m := 1090519040) (cos_any hf) (by decide +kernel) (by decide +kernel)
  have DS := (Go1.of hn he hc).D.times (m := 1107296256) (sine_ab hf) (by decide +kernel) (by decide +kernel)
  exact ⟨WC, DS, WC.sum DS (by decide +kernel) (by decide +kernel)⟩
theorem wayTimes_any {x y z a b c s t : Nat} (h1 : Fl .f32 x a) (h2 : Fl .f32 y b) (h3 : Fl .f32 z c) (hs : Fl .f32 s t) (w : World) : Calls Try.prog 70 #[wy a b c, .float .f32 t] w (RWB (fop .mul .f32 x s) (fop .mul .f32 y s) (fop .mul .f32 z s) w) := by
  go_enter Try.func70, Try.ntmps70
  have tk_m1 : True := trivial; have tk_m2 : True := trivial; have tk_m3 : True := trivial
  go_wp2_with (first | (clear tk_m1; refine wpList_fop rfl rfl rfl rfl rfl h1 hs ?_; intro m1 n_m1 h_m1; simp only [Act.put, List.setIfInBounds_toArray, List.set_cons_succ, List.set_cons_zero]) | (clear tk_m2; refine wpList_fop rfl rfl rfl rfl rfl h2 hs ?_; intro m2 n_m2 h_m2; simp only [Act.put, List.setIfInBounds_toArray, List.set_cons_succ, List.set_cons_zero]) | (clear tk_m3; refine wpList_fop rfl rfl rfl rfl rfl h3 hs ?_; intro m3 n_m3 h_m3; simp only [Act.put, List.setIfInBounds_toArray, List.set_cons_succ, List.set_cons_zero]))
  exact bodyPost_ret (v := wy m1 m2 m3) (by simp [results, Try.results70, go_sem]) rfl ⟨_, _, _, rfl, h_m1, h_m2, h_m3, (by repeat (first | exact Below.refl _ _ | with_reducible assumption | refine Below.drews ?_ | refine Below.drew ?_ | refine Below.alloc ?_ (by simp <;> omega) _ | refine Below.setCell ?_ (by simp <;> omega) _))⟩
theorem l02Times_any {x y z a b c s t : Nat} (h1 : Fl .f32 x a) (h2 : Fl .f32 y b) (h3 : Fl .f32 z c) (hs : Fl .f32 s t) (w : World) : Calls Try.prog 65 #[wy a b c, .float .f32 t] w (RWB (fop .mul .f32 x s) (fop .mul .f32 y s) (fop .mul .f32 z s) w) := by
  go_enter Try.func65, Try.ntmps65
  have tk_m1 : True := trivial; have tk_m2 : True := trivial; have tk_m3 : True := trivial
  go_wp2_with (first | (clear tk_m1; refine wpList_fop rfl rfl rfl rfl rfl h1 hs ?_; intro m1 n_m1 h_m1; simp only [Act.put, List.setIfInBounds_toArray, List.set_cons_succ, List.set_cons_zero]) | (clear tk_m2; refine wpList_fop rfl rfl rfl rfl rfl h2 hs ?_; intro m2 n_m2 h_m2; simp only [Act.put, List.setIfInBounds_toArray, List.set_cons_succ, List.set_cons_zero]) | (clear tk_m3; refine wpList_fop rfl rfl rfl rfl rfl h3 hs ?_; intro m3 n_m3 h_m3; simp only [Act.put, List.setIfInBounds_toArray, List.set_cons_succ, List.set_cons_zero]))
  exact bodyPost_ret (v := wy m1 m2 m3) (by simp [results, Try.results65, go_sem]) rfl ⟨_, _, _, rfl, h_m1, h_m2, h_m3, (by repeat (first | exact Below.refl _ _ | with_reducible assumption | refine Below.drews ?_ | refine Below.drew ?_ | refine Below.alloc ?_ (by simp <;> omega) _ | refine Below.setCell ?_ (by simp <;> omega) _))⟩
end Go.Proofs.Ytfmhbmehidlhiaa
