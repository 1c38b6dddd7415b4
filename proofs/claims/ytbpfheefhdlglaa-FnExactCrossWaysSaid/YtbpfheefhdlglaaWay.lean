/-
  The way of a valid place, of the program and of its model: the same three words. No condition beyond those named.
-/
import Derived.Test.YtbpfheefhdlglaaTail
import Derived.Test.YtbpfheefhdlglaaWr
namespace Go.Proofs.Ytbpfheefhdlglaa
open Go Go.RowKit
set_option maxRecDepth 100000

def wxC (n e : Nat) : Nat := fop .mul .f32 (cosC n) (cosC e)
def wyC (n e : Nat) : Nat := fop .mul .f32 (cosC n) (sineC e)
/-- what a valid place's turns and their sines are -/
structure Turn (n : Nat) : Prop where
  ab : Ab .f32 n 1056964608
  sine : Ab .f32 (sineC n) 1073741824
  cos : Ab .f32 (cosC n) 1073741824
theorem Turn.of {n : Nat} (h : Ab .f32 n 1056964608) : Turn n := ⟨h, sine_ab h.fin, cos_ab (h.mono (by decide +kernel) (by decide +kernel))⟩
theorem wx_ab {n e : Nat} (hn : Turn n) (he : Turn e) : Ab .f32 (wxC n e) 1082130432 ∧ Ab .f32 (wyC n e) 1082130432 :=
  ⟨mul_ab hn.cos he.cos (by decide +kernel) (by decide +kernel), mul_ab hn.cos he.sine (by decide +kernel) (by decide +kernel)⟩
theorem Turn.word {n x : Nat} (h : Turn n) (hx : Fl .f32 n x) : x = n := hx.word (fin_notN h.ab.fin)
theorem east_ab {e : Nat} (h : isEastC e = true) : Ab .f32 e 1056964608 := by
  unfold isEastC at h
  rw [Bool.and_eq_true] at h
  exact between_ab (by decide +kernel) (by decide +kernel) (by decide +kernel) h.1 (lss_leq h.2)
theorem valid_ab {n e : Nat} (h : validC n e = true) : Ab .f32 n 1048576000 ∧ Ab .f32 e 1056964608 := by
  unfold validC at h
  rw [Bool.and_eq_true] at h
  refine ⟨?_, east_ab h.2⟩
  have h1 := h.1
  unfold isNorthC at h1
  rw [Bool.and_eq_true] at h1
  exact between_ab (by decide +kernel) (by decide +kernel) (by decide +kernel) h1.1 h1.2
theorem turns_of {n e : Nat} (h : validC n e = true) : Turn n ∧ Turn e := ⟨Turn.of ((valid_ab h).1.mono (by decide +kernel) (by decide +kernel)), Turn.of (valid_ab h).2⟩
abbrev wyT (x y z : Nat) (b : Bool) : Value := .tuple #[wy x y z, .bool b]
abbrev plT (x y : Nat) (b : Bool) : Value := .tuple #[pl x y, .bool b]
set_option maxHeartbeats 2000000 in
theorem wayOf_any {n e : Nat} (h1 : Fl .f32 n n) (h2 : Fl .f32 e e) (hn : Turn n) (he : Turn e) (w : World) : Calls Try.prog 73 #[pl n e] w (RS (wy (wxC n e) (wyC n e) (sineC n)) w) := by
  obtain ⟨a1, a2⟩ := wx_ab hn he
  have k1 := fun w => exactF (cosineTurns_any h1 w) hn.cos.fin
  have k2 := fun w => exactF (cosineTurns_any h2 w) he.cos.fin
  have k3 := fun w => exactF (iSineTurns_any h2 w) he.sine.fin
  have k4 := fun w => exactF (iSineTurns_any h1 w) hn.sine.fin
  have m1 : ∀ w, (binOp .mul 24 (.float .f32 (cosC n)) (.float .f32 (cosC e))).run Try.prog w = .ok (.float .f32 (wxC n e)) w := fop_exact _ a1.fin
  have m2 : ∀ w, (binOp .mul 24 (.float .f32 (cosC n)) (.float .f32 (sineC e))).run Try.prog w = .ok (.float .f32 (wyC n e)) w := fop_exact _ a2.fin
  have K1 := Hb.mk k1
  have K2 := Hb.mk k2
  have K3 := Hb.mk k3
  have K4 := Hb.mk k4
  clear k1 k2 k3 k4 a1 a2 hn he
  generalize cosC n = cn at *
  generalize cosC e = ce at *
  generalize sineC e = se at *
  generalize sineC n = sn at *
  generalize wxC n e = X at *
  generalize wyC n e = Y at *
  have B0 := Hb.mk (Below.refl w.heap.size w)
  go_enter Try.func73, Try.ntmps73
  go_wp2_with (first | (go_at_call 91; refine (K1.out _).mono ?_; rintro e w1 ⟨rfl, n1, rfl⟩))
  refine region_keep 14 (by kernel_rfl) (by kernel_rfl) (fun I F hne HB hcl => ?_)
  have f1 := keepF HB (p := ⟨w.heap.size, 0, none⟩) (v := .float .f32 n) (by simp)
  have f2 := keepF HB (p := ⟨w.heap.size, 1, none⟩) (v := .float .f32 e) (by simp)
  simp only [List.take_succ_cons, List.take_zero, List.drop_succ_cons, List.drop_zero]
  repeat (quiet_step (first | (go_at_call_of 91 (Value.float .f32 e); exact callD hcl (K2.out _)) | (go_at_call_of 25 (Value.float .f32 e); exact callD hcl (K3.out _)) | (go_at_call_of 25 (Value.float .f32 n); exact callD hcl (K4.out _))))
  refine wpQuiet_nil ?_
  intro _ hw'
  obtain ⟨iq, rfl⟩ := hw'
  have g0 := keepF HB (p := ⟨w.heap.size + 1, 0, none⟩) (v := .float .f32 0) (by simp) iq
  have g1 := keepF HB (p := ⟨w.heap.size + 1, 1, none⟩) (v := .float .f32 0) (by simp) iq
  have g2 := keepF HB (p := ⟨w.heap.size + 1, 2, none⟩) (v := .float .f32 0) (by simp) iq
  have z0 := keepZ HB (p := ⟨w.heap.size + 1, 0, none⟩) (by simp) (by simp) iq
  have z1 := keepZ HB (p := ⟨w.heap.size + 1, 1, none⟩) (by simp) (by simp) iq
  have z2 := keepZ HB (p := ⟨w.heap.size + 1, 2, none⟩) (by simp) (by simp) iq
  have BQ := Hb.mk (HB.out iq)
  go_wp2
  exact bodyPost_ret (v := wy X Y sn) (by simp [results, Try.results73, go_sem, g0, g1, g2]) rfl ⟨rfl, (by repeat (first | exact Below.refl _ _ | refine Below.drews ?_ | refine Below.drew ?_ | refine Below.setCell ?_ (by simp <;> omega) _ | refine Below.on ?_ BQ.out (by simp <;> omega) | refine Below.alloc ?_ (by simp <;> omega) _))⟩
set_option maxHeartbeats 2000000 in
theorem l02Way_any {n e : Nat} (h1 : Fl .f32 n n) (h2 : Fl .f32 e e) (hn : Turn n) (he : Turn e) (w : World) : Calls Try.prog 109 #[pl n e] w (RS (wy (wxC n e) (wyC n e) (sineC n)) w) := by
  obtain ⟨a1, a2⟩ := wx_ab hn he
  have k1 := fun w => exactF (l02Cosine_any h1 w) hn.cos.fin
  have k2 := fun w => exactF (l02Cosine_any h2 w) he.cos.fin
  have k3 := fun w => exactF (l01Sine_any h2 w) he.sine.fin
  have k4 := fun w => exactF (l01Sine_any h1 w) hn.sine.fin
  have m1 : ∀ w, (binOp .mul 24 (.float .f32 (cosC n)) (.float .f32 (cosC e))).run Try.prog w = .ok (.float .f32 (wxC n e)) w := fop_exact _ a1.fin
  have m2 : ∀ w, (binOp .mul 24 (.float .f32 (cosC n)) (.float .f32 (sineC e))).run Try.prog w = .ok (.float .f32 (wyC n e)) w := fop_exact _ a2.fin
  have K1 := Hb.mk k1
  have K2 := Hb.mk k2
  have K3 := Hb.mk k3
  have K4 := Hb.mk k4
  clear k1 k2 k3 k4 a1 a2 hn he
  generalize cosC n = cn at *
  generalize cosC e = ce at *
  generalize sineC e = se at *
  generalize sineC n = sn at *
  generalize wxC n e = X at *
  generalize wyC n e = Y at *
  go_enter Try.func109, Try.ntmps109
  have tk_a : True := trivial; have tk_b : True := trivial; have tk_c : True := trivial; have tk_d : True := trivial
  go_wp2_with (first | (go_at_call 130; clear tk_a; refine (K1.out _).mono ?_; rintro e w1 ⟨rfl, n1, rfl⟩) | (go_at_call 130; clear tk_b; refine (K2.out _).mono ?_; rintro e w1 ⟨rfl, n1, rfl⟩) | (go_at_call 131; clear tk_c; refine (K3.out _).mono ?_; rintro e w1 ⟨rfl, n1, rfl⟩) | (go_at_call 131; clear tk_d; refine (K4.out _).mono ?_; rintro e w1 ⟨rfl, n1, rfl⟩))
  exact bodyPost_ret (v := wy X Y sn) (by simp [results, Try.results109, go_sem]) rfl ⟨rfl, (by repeat (first | exact Below.refl _ _ | with_reducible assumption | refine Below.drews ?_ | refine Below.drew ?_ | refine Below.alloc ?_ (by simp <;> omega) _ | refine Below.setCell ?_ (by simp <;> omega) _))⟩
theorem iWayOf_yes {n e : Nat} (h1 : Fl .f32 n n) (h2 : Fl .f32 e e) (hv : validC n e = true) (w : World) : Calls Try.prog 17 #[pl n e] w (RS (wyT (wxC n e) (wyC n e) (sineC n) true) w) := by
  obtain ⟨hn, he⟩ := turns_of hv
  have KW := Hb.mk (wayOf_any h1 h2 hn he)
  have KV := iValidPlace_any h1 h2
  rw [hv] at KV
  have HV := Hb.mk KV
  clear hv KV hn he
  generalize wxC n e = X at *
  generalize wyC n e = Y at *
  generalize sineC n = Z at *
  have B0 := Hb.mk (Below.refl w.heap.size w)
  go_enter Try.func17, Try.ntmps17
  go_wp2_with (first
    | (go_at_call 53; refine (HV.out _).mono ?_; rintro e1 w1 ⟨rfl, b1⟩; have B1 := Hb.mk (Below.on (B := w.heap.size) (a := w) (by repeat (first | exact B0.out | refine Below.drews ?_ | refine Below.drew ?_ | refine Below.alloc ?_ (by have hq_ := B0.out.size; first | omega | (simp <;> omega)) _ | refine Below.setCell ?_ (by have hq_ := B0.out.size; first | omega | (simp <;> omega)) _)) b1 (by have hq_ := B0.out.size; first | omega | (simp <;> omega))); have p0 := Hb.mk (At.keep b1 (p := ⟨w.heap.size, 0, none⟩) (v := .float .f32 n) (by simp [go_sem]) (by simp [go_sem])); obtain ⟨p0c, p0z, p0l⟩ := p0.out; have p1 := Hb.mk (At.keep b1 (p := ⟨w.heap.size, 1, none⟩) (v := .float .f32 e) (by simp [go_sem]) (by simp [go_sem])); obtain ⟨p1c, p1z, p1l⟩ := p1.out; have g0 := Hb.mk (At.keep b1 (p := ⟨w.heap.size + 1, 0, none⟩) (v := .float .f32 0) (by simp [go_sem]) (by simp [go_sem])); obtain ⟨g0c, g0z, g0l⟩ := g0.out; have g1 := Hb.mk (At.keep b1 (p := ⟨w.heap.size + 1, 1, none⟩) (v := .float .f32 0) (by simp [go_sem]) (by simp [go_sem])); obtain ⟨g1c, g1z, g1l⟩ := g1.out; have g2 := Hb.mk (At.keep b1 (p := ⟨w.heap.size + 1, 2, none⟩) (v := .float .f32 0) (by simp [go_sem]) (by simp [go_sem])); obtain ⟨g2c, g2z, g2l⟩ := g2.out; clear b1)
    | (go_at_call 73; refine (KW.out _).mono ?_; rintro e2 w2 ⟨rfl, b2⟩; have B2 := Hb.mk (Below.on (B := w.heap.size) (a := w) (by repeat (first | exact B1.out | refine Below.drews ?_ | refine Below.drew ?_ | refine Below.alloc ?_ (by have hq_ := B1.out.size; first | omega | (simp <;> omega)) _ | refine Below.setCell ?_ (by have hq_ := B1.out.size; first | omega | (simp <;> omega)) _)) b2 (by have hq_ := B1.out.size; first | omega | (simp <;> omega))); have g0 := Hb.mk (At.re g0.out b2 (by first | exact g0c | simp [go_sem, g0c, g0l]) (by first | exact g0z | simp [go_sem, g0z, g0l])); obtain ⟨g0c, g0z, g0l⟩ := g0.out; have g1 := Hb.mk (At.re g1.out b2 (by first | exact g1c | simp [go_sem, g1c, g1l]) (by first | exact g1z | simp [go_sem, g1z, g1l])); obtain ⟨g1c, g1z, g1l⟩ := g1.out; have g2 := Hb.mk (At.re g2.out b2 (by first | exact g2c | simp [go_sem, g2c, g2l]) (by first | exact g2z | simp [go_sem, g2z, g2l])); obtain ⟨g2c, g2z, g2l⟩ := g2.out; clear b2))
  exact bodyPost_ret (v := wyT X Y Z true) (by simp [results, Try.results17, go_sem, g0c, g1c, g2c]) rfl ⟨rfl, (by repeat (first | exact B2.out | refine Below.drews ?_ | refine Below.drew ?_ | refine Below.alloc ?_ (by have hq_ := B2.out.size; first | omega | (simp <;> omega)) _ | refine Below.setCell ?_ (by have hq_ := B2.out.size; first | omega | (simp <;> omega)) _))⟩
theorem iWayOf_no {n e a b : Nat} (h1 : Fl .f32 n a) (h2 : Fl .f32 e b) (hv : validC n e = false) (w : World) : Calls Try.prog 17 #[pl a b] w (RS (wyT 0 0 0 false) w) := by
  have KV := iValidPlace_any h1 h2
  rw [hv] at KV
  have HV := Hb.mk KV
  clear hv KV
  have B0 := Hb.mk (Below.refl w.heap.size w)
  go_enter Try.func17, Try.ntmps17
  go_wp2_with (first
    | (go_at_call 53; refine (HV.out _).mono ?_; rintro e1 w1 ⟨rfl, b1⟩; have B1 := Hb.mk (Below.on (B := w.heap.size) (a := w) (by repeat (first | exact B0.out | refine Below.drews ?_ | refine Below.drew ?_ | refine Below.alloc ?_ (by have hq_ := B0.out.size; first | omega | (simp <;> omega)) _ | refine Below.setCell ?_ (by have hq_ := B0.out.size; first | omega | (simp <;> omega)) _)) b1 (by have hq_ := B0.out.size; first | omega | (simp <;> omega))); have g0 := Hb.mk (At.keep b1 (p := ⟨w.heap.size + 1, 0, none⟩) (v := .float .f32 0) (by simp [go_sem]) (by simp [go_sem])); obtain ⟨g0c, g0z, g0l⟩ := g0.out; have g1 := Hb.mk (At.keep b1 (p := ⟨w.heap.size + 1, 1, none⟩) (v := .float .f32 0) (by simp [go_sem]) (by simp [go_sem])); obtain ⟨g1c, g1z, g1l⟩ := g1.out; have g2 := Hb.mk (At.keep b1 (p := ⟨w.heap.size + 1, 2, none⟩) (v := .float .f32 0) (by simp [go_sem]) (by simp [go_sem])); obtain ⟨g2c, g2z, g2l⟩ := g2.out; clear b1))
  exact bodyPost_ret (v := wyT 0 0 0 false) (by simp [results, Try.results17, go_sem, g0c, g1c, g2c]) rfl ⟨rfl, (by repeat (first | exact B1.out | refine Below.drews ?_ | refine Below.drew ?_ | refine Below.alloc ?_ (by have hq_ := B1.out.size; first | omega | (simp <;> omega)) _ | refine Below.setCell ?_ (by have hq_ := B1.out.size; first | omega | (simp <;> omega)) _))⟩
theorem sWayOf_yes {n e : Nat} (h1 : Fl .f32 n n) (h2 : Fl .f32 e e) (hv : validC n e = true) (w : World) : Calls Try.prog 63 #[pl n e] w (RS (wyT (wxC n e) (wyC n e) (sineC n) true) w) := by
  obtain ⟨hn, he⟩ := turns_of hv
  have KW := Hb.mk (l02Way_any h1 h2 hn he)
  have HV := Hb.mk hv
  clear hv hn he
  generalize wxC n e = X at *
  generalize wyC n e = Y at *
  generalize sineC n = Z at *
  have B0 := Hb.mk (Below.refl w.heap.size w)
  go_enter Try.func63, Try.ntmps63
  go_wp2_with (first
    | (go_at_call 103; refine (l02Is_any h1 h2 _ (by simp) (by simp)).mono ?_; rw [HV.out]; rintro e1 w1 ⟨rfl, n1, rfl⟩)
    | (go_at_call 109; refine (KW.out _).mono ?_; rintro e2 w2 ⟨rfl, b2⟩; have B2 := Hb.mk (Below.on (B := w.heap.size) (a := w) (by repeat (first | exact B0.out | refine Below.drews ?_ | refine Below.drew ?_ | refine Below.alloc ?_ (by have hq_ := B0.out.size; first | omega | (simp <;> omega)) _ | refine Below.setCell ?_ (by have hq_ := B0.out.size; first | omega | (simp <;> omega)) _)) b2 (by have hq_ := B0.out.size; first | omega | (simp <;> omega))); have g0 := Hb.mk (At.keep b2 (p := ⟨w.heap.size + 1, 0, none⟩) (v := .float .f32 0) (by simp [go_sem]) (by simp [go_sem])); obtain ⟨g0c, g0z, g0l⟩ := g0.out; have g1 := Hb.mk (At.keep b2 (p := ⟨w.heap.size + 1, 1, none⟩) (v := .float .f32 0) (by simp [go_sem]) (by simp [go_sem])); obtain ⟨g1c, g1z, g1l⟩ := g1.out; have g2 := Hb.mk (At.keep b2 (p := ⟨w.heap.size + 1, 2, none⟩) (v := .float .f32 0) (by simp [go_sem]) (by simp [go_sem])); obtain ⟨g2c, g2z, g2l⟩ := g2.out; clear b2))
  exact bodyPost_ret (v := wyT X Y Z true) (by simp [results, Try.results63, go_sem, g0c, g1c, g2c]) rfl ⟨rfl, (by repeat (first | exact B2.out | refine Below.drews ?_ | refine Below.drew ?_ | refine Below.alloc ?_ (by have hq_ := B2.out.size; first | omega | (simp <;> omega)) _ | refine Below.setCell ?_ (by have hq_ := B2.out.size; first | omega | (simp <;> omega)) _))⟩
theorem sWayOf_no {n e a b : Nat} (h1 : Fl .f32 n a) (h2 : Fl .f32 e b) (hv : validC n e = false) (w : World) : Calls Try.prog 63 #[pl a b] w (RS (wyT 0 0 0 false) w) := by
  have HV := Hb.mk hv
  clear hv
  go_enter Try.func63, Try.ntmps63
  go_wp2_with (first
    | (go_at_call 103; refine (l02Is_any h1 h2 _ (by simp) (by simp)).mono ?_; rw [HV.out]; rintro e1 w1 ⟨rfl, n1, rfl⟩))
  exact bodyPost_ret (v := wyT 0 0 0 false) (by simp [results, Try.results63, go_sem]) rfl ⟨rfl, (by repeat (first | exact Below.refl _ _ | with_reducible assumption | refine Below.drews ?_ | refine Below.drew ?_ | refine Below.alloc ?_ (by simp <;> omega) _ | refine Below.setCell ?_ (by simp <;> omega) _))⟩
theorem sine_fl {c : Nat} (h : Turn c) : Fl .f32 (sineC c) (sineC c) ∧ Fl .f32 (cosC c) (cosC c) := by
  have wf : ∀ x, fin .f32 (sineC x) = true → Fl .f32 (sineC x) (sineC x) := by
    intro x hx
    refine Fl.not (fin_notN hx) ?_
    unfold sineC
    split
    · split
      · decide +kernel
      · exact wf_fcv _
    · decide +kernel
  exact ⟨wf _ h.sine.fin, wf _ h.cos.fin⟩
theorem wf_fop (op : BinOp) (k : FloatKind) (x y : Nat) : (Lit.float k (fop op k x y)).wf = true := by
  cases h : floatBits op k x y with
  | some r => rw [fop_of_some h]; exact floatBits_wf h
  | none => rw [fop_of_none h]; exact wf_qn k
theorem fop_fl {op : BinOp} {k : FloatKind} {x y : Nat} (h : fin k (fop op k x y) = true) : Fl k (fop op k x y) (fop op k x y) := Fl.not (fin_notN h) (wf_fop op k x y)
set_option maxHeartbeats 1000000 in
theorem law_WayOf {a b : Nat} (wa : (Lit.float .f32 a).wf = true) (wb : (Lit.float .f32 b).wf = true) (w : World) : Calls Try.prog 10 #[pl a b] w (RS (.bool true) w) := by
  have h1 := Fl.own wa
  have h2 := Fl.own wb
  obtain ⟨X, Y, Z, ok, KS, KG, f1, f2, f3⟩ : ∃ X Y Z ok, Hb (∀ w, Calls Try.prog 63 #[pl a b] w (RS (wyT X Y Z ok) w)) ∧ Hb (∀ w, Calls Try.prog 17 #[pl a b] w (RS (wyT X Y Z ok) w)) ∧ Fl .f32 X X ∧ Fl .f32 Y Y ∧ Fl .f32 Z Z := by
    cases hv : validC (nrm .f32 a) (nrm .f32 b)
    · exact ⟨_, _, _, _, ⟨sWayOf_no h1 h2 hv⟩, ⟨iWayOf_no h1 h2 hv⟩, fl0, fl0, fl0⟩
    · obtain ⟨hn, he⟩ := turns_of hv
      have e1 := hn.word h1
      have e2 := he.word h2
      rw [← e1] at hn h1 hv
      rw [← e2] at he h2 hv
      obtain ⟨a1, a2⟩ := wx_ab hn he
      exact ⟨_, _, _, _, ⟨sWayOf_yes h1 h2 hv⟩, ⟨iWayOf_yes h1 h2 hv⟩, fop_fl a1.fin, fop_fl a2.fin, (sine_fl hn).1⟩
  have B0 := Hb.mk (Below.refl w.heap.size w)
  cases ok
  all_goals
    go_enter Try.func10, Try.ntmps10
    have tk_a : True := trivial; have tk_b : True := trivial
    go_wp2_with (first
      | (go_at_call 52; clear tk_a; refine (toPlace_any _ _ _).mono ?_; rintro e w1 ⟨rfl, b1⟩; have B1 := Hb.mk (Below.on (B := w.heap.size) (a := w) (by repeat (first | exact B0.out | refine Below.drews ?_ | refine Below.drew ?_ | refine Below.alloc ?_ (by have hq_ := B0.out.size; first | omega | (simp <;> omega)) _ | refine Below.setCell ?_ (by have hq_ := B0.out.size; first | omega | (simp <;> omega)) _)) b1 (by have hq_ := B0.out.size; first | omega | (simp <;> omega))); have p0 := Hb.mk (At.keep b1 (p := ⟨w.heap.size, 0, none⟩) (v := .float .f32 a) (by simp [go_sem]) (by simp [go_sem])); obtain ⟨p0c, p0z, p0l⟩ := p0.out; have p1 := Hb.mk (At.keep b1 (p := ⟨w.heap.size, 1, none⟩) (v := .float .f32 b) (by simp [go_sem]) (by simp [go_sem])); obtain ⟨p1c, p1z, p1l⟩ := p1.out; clear b1)
      | (go_at_call 63; refine (KS.out _).mono ?_; rintro e w2 ⟨rfl, b2⟩; have B2 := Hb.mk (Below.on (B := w.heap.size) (a := w) (by repeat (first | exact B1.out | refine Below.drews ?_ | refine Below.drew ?_ | refine Below.alloc ?_ (by have hq_ := B1.out.size; first | omega | (simp <;> omega)) _ | refine Below.setCell ?_ (by have hq_ := B1.out.size; first | omega | (simp <;> omega)) _)) b2 (by have hq_ := B1.out.size; first | omega | (simp <;> omega))); have p0 := Hb.mk (At.re p0.out b2 (by first | exact p0c | simp [go_sem, p0c, p0l]) (by first | exact p0z | simp [go_sem, p0z, p0l])); obtain ⟨p0c, p0z, p0l⟩ := p0.out; have p1 := Hb.mk (At.re p1.out b2 (by first | exact p1c | simp [go_sem, p1c, p1l]) (by first | exact p1z | simp [go_sem, p1z, p1l])); obtain ⟨p1c, p1z, p1l⟩ := p1.out; clear b2)
      | (go_at_call 52; clear tk_b; refine (toPlace_any _ _ _).mono ?_; rintro e w3 ⟨rfl, b3⟩; have B3 := Hb.mk (Below.on (B := w.heap.size) (a := w) (by repeat (first | exact B2.out | refine Below.drews ?_ | refine Below.drew ?_ | refine Below.alloc ?_ (by have hq_ := B2.out.size; first | omega | (simp <;> omega)) _ | refine Below.setCell ?_ (by have hq_ := B2.out.size; first | omega | (simp <;> omega)) _)) b3 (by have hq_ := B2.out.size; first | omega | (simp <;> omega))); have g0 := Hb.mk (At.keep b3 (p := ⟨w2.heap.size, 0, none⟩) (v := .float .f32 X) (by simp [go_sem]) (by simp [go_sem])); obtain ⟨g0c, g0z, g0l⟩ := g0.out; have g1 := Hb.mk (At.keep b3 (p := ⟨w2.heap.size, 1, none⟩) (v := .float .f32 Y) (by simp [go_sem]) (by simp [go_sem])); obtain ⟨g1c, g1z, g1l⟩ := g1.out; have g2 := Hb.mk (At.keep b3 (p := ⟨w2.heap.size, 2, none⟩) (v := .float .f32 Z) (by simp [go_sem]) (by simp [go_sem])); obtain ⟨g2c, g2z, g2l⟩ := g2.out; clear b3)
      | (go_at_call 17; refine (KG.out _).mono ?_; rintro e w4 ⟨rfl, b4⟩; have B4 := Hb.mk (Below.on (B := w.heap.size) (a := w) (by repeat (first | exact B3.out | refine Below.drews ?_ | refine Below.drew ?_ | refine Below.alloc ?_ (by have hq_ := B3.out.size; first | omega | (simp <;> omega)) _ | refine Below.setCell ?_ (by have hq_ := B3.out.size; first | omega | (simp <;> omega)) _)) b4 (by have hq_ := B3.out.size; first | omega | (simp <;> omega))); have g0 := Hb.mk (At.re g0.out b4 (by first | exact g0c | simp [go_sem, g0c, g0l]) (by first | exact g0z | simp [go_sem, g0z, g0l])); obtain ⟨g0c, g0z, g0l⟩ := g0.out; have g1 := Hb.mk (At.re g1.out b4 (by first | exact g1c | simp [go_sem, g1c, g1l]) (by first | exact g1z | simp [go_sem, g1z, g1l])); obtain ⟨g1c, g1z, g1l⟩ := g1.out; have g2 := Hb.mk (At.re g2.out b4 (by first | exact g2c | simp [go_sem, g2c, g2l]) (by first | exact g2z | simp [go_sem, g2z, g2l])); obtain ⟨g2c, g2z, g2l⟩ := g2.out; clear b4)
      | (go_at_call 64; refine (eqWay_any f1 f2 f3 f1 f2 f3 _).mono ?_; rintro e w5 ⟨rfl, b5⟩; have B5 := Hb.mk (Below.on (B := w.heap.size) (a := w) (by repeat (first | exact B4.out | refine Below.drews ?_ | refine Below.drew ?_ | refine Below.alloc ?_ (by have hq_ := B4.out.size; first | omega | (simp <;> omega)) _ | refine Below.setCell ?_ (by have hq_ := B4.out.size; first | omega | (simp <;> omega)) _)) b5 (by have hq_ := B4.out.size; first | omega | (simp <;> omega))); clear b5))
    go_ret
    exact ⟨rfl, (by repeat (first | exact B5.out | refine Below.drews ?_ | refine Below.drew ?_ | refine Below.alloc ?_ (by have hq_ := B5.out.size; first | omega | (simp <;> omega)) _ | refine Below.setCell ?_ (by have hq_ := B5.out.size; first | omega | (simp <;> omega)) _))⟩
end Go.Proofs.Ytbpfheefhdlglaa
