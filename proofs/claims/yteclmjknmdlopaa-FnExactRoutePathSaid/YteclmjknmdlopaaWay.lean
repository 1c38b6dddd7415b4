/-
  The way of a valid place, of the program and of its model: the same three words. No condition beyond those named.
-/
import Derived.Test.YteclmjknmdlopaaTail
import Derived.Test.YteclmjknmdlopaaWr
namespace Go.Proofs.Yteclmjknmdlopaa
open Go Go.RowKit
set_option maxRecDepth 100000

def wxC (n e : Nat) : Nat := fop .mul .f32 (cosC n) (cosC e)
def wyC (n e : Nat) : Nat := fop .mul .f32 (cosC n) (sineC e)
/-- what a valid place's turns and their sines are -/
structure Turn (n : Nat) : Prop where
  ab : Ab .f32 n 1056964608
  sine : Ab .f32 (sineC n) 1073741824
  cos : Ab .f32 (cosC n) 1073741824
theorem Turn.of {n : Nat} (h : Ab .f32 n 1056964608) : Turn n := ⟨h, sine_ab h.fin, cos_ab (h.mono (by decide +kernel) (by decide +kernel))⟩
theorem wx_ab {n e : Nat} (hn : Turn n) (he : Turn e) : Ab .f32 (wxC n e) 1082130432 ∧ Ab .f32 (wyC n e) 1082130432 :=
  ⟨mul_ab hn.cos he.cos (by decide +kernel) (by decide +kernel), mul_ab hn.cos he.sine (by decide +kernel) (by decide +kernel)⟩
theorem Turn.word {n x : Nat} (h : Turn n) (hx : Fl .f32 n x) : x = n := hx.word (fin_notN h.ab.fin)
theorem east_ab {e : Nat} (h : isEastC e = true) : Ab .f32 e 1056964608 := by
  unfold isEastC at h
  rw [Bool.and_eq_true] at h
  exact between_ab (by decide +kernel) (by decide +kernel) (by decide +kernel) h.1 (lss_leq h.2)
theorem valid_ab {n e : Nat} (h : validC n e = true) : Ab .f32 n 1048576000 ∧ Ab .f32 e 1056964608 := by
  unfold validC at h
  rw [Bool.and_eq_true] at h
  refine ⟨?_, east_ab h.2⟩
  have h1 := h.1
  unfold isNorthC at h1
  rw [Bool.and_eq_true] at h1
  exact between_ab (by decide +kernel) (by decide +kernel) (by decide +kernel) h1.1 h1.2
theorem turns_of {n e : Nat} (h : validC n e = true) : Turn n ∧ Turn e := ⟨Turn.of ((valid_ab h).1.mono (by decide +kernel) (by decide +kernel)), Turn.of (valid_ab h).2⟩
abbrev wyT (x y z : Nat) (b : Bool) : Value := .tuple #[wy x y z, .bool b]
abbrev plT (x y : Nat) (b : Bool) : Value := .tuple #[pl x y, .bool b]
set_option maxHeartbeats 2000000 in
theorem wayOf_any {n e : Nat} (h1 : Fl .f32 n n) (h2 : Fl .f32 e e) (hn : Turn n) (he : Turn e) (w : World) : Calls Try.prog 97 #[pl n e] w (RS (wy (wxC n e) (wyC n e) (sineC n)) w) := by
  obtain ⟨a1, a2⟩ := wx_ab hn he
  have k1 := fun w => exactF (cosineTurns_any h1 w) hn.cos.fin
  have k2 := fun w => exactF (cosineTurns_any h2 w) he.cos.fin
  have k3 := fun w => exactF (iSineTurns_any h2 w) he.sine.fin
  have k4 := fun w => exactF (iSineTurns_any h1 w) hn.sine.fin
  have m1 : ∀ w, (binOp .mul 44 (.float .f32 (cosC n)) (.float .f32 (cosC e))).run Try.prog w = .ok (.float .f32 (wxC n e)) w := fop_exact _ a1.fin
  have m2 : ∀ w, (binOp .mul 44 (.float .f32 (cosC n)) (.float .f32 (sineC e))).run Try.prog w = .ok (.float .f32 (wyC n e)) w := fop_exact _ a2.fin
  have K1 := Hb.mk k1
  have K2 := Hb.mk k2
  have K3 := Hb.mk k3
  have K4 := Hb.mk k4
  clear k1 k2 k3 k4 a1 a2 hn he
  generalize cosC n = cn at *
  generalize cosC e = ce at *
  generalize sineC e = se at *
  generalize sineC n = sn at *
  generalize wxC n e = X at *
  generalize wyC n e = Y at *
  have B0 := Hb.mk (Below.refl w.heap.size w)
  go_enter Try.func97, Try.ntmps97
  go_wp2_with (first | (go_at_call 110; refine (K1.out _).mono ?_; rintro e w1 ⟨rfl, n1, rfl⟩))
  refine region_keep 14 (by kernel_rfl) (by kernel_rfl) (fun I F hne HB hcl => ?_)
  have f1 := keepF HB (p := ⟨w.heap.size, 0, none⟩) (v := .float .f32 n) (by simp)
  have f2 := keepF HB (p := ⟨w.heap.size, 1, none⟩) (v := .float .f32 e) (by simp)
  simp only [List.take_succ_cons, List.take_zero, List.drop_succ_cons, List.drop_zero]
  repeat (quiet_step (first | (go_at_call_of 110 (Value.float .f32 e); exact callD hcl (K2.out _)) | (go_at_call_of 111 (Value.float .f32 e); exact callD hcl (K3.out _)) | (go_at_call_of 111 (Value.float .f32 n); exact callD hcl (K4.out _))))
  refine wpQuiet_nil ?_
  intro _ hw'
  obtain ⟨iq, rfl⟩ := hw'
  have g0 := keepF HB (p := ⟨w.heap.size + 1, 0, none⟩) (v := .float .f32 0) (by simp) iq
  have g1 := keepF HB (p := ⟨w.heap.size + 1, 1, none⟩) (v := .float .f32 0) (by simp) iq
  have g2 := keepF HB (p := ⟨w.heap.size + 1, 2, none⟩) (v := .float .f32 0) (by simp) iq
  have z0 := keepZ HB (p := ⟨w.heap.size + 1, 0, none⟩) (by simp) (by simp) iq
  have z1 := keepZ HB (p := ⟨w.heap.size + 1, 1, none⟩) (by simp) (by simp) iq
  have z2 := keepZ HB (p := ⟨w.heap.size + 1, 2, none⟩) (by simp) (by simp) iq
  have BQ := Hb.mk (HB.out iq)
  go_wp2
  exact bodyPost_ret (v := wy X Y sn) (by simp [results, Try.results97, go_sem, g0, g1, g2]) rfl ⟨rfl, (by repeat (first | exact Below.refl _ _ | refine Below.drews ?_ | refine Below.drew ?_ | refine Below.setCell ?_ (by simp <;> omega) _ | refine Below.on ?_ BQ.out (by simp <;> omega) | refine Below.alloc ?_ (by simp <;> omega) _))⟩
set_option maxHeartbeats 2000000 in
theorem l02Way_any {n e : Nat} (h1 : Fl .f32 n n) (h2 : Fl .f32 e e) (hn : Turn n) (he : Turn e) (w : World) : Calls Try.prog 77 #[pl n e] w (RS (wy (wxC n e) (wyC n e) (sineC n)) w) := by
  obtain ⟨a1, a2⟩ := wx_ab hn he
  have k1 := fun w => exactF (l02Cosine_any h1 w) hn.cos.fin
  have k2 := fun w => exactF (l02Cosine_any h2 w) he.cos.fin
  have k3 := fun w => exactF (l01Sine_any h2 w) he.sine.fin
  have k4 := fun w => exactF (l01Sine_any h1 w) hn.sine.fin
  have m1 : ∀ w, (binOp .mul 44 (.float .f32 (cosC n)) (.float .f32 (cosC e))).run Try.prog w = .ok (.float .f32 (wxC n e)) w := fop_exact _ a1.fin
  have m2 : ∀ w, (binOp .mul 44 (.float .f32 (cosC n)) (.float .f32 (sineC e))).run Try.prog w = .ok (.float .f32 (wyC n e)) w := fop_exact _ a2.fin
  have K1 := Hb.mk k1
  have K2 := Hb.mk k2
  have K3 := Hb.mk k3
  have K4 := Hb.mk k4
  clear k1 k2 k3 k4 a1 a2 hn he
  generalize cosC n = cn at *
  generalize cosC e = ce at *
  generalize sineC e = se at *
  generalize sineC n = sn at *
  generalize wxC n e = X at *
  generalize wyC n e = Y at *
  go_enter Try.func77, Try.ntmps77
  have tk_a : True := trivial; have tk_b : True := trivial; have tk_c : True := trivial; have tk_d : True := trivial
  go_wp2_with (first | (go_at_call 92; clear tk_a; refine (K1.out _).mono ?_; rintro e w1 ⟨rfl, n1, rfl⟩) | (go_at_call 92; clear tk_b; refine (K2.out _).mono ?_; rintro e w1 ⟨rfl, n1, rfl⟩) | (go_at_call 93; clear tk_c; refine (K3.out _).mono ?_; rintro e w1 ⟨rfl, n1, rfl⟩) | (go_at_call 93; clear tk_d; refine (K4.out _).mono ?_; rintro e w1 ⟨rfl, n1, rfl⟩))
  exact bodyPost_ret (v := wy X Y sn) (by simp [results, Try.results77, go_sem]) rfl ⟨rfl, (by repeat (first | exact Below.refl _ _ | with_reducible assumption | refine Below.drews ?_ | refine Below.drew ?_ | refine Below.alloc ?_ (by simp <;> omega) _ | refine Below.setCell ?_ (by simp <;> omega) _))⟩
theorem sine_fl {c : Nat} (h : Turn c) : Fl .f32 (sineC c) (sineC c) ∧ Fl .f32 (cosC c) (cosC c) := by
  have wf : ∀ x, fin .f32 (sineC x) = true → Fl .f32 (sineC x) (sineC x) := by
    intro x hx
    refine Fl.not (fin_notN hx) ?_
    unfold sineC
    split
    · split
      · decide +kernel
      · exact wf_fcv _
    · decide +kernel
  exact ⟨wf _ h.sine.fin, wf _ h.cos.fin⟩
theorem wf_fop (op : BinOp) (k : FloatKind) (x y : Nat) : (Lit.float k (fop op k x y)).wf = true := by
  cases h : floatBits op k x y with
  | some r => rw [fop_of_some h]; exact floatBits_wf h
  | none => rw [fop_of_none h]; exact wf_qn k
theorem fop_fl {op : BinOp} {k : FloatKind} {x y : Nat} (h : fin k (fop op k x y) = true) : Fl k (fop op k x y) (fop op k x y) := Fl.not (fin_notN h) (wf_fop op k x y)
end Go.Proofs.Yteclmjknmdlopaa
