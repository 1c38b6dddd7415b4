/-
  PointOf: the small functions: finite complex numbers, scaling, what each kind makes of a north or of a length.
-/
import Derived.Test.YtenekhckmglobaaGreatPtN
namespace Go.Proofs.YtenekhckmglobaaGreat
open Go Go.RowKit
set_option maxRecDepth 100000

abbrev cxT (r i : Nat) (b : Bool) : Value := .tuple #[.complex .f32 r i, .bool b]
def ptOk (cr ci : Nat) (ok : Bool) : Bool := ok && (fin .f32 cr && fin .f32 ci)
def ptR (cr ci : Nat) (ok : Bool) : Nat := if ptOk cr ci ok = true then cr else 0
def ptI (cr ci : Nat) (ok : Bool) : Nat := if ptOk cr ci ok = true then ci else 0
abbrev ptT (cr ci : Nat) (ok : Bool) : Value := cxT (ptR cr ci ok) (ptI cr ci ok) (ptOk cr ci ok)
theorem ptT_no {cr ci : Nat} {ok : Bool} (h : ptOk cr ci ok = false) : ptT cr ci ok = cxT 0 0 false := by unfold ptT ptR ptI; rw [h]; rfl
theorem ptT_yes {cr ci : Nat} {ok : Bool} (h : ptOk cr ci ok = true) : ptT cr ci ok = cxT cr ci true := by unfold ptT ptR ptI; rw [h]; rfl
def RCB (cr ci : Nat) (ok : Bool) (w : World) (e : Ending) (w' : World) : Prop := ∃ r i, e = .returned (cxT r i ok) ∧ Fl .f32 cr r ∧ Fl .f32 ci i ∧ Below w.heap.size w w'
def halfC (c : Nat) : Nat := fop .mul .f32 1056964608 c
def roundC (c : Nat) : Nat := fop .mul .f32 1086918619 c
def sterC (c : Nat) : Nat := fop .mul .f32 1073741824 (fop .quo .f32 (sineC (halfC c)) (cosC (halfC c)))
def equC (c : Nat) : Nat := fop .mul .f32 1073741824 (sineC (halfC c))
def sterOk (c : Nat) : Bool := fcmp .leq .f32 c 1055286886
theorem l01CFinite_any {cr ci r i : Nat} (hr : Fl .f32 cr r) (hi : Fl .f32 ci i) (w : World) : Calls Tryz.prog 32 #[.complex .f32 r i] w (RB (fin .f32 cr && fin .f32 ci) w) := by
  have K1 := l01Finite_any hr
  have K2 := Hb.mk (l01Finite_any hi)
  cases h : fin .f32 cr
  · rw [h] at K1
    have K1 := Hb.mk K1
    go_enter Tryz.func32, Tryz.ntmps32
    go_wp2_with (go_at_call 79; refine (K1.out _).mono ?_; rintro e w' ⟨rfl, n, rfl⟩)
    go_ret
    exact RB.any rfl (by repeat (first | exact Drew.refl _ | refine Drew.more ?_))
  · rw [h] at K1
    have K1 := Hb.mk K1
    go_enter Tryz.func32, Tryz.ntmps32
    have tk_a : True := trivial; have tk_b : True := trivial
    go_wp2_with (first | (go_at_call 79; clear tk_a; refine (K1.out _).mono ?_; rintro e w' ⟨rfl, n, rfl⟩) | (go_at_call 79; clear tk_b; refine (K2.out _).mono ?_; rintro e w' ⟨rfl, n, rfl⟩))
    go_ret
    rw [Bool.true_and]
    exact RB.any rfl (by repeat (first | exact Drew.refl _ | refine Drew.more ?_))
theorem iFinC_any {cr ci r i : Nat} (hr : Fl .f32 cr r) (hi : Fl .f32 ci i) (w : World) : Calls Tryz.prog 60 #[.complex .f32 r i] w (RB (fin .f32 cr && fin .f32 ci) w) := by
  have K1 := iIsFinite_any hr
  have K2 := Hb.mk (iIsFinite_any hi)
  cases h : fin .f32 cr
  · rw [h] at K1
    have K1 := Hb.mk K1
    go_enter Tryz.func60, Tryz.ntmps60
    go_wp2_with (go_at_call 84; refine (K1.out _).mono ?_; rintro e w' ⟨rfl, n, rfl⟩)
    go_ret
    exact RB.any rfl (by repeat (first | exact Drew.refl _ | refine Drew.more ?_))
  · rw [h] at K1
    have K1 := Hb.mk K1
    go_enter Tryz.func60, Tryz.ntmps60
    have tk_a : True := trivial; have tk_b : True := trivial
    go_wp2_with (first | (go_at_call 84; clear tk_a; refine (K1.out _).mono ?_; rintro e w' ⟨rfl, n, rfl⟩) | (go_at_call 84; clear tk_b; refine (K2.out _).mono ?_; rintro e w' ⟨rfl, n, rfl⟩))
    go_ret
    rw [Bool.true_and]
    exact RB.any rfl (by repeat (first | exact Drew.refl _ | refine Drew.more ?_))
theorem l03Number_any {cr ci r i : Nat} (hr : Fl .f32 cr r) (hi : Fl .f32 ci i) (w : World) : Calls Tryz.prog 48 #[.complex .f32 r i] w (RT (ptT cr ci true) w) := by
  have K := l01CFinite_any hr hi
  cases h : (fin .f32 cr && fin .f32 ci)
  · rw [h] at K
    have K := Hb.mk K
    rw [ptT_no (by unfold ptOk; rw [h]; rfl)]
    go_enter Tryz.func48, Tryz.ntmps48
    go_wp2_with (go_at_call 32; refine (K.out _).mono ?_; rintro e w' ⟨rfl, n, rfl⟩)
    go_ret2
    exact RT.any (by repeat (first | exact Drew.refl _ | refine Drew.more ?_))
  · rw [h] at K
    have K := Hb.mk K
    have h2 := h
    rw [Bool.and_eq_true] at h2
    obtain rfl := hr.word (fin_notN h2.1)
    obtain rfl := hi.word (fin_notN h2.2)
    rw [ptT_yes (by unfold ptOk; rw [h]; rfl)]
    go_enter Tryz.func48, Tryz.ntmps48
    go_wp2_with (go_at_call 32; refine (K.out _).mono ?_; rintro e w' ⟨rfl, n, rfl⟩)
    go_ret2
    exact RT.any (by repeat (first | exact Drew.refl _ | refine Drew.more ?_))
theorem finitePoint_any {cr ci r i : Nat} {ok : Bool} (hr : Fl .f32 cr r) (hi : Fl .f32 ci i) (w : World) : Calls Tryz.prog 27 #[.complex .f32 r i, .bool ok] w (RT (ptT cr ci ok) w) := by
  have K := iFinC_any hr hi
  cases ok
  · rw [ptT_no (by rfl)]
    go_enter Tryz.func27, Tryz.ntmps27
    go_wp2
    go_ret2
    exact RT.any (by repeat (first | exact Drew.refl _ | refine Drew.more ?_))
  · cases h : (fin .f32 cr && fin .f32 ci)
    · rw [h] at K
      have K := Hb.mk K
      rw [ptT_no (by unfold ptOk; rw [h]; rfl)]
      go_enter Tryz.func27, Tryz.ntmps27
      go_wp2_with (go_at_call 60; refine (K.out _).mono ?_; rintro e w' ⟨rfl, n, rfl⟩)
      go_ret2
      exact RT.any (by repeat (first | exact Drew.refl _ | refine Drew.more ?_))
    · rw [h] at K
      have K := Hb.mk K
      have h2 := h
      rw [Bool.and_eq_true] at h2
      obtain rfl := hr.word (fin_notN h2.1)
      obtain rfl := hi.word (fin_notN h2.2)
      rw [ptT_yes (by unfold ptOk; rw [h]; rfl)]
      go_enter Tryz.func27, Tryz.ntmps27
      go_wp2_with (go_at_call 60; refine (K.out _).mono ?_; rintro e w' ⟨rfl, n, rfl⟩)
      go_ret2
      exact RT.any (by repeat (first | exact Drew.refl _ | refine Drew.more ?_))
theorem l03Round_any {c x : Nat} (hx : Fl .f32 c x) (w : World) : Calls Tryz.prog 41 #[.float .f32 x] w (RF .f32 (roundC c) w) := by
  go_enter Tryz.func41, Tryz.ntmps41
  go_wp2_with (refine wpList_fop rfl rfl rfl rfl rfl (by first | (with_reducible assumption) | (with_reducible exact Fl.ofInt _ _) | exact Fl.not (by decide +kernel) (by decide +kernel)) (by first | (with_reducible assumption) | (with_reducible exact Fl.ofInt _ _) | exact Fl.not (by decide +kernel) (by decide +kernel)) ?_; intro r n hr; simp only [Act.put, List.setIfInBounds_toArray, List.set_cons_succ, List.set_cons_zero])
  go_ret
  exact RF.any hr (by repeat (first | exact Drew.refl _ | refine Drew.more ?_))
theorem l01Scale_any {cr ci r i c x : Nat} (hr : Fl .f32 cr r) (hi : Fl .f32 ci i) (hx : Fl .f32 c x) (w : World) : Calls Tryz.prog 57 #[.complex .f32 r i, .float .f32 x] w (RC (fop .mul .f32 cr c) (fop .mul .f32 ci c) w) := by
  go_enter Tryz.func57, Tryz.ntmps57
  have tk_u : True := trivial; have tk_v : True := trivial
  go_wp2_with (first | (clear tk_u; refine wpList_fop rfl rfl rfl rfl rfl (by first | (with_reducible assumption) | (with_reducible exact Fl.ofInt _ _) | exact Fl.not (by decide +kernel) (by decide +kernel)) (by first | (with_reducible assumption) | (with_reducible exact Fl.ofInt _ _) | exact Fl.not (by decide +kernel) (by decide +kernel)) ?_; intro u n_u h_u; simp only [Act.put, List.setIfInBounds_toArray, List.set_cons_succ, List.set_cons_zero]) | (clear tk_v; refine wpList_fop rfl rfl rfl rfl rfl (by first | (with_reducible assumption) | (with_reducible exact Fl.ofInt _ _) | exact Fl.not (by decide +kernel) (by decide +kernel)) (by first | (with_reducible assumption) | (with_reducible exact Fl.ofInt _ _) | exact Fl.not (by decide +kernel) (by decide +kernel)) ?_; intro v n_v h_v; simp only [Act.put, List.setIfInBounds_toArray, List.set_cons_succ, List.set_cons_zero]))
  go_ret
  exact ⟨_, _, rfl, h_u, h_v, (by repeat (first | exact Drew.refl _ | refine Drew.more ?_))⟩
theorem iScale_any {cr ci r i c x : Nat} (hr : Fl .f32 cr r) (hi : Fl .f32 ci i) (hx : Fl .f32 c x) (w : World) : Calls Tryz.prog 49 #[.complex .f32 r i, .float .f32 x] w (RC (fop .mul .f32 cr c) (fop .mul .f32 ci c) w) := by
  go_enter Tryz.func49, Tryz.ntmps49
  have tk_u : True := trivial; have tk_v : True := trivial
  go_wp2_with (first | (clear tk_u; refine wpList_fop rfl rfl rfl rfl rfl (by first | (with_reducible assumption) | (with_reducible exact Fl.ofInt _ _) | exact Fl.not (by decide +kernel) (by decide +kernel)) (by first | (with_reducible assumption) | (with_reducible exact Fl.ofInt _ _) | exact Fl.not (by decide +kernel) (by decide +kernel)) ?_; intro u n_u h_u; simp only [Act.put, List.setIfInBounds_toArray, List.set_cons_succ, List.set_cons_zero]) | (clear tk_v; refine wpList_fop rfl rfl rfl rfl rfl (by first | (with_reducible assumption) | (with_reducible exact Fl.ofInt _ _) | exact Fl.not (by decide +kernel) (by decide +kernel)) (by first | (with_reducible assumption) | (with_reducible exact Fl.ofInt _ _) | exact Fl.not (by decide +kernel) (by decide +kernel)) ?_; intro v n_v h_v; simp only [Act.put, List.setIfInBounds_toArray, List.set_cons_succ, List.set_cons_zero]))
  go_ret
  exact ⟨_, _, rfl, h_u, h_v, (by repeat (first | exact Drew.refl _ | refine Drew.more ?_))⟩
theorem plateHigh_any {c x : Nat} (hx : Fl .f32 c x) (w : World) : Calls Tryz.prog 64 #[.float .f32 x] w (RP .f32 (roundC c) true w) := by
  go_enter Tryz.func64, Tryz.ntmps64
  go_wp2_with (refine wpList_fop rfl rfl rfl rfl rfl (by first | (with_reducible assumption) | (with_reducible exact Fl.ofInt _ _) | exact Fl.not (by decide +kernel) (by decide +kernel)) (by first | (with_reducible assumption) | (with_reducible exact Fl.ofInt _ _) | exact Fl.not (by decide +kernel) (by decide +kernel)) ?_; intro r n hr; simp only [Act.put, List.setIfInBounds_toArray, List.set_cons_succ, List.set_cons_zero])
  go_ret2
  exact RP.any hr (by repeat (first | exact Drew.refl _ | refine Drew.more ?_))
theorem mercatorHigh_any {c x : Nat} (hx : Fl .f32 c x) (w : World) : Calls Tryz.prog 66 #[.float .f32 x] w (RP .f32 (roundC (stretV c)) (stretOk c) w) := by
  go_enter Tryz.func66, Tryz.ntmps66
  go_wp2_with (first | (go_at_call 105; refine (iStretch_any hx _).mono ?_; rintro e w' ⟨r, n, rfl, hr, rfl⟩) | (refine wpList_fop rfl rfl rfl rfl rfl (by first | (with_reducible assumption) | (with_reducible exact Fl.ofInt _ _) | exact Fl.not (by decide +kernel) (by decide +kernel)) (by first | (with_reducible assumption) | (with_reducible exact Fl.ofInt _ _) | exact Fl.not (by decide +kernel) (by decide +kernel)) ?_; intro r n hr; simp only [Act.put, List.setIfInBounds_toArray, List.set_cons_succ, List.set_cons_zero]))
  go_ret2
  exact RP.any hr (by repeat (first | exact Drew.refl _ | refine Drew.more ?_))
theorem stereoLong_any {c x : Nat} (hx : Fl .f32 c x) (hf : fin .f32 c = true) (w : World) : Calls Tryz.prog 69 #[.float .f32 x] w (RP .f32 (sterC c) (sterOk c) w) := by
  have hh := Hb.mk (half32 hf)
  clear hf
  go_enter Tryz.func69, Tryz.ntmps69
  have tk_u : True := trivial; have tk_v : True := trivial; have tk_y : True := trivial; have tk_z : True := trivial
  go_wp2_with (first | (clear tk_u; refine wpList_fop rfl rfl rfl rfl rfl hx (by first | (with_reducible assumption) | (with_reducible exact Fl.ofInt _ _) | exact Fl.not (by decide +kernel) (by decide +kernel)) ?_; intro u n_u h_u; rw [hh.out] at h_u; simp only [Act.put, List.setIfInBounds_toArray, List.set_cons_succ, List.set_cons_zero]) | (go_at_call 104; refine (iSineTurns_any h_u _).mono ?_; rintro e w' ⟨s, n, rfl, h_s, rfl⟩) | (clear tk_v; refine wpList_fop rfl rfl rfl rfl rfl hx (by first | (with_reducible assumption) | (with_reducible exact Fl.ofInt _ _) | exact Fl.not (by decide +kernel) (by decide +kernel)) ?_; intro v n_v h_v; rw [hh.out] at h_v; simp only [Act.put, List.setIfInBounds_toArray, List.set_cons_succ, List.set_cons_zero]) | (go_at_call 61; refine (cosineTurns_any h_v _).mono ?_; rintro e w' ⟨k, n, rfl, h_k, rfl⟩) | (clear tk_y; refine wpList_fop rfl rfl rfl rfl rfl h_s h_k ?_; intro y n_y h_y; simp only [Act.put, List.setIfInBounds_toArray, List.set_cons_succ, List.set_cons_zero]) | (clear tk_z; refine wpList_fop rfl rfl rfl rfl rfl (by first | (with_reducible assumption) | (with_reducible exact Fl.ofInt _ _) | exact Fl.not (by decide +kernel) (by decide +kernel)) h_y ?_; intro z n_z h_z; simp only [Act.put, List.setIfInBounds_toArray, List.set_cons_succ, List.set_cons_zero]) | (refine wpList_fcmp rfl rfl rfl rfl rfl (by first | (with_reducible assumption) | (with_reducible exact Fl.ofInt _ _) | exact Fl.not (by decide +kernel) (by decide +kernel)) (by first | (with_reducible assumption) | (with_reducible exact Fl.ofInt _ _) | exact Fl.not (by decide +kernel) (by decide +kernel)) ?_; simp only [Act.put, List.setIfInBounds_toArray, List.set_cons_succ, List.set_cons_zero]))
  go_ret2
  exact RP.any h_z (by repeat (first | exact Drew.refl _ | refine Drew.more ?_))
theorem equalLong_any {c x : Nat} (hx : Fl .f32 c x) (hf : fin .f32 c = true) (w : World) : Calls Tryz.prog 71 #[.float .f32 x] w (RP .f32 (equC c) true w) := by
  have hh := Hb.mk (half32 hf)
  clear hf
  go_enter Tryz.func71, Tryz.ntmps71
  have tk_u : True := trivial; have tk_z : True := trivial
  go_wp2_with (first | (clear tk_u; refine wpList_fop rfl rfl rfl rfl rfl hx (by first | (with_reducible assumption) | (with_reducible exact Fl.ofInt _ _) | exact Fl.not (by decide +kernel) (by decide +kernel)) ?_; intro u n_u h_u; rw [hh.out] at h_u; simp only [Act.put, List.setIfInBounds_toArray, List.set_cons_succ, List.set_cons_zero]) | (go_at_call 104; refine (iSineTurns_any h_u _).mono ?_; rintro e w' ⟨s, n, rfl, h_s, rfl⟩) | (clear tk_z; refine wpList_fop rfl rfl rfl rfl rfl (by first | (with_reducible assumption) | (with_reducible exact Fl.ofInt _ _) | exact Fl.not (by decide +kernel) (by decide +kernel)) h_s ?_; intro z n_z h_z; simp only [Act.put, List.setIfInBounds_toArray, List.set_cons_succ, List.set_cons_zero]))
  go_ret2
  exact RP.any h_z (by repeat (first | exact Drew.refl _ | refine Drew.more ?_))
theorem farLong_any {c x : Nat} (hx : Fl .f32 c x) (w : World) : Calls Tryz.prog 73 #[.float .f32 x] w (RP .f32 (roundC c) true w) := by
  go_enter Tryz.func73, Tryz.ntmps73
  go_wp2_with (refine wpList_fop rfl rfl rfl rfl rfl (by first | (with_reducible assumption) | (with_reducible exact Fl.ofInt _ _) | exact Fl.not (by decide +kernel) (by decide +kernel)) (by first | (with_reducible assumption) | (with_reducible exact Fl.ofInt _ _) | exact Fl.not (by decide +kernel) (by decide +kernel)) ?_; intro r n hr; simp only [Act.put, List.setIfInBounds_toArray, List.set_cons_succ, List.set_cons_zero])
  go_ret2
  exact RP.any hr (by repeat (first | exact Drew.refl _ | refine Drew.more ?_))
end Go.Proofs.YtenekhckmglobaaGreat
