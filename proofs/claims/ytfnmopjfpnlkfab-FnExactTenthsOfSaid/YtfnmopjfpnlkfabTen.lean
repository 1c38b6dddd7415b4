/-
  TenthsOf and RootNumber, of the program and of its model, compute the same Lean functions; their exact laws. No condition.
-/
import Derived.Test.YtfnmopjfpnlkfabLogN
namespace Go.Proofs.Ytfnmopjfpnlkfab
open Go Go.RowKit

def tenthsC (c : Nat) : Int := fint (ffloor (tenthsV (fcv .f32 .f64 c)))
/-- A finite number greater than 0. -/
def isPow (c : Nat) : Bool := decide (0 < c ∧ c < 2139095040)

theorem floor_run {c x : Nat} (w : World) (hx : Fl .f64 c x) (hf : fin .f64 c = true) : (callFunc 69 #[.float .f64 x]).run Try.prog w = .ok (.value (.float .f64 (ffloor c))) w := by
  obtain rfl := hx.word (fin_notN hf)
  obtain ⟨m, p, h1, _⟩ := read_fin hf
  rw [run_callFunc_extern (e := Extern.MathFloor.toIntegral "math.archFloor" .down) Try.func69 (by kernel_rfl) (by kernel_rfl) (by kernel_rfl) (by kernel_rfl)]
  have e : Extern.MathFloor.toIntegral "math.archFloor" .down #[.float .f64 x] = (match FloatKind.f64.decode x with
    | .nan s t =>
      if FloatKind.f64.format.quiet t = t then pure (.float .f64 x) else do
      let kept ← choose (.extern "math.Floor,Ceil,Trunc,RoundToEven.signallingNaN kept" 2)
      pure (.float .f64 (if kept == 1 then x else FloatKind.f64.encode (.nan s (FloatKind.f64.format.quiet t))))
    | d => pure (.float .f64 (FloatKind.f64.encode (d.integral .down))) : Sem Value) := rfl
  rw [e]
  unfold ffloor FloatKind.decode FloatKind.encode
  rw [h1]
  rfl
theorem floor_any {c x : Nat} (hx : Fl .f64 c x) (hf : fin .f64 c = true) (w : World) : Calls Try.prog 52 #[.float .f64 x] w (RF .f64 (ffloor c) w) := by
  have hrun := floor_run w hx hf
  have hn := ffloor_notN (fin_notN hf)
  have hfl := Fl.not hn.1 hn.2
  go_enter Try.func52, Try.ntmps52
  go_wp2
  go_ret
  exact RF.any hfl (by repeat (first | exact Drew.refl _ | refine Drew.more ?_))
theorem isPow_class {c : Nat} (hc : c < 4294967296) (h : isPow c = false) : fin .f32 c = false ∨ (fin .f32 c = true ∧ fcmp .leq .f32 c 0 = true) := by
  unfold isPow at h
  rw [decide_eq_false_iff_not] at h
  rcases classes hc with h1 | h1 | h1 | h1 | ⟨h1, h2⟩
  · left
    cases hf : fin .f32 c
    · rfl
    · rw [fin_notN hf] at h1; exact absurd h1 (by decide)
  · right; rcases h1 with rfl | rfl <;> decide +kernel
  · left; subst h1; decide +kernel
  · exact absurd h1 h
  · cases hf : fin .f32 c
    · exact .inl rfl
    · exact .inr ⟨rfl, (neg_class h1 h2).2.2.2.2.2⟩
/-- The steps of the tenths, each with its own name. -/
theorem tenths_names {c : Nat} (h : isPow c = true) : ∃ X l m t f : Nat, Keep (fcv .f32 .f64 c = X) ∧ Keep (logW X = l) ∧ Keep (fop .mul .f64 l 4631308968768463603 = m) ∧ Keep (fop .add .f64 m 4602678819172646912 = t) ∧ Keep (ffloor t = f) ∧ Keep (floatToIntVal .f64 f .i64 = some (tenthsC c)) ∧ Keep (isN .f64 X = false) ∧ Keep (fin .f64 t = true) ∧ Keep (isN .f64 f = false) ∧ 3936146074321813504 ≤ X ∧ X < 5183643171103440896 ∧ Keep (fin .f32 c = true) ∧ Keep (fcmp .leq .f32 c 0 = false) := by
  unfold isPow at h; rw [decide_eq_true_eq] at h
  obtain ⟨ha, hb⟩ := h
  obtain ⟨r1, r2⟩ := wide_range ha hb
  obtain ⟨hf, _, _, _, c1⟩ := pos_class ha hb
  have hw := isN_wide c
  rw [fin_notN hf] at hw
  obtain ⟨n, hn⟩ := tenths_int r1 r2
  have hft := (tenthsV_bd r1 r2).fin
  have hfn := (ffloor_notN (fin_notN hft)).1
  have hv : tenthsC c = n := fint_of hn
  refine ⟨_, _, _, _, _, ⟨rfl⟩, ⟨rfl⟩, ⟨rfl⟩, ⟨rfl⟩, ⟨rfl⟩, ⟨?_⟩, ⟨hw⟩, ⟨hft⟩, ⟨hfn⟩, r1, r2, ⟨hf⟩, ⟨c1⟩⟩
  rw [hv]; exact hn
theorem l01Tenths_any {c x : Nat} (hx : Fl .f32 c x) (h : isPow c = true) (w : World) : Calls Try.prog 50 #[.float .f32 x] w (RI .i64 (tenthsC c) w) := by
  obtain ⟨X, l, m, t, f, kX, kl, km, kt, kf, ki, kn, kft, kfn, r1, r2, k1, k2⟩ := tenths_names h
  go_enter Try.func50, Try.ntmps50
  have tk_a : True := trivial; have tk_b : True := trivial; have tk_d : True := trivial
  go_wp2_with (first | (clear tk_a; (refine wpList_fcv rfl rfl rfl (by kernel_rfl) Try.underlying22 (by decide) hx (fits_wide _) ?_; intro r n hr; rw [kX.out] at hr; obtain rfl := hr.word kn.out; simp only [Act.put, List.setIfInBounds_toArray, List.set_cons_succ, List.set_cons_zero])) | (go_at_call 68; refine (l01LogWide_any r1 r2 _).mono ?_; rintro e w' ⟨r1, n, rfl, hr1, rfl⟩; rw [kl.out] at hr1) | (clear tk_b; (refine wpList_fop rfl rfl rfl rfl rfl hr1 (Fl.not (by decide +kernel) (by decide +kernel)) ?_; intro r2 n hr2; rw [km.out] at hr2; simp only [Act.put, List.setIfInBounds_toArray, List.set_cons_succ, List.set_cons_zero])) | (clear tk_d; (refine wpList_fop rfl rfl rfl rfl rfl hr2 (Fl.not (by decide +kernel) (by decide +kernel)) ?_; intro r3 n hr3; rw [kt.out] at hr3; simp only [Act.put, List.setIfInBounds_toArray, List.set_cons_succ, List.set_cons_zero])) | (go_at_call 52; refine (floor_any hr3 kft.out _).mono ?_; rintro e w' ⟨r4, n, rfl, hr4, rfl⟩; rw [kf.out] at hr4; obtain rfl := hr4.word kfn.out) | (refine wpList_fint rfl rfl rfl (by kernel_rfl) Try.underlying2 ki.out ?_; simp only [Act.put, List.setIfInBounds_toArray, List.set_cons_succ, List.set_cons_zero]))
  go_ret
  exact RI.any rfl (by repeat (first | exact Drew.refl _ | refine Drew.more ?_))
theorem sTenths_yes {c x : Nat} (hx : Fl .f32 c x) (h : isPow c = true) (w : World) : Calls Try.prog 20 #[.float .f32 x] w (RT (.tuple #[.int .i64 (tenthsC c), .bool true]) w) := by
  obtain ⟨X, l, m, t, f, kX, kl, km, kt, kf, ki, kn, kft, kfn, r1, r2, k1, k2⟩ := tenths_names h
  clear kX kl km kt kf ki kn kft kfn r1 r2
  have c1 := k2.out
  go_enter Try.func20, Try.ntmps20
  go_wp2_with (first | (go_at_call 49; refine (l01Finite_any hx _).mono ?_; rw [k1.out]; rintro e w' ⟨rfl, n, rfl⟩) | (refine wpList_fcmp_g rfl rfl rfl rfl rfl (by first | (with_reducible assumption) | (with_reducible exact Fl.ofInt _ _) | exact Fl.not (by decide +kernel) (by decide +kernel)) (by first | (with_reducible assumption) | (with_reducible exact Fl.ofInt _ _) | exact Fl.not (by decide +kernel) (by decide +kernel)) ?_; simp only [Act.put, List.setIfInBounds_toArray, List.set_cons_succ, List.set_cons_zero, c1]) | (go_at_call 50; refine (l01Tenths_any hx h _).mono ?_; rintro e w' ⟨rfl, n, rfl⟩))
  go_ret2
  exact RT.any (by repeat (first | exact Drew.refl _ | refine Drew.more ?_))
theorem sTenths_no {c x : Nat} (hx : Fl .f32 c x) (h : isPow c = false) (w : World) : Calls Try.prog 20 #[.float .f32 x] w (RT (.tuple #[.int .i64 0, .bool false]) w) := by
  rcases isPow_class hx.self.lt32 h with k1 | ⟨k1, c1⟩
  · have K := Keep.mk k1
    clear k1
    go_enter Try.func20, Try.ntmps20
    go_wp2_with (first | (go_at_call 49; refine (l01Finite_any hx _).mono ?_; rw [K.out]; rintro e w' ⟨rfl, n, rfl⟩))
    go_ret2
    exact RT.any (by repeat (first | exact Drew.refl _ | refine Drew.more ?_))
  · have K := Keep.mk k1
    clear k1
    go_enter Try.func20, Try.ntmps20
    go_wp2_with (first | (go_at_call 49; refine (l01Finite_any hx _).mono ?_; rw [K.out]; rintro e w' ⟨rfl, n, rfl⟩) | (refine wpList_fcmp_g rfl rfl rfl rfl rfl (by first | (with_reducible assumption) | (with_reducible exact Fl.ofInt _ _) | exact Fl.not (by decide +kernel) (by decide +kernel)) (by first | (with_reducible assumption) | (with_reducible exact Fl.ofInt _ _) | exact Fl.not (by decide +kernel) (by decide +kernel)) ?_; simp only [Act.put, List.setIfInBounds_toArray, List.set_cons_succ, List.set_cons_zero, c1]))
    go_ret2
    exact RT.any (by repeat (first | exact Drew.refl _ | refine Drew.more ?_))
theorem iTenths_yes {c x : Nat} (hx : Fl .f32 c x) (h : isPow c = true) (w : World) : Calls Try.prog 21 #[.float .f32 x] w (RT (.tuple #[.int .i64 (tenthsC c), .bool true]) w) := by
  obtain ⟨X, l, m, t, f, kX, kl, km, kt, kf, ki, kn, kft, kfn, r1, r2, k1, k2⟩ := tenths_names h
  have c1 := k2.out
  go_enter Try.func21, Try.ntmps21
  have tk_a : True := trivial; have tk_b : True := trivial; have tk_d : True := trivial
  go_wp2_with (first | (go_at_call 44; refine (iIsFinite_any hx _).mono ?_; rw [k1.out]; rintro e w' ⟨rfl, n, rfl⟩) | (refine wpList_fcmp_g rfl rfl rfl rfl rfl (by first | (with_reducible assumption) | (with_reducible exact Fl.ofInt _ _) | exact Fl.not (by decide +kernel) (by decide +kernel)) (by first | (with_reducible assumption) | (with_reducible exact Fl.ofInt _ _) | exact Fl.not (by decide +kernel) (by decide +kernel)) ?_; simp only [Act.put, List.setIfInBounds_toArray, List.set_cons_succ, List.set_cons_zero, c1]) | (clear tk_a; (refine wpList_fcv rfl rfl rfl (by kernel_rfl) Try.underlying22 (by decide) hx (fits_wide _) ?_; intro r n hr; rw [kX.out] at hr; obtain rfl := hr.word kn.out; simp only [Act.put, List.setIfInBounds_toArray, List.set_cons_succ, List.set_cons_zero])) | (go_at_call 51; refine (wideLog_any r1 r2 _).mono ?_; rintro e w' ⟨r1, n, rfl, hr1, rfl⟩; rw [kl.out] at hr1) | (clear tk_b; (refine wpList_fop rfl rfl rfl rfl rfl hr1 (Fl.not (by decide +kernel) (by decide +kernel)) ?_; intro r2 n hr2; rw [km.out] at hr2; simp only [Act.put, List.setIfInBounds_toArray, List.set_cons_succ, List.set_cons_zero])) | (clear tk_d; (refine wpList_fop rfl rfl rfl rfl rfl hr2 (Fl.not (by decide +kernel) (by decide +kernel)) ?_; intro r3 n hr3; rw [kt.out] at hr3; simp only [Act.put, List.setIfInBounds_toArray, List.set_cons_succ, List.set_cons_zero])) | (go_at_call 52; refine (floor_any hr3 kft.out _).mono ?_; rintro e w' ⟨r4, n, rfl, hr4, rfl⟩; rw [kf.out] at hr4; obtain rfl := hr4.word kfn.out) | (refine wpList_fint rfl rfl rfl (by kernel_rfl) Try.underlying2 ki.out ?_; simp only [Act.put, List.setIfInBounds_toArray, List.set_cons_succ, List.set_cons_zero]))
  go_ret2
  exact RT.any (by repeat (first | exact Drew.refl _ | refine Drew.more ?_))
theorem iTenths_no {c x : Nat} (hx : Fl .f32 c x) (h : isPow c = false) (w : World) : Calls Try.prog 21 #[.float .f32 x] w (RT (.tuple #[.int .i64 0, .bool false]) w) := by
  rcases isPow_class hx.self.lt32 h with k1 | ⟨k1, c1⟩
  · have K := Keep.mk k1
    clear k1
    go_enter Try.func21, Try.ntmps21
    go_wp2_with (first | (go_at_call 44; refine (iIsFinite_any hx _).mono ?_; rw [K.out]; rintro e w' ⟨rfl, n, rfl⟩))
    go_ret2
    exact RT.any (by repeat (first | exact Drew.refl _ | refine Drew.more ?_))
  · have K := Keep.mk k1
    clear k1
    go_enter Try.func21, Try.ntmps21
    go_wp2_with (first | (go_at_call 44; refine (iIsFinite_any hx _).mono ?_; rw [K.out]; rintro e w' ⟨rfl, n, rfl⟩) | (refine wpList_fcmp_g rfl rfl rfl rfl rfl (by first | (with_reducible assumption) | (with_reducible exact Fl.ofInt _ _) | exact Fl.not (by decide +kernel) (by decide +kernel)) (by first | (with_reducible assumption) | (with_reducible exact Fl.ofInt _ _) | exact Fl.not (by decide +kernel) (by decide +kernel)) ?_; simp only [Act.put, List.setIfInBounds_toArray, List.set_cons_succ, List.set_cons_zero, c1]))
    go_ret2
    exact RT.any (by repeat (first | exact Drew.refl _ | refine Drew.more ?_))
theorem law_TenthsOf {a : Nat} (wa : (Lit.float .f32 a).wf = true) (w : World) : Calls Try.prog 6 #[.float .f32 a] w (RB true w) := by
  have hx := Fl.own wa
  cases h : isPow (nrm .f32 a)
  · have K := Keep.mk h
    clear h
    go_enter Try.func6, Try.ntmps6
    go_wp2_with (first | (go_at_call 20; refine (sTenths_no hx K.out _).mono ?_; rintro e w' ⟨rfl, n, rfl⟩) | (go_at_call 21; refine (iTenths_no hx K.out _).mono ?_; rintro e w' ⟨rfl, n, rfl⟩))
    go_ret
    exact RB.any rfl (by repeat (first | exact Drew.refl _ | refine Drew.more ?_))
  · have K := Keep.mk h
    clear h
    go_enter Try.func6, Try.ntmps6
    go_wp2_with (first | (go_at_call 20; refine (sTenths_yes hx K.out _).mono ?_; rintro e w' ⟨rfl, n, rfl⟩) | (go_at_call 21; refine (iTenths_yes hx K.out _).mono ?_; rintro e w' ⟨rfl, n, rfl⟩))
    go_ret
    exact RB.any rfl (by repeat (first | exact Drew.refl _ | refine Drew.more ?_))
end Go.Proofs.Ytfnmopjfpnlkfab
