/-
  Legs: whether all are some, of the program and of the model; the exact law of AreLegs. No premise beyond those named.
-/
import Derived.Test.YtconlpgifkknmaaPls
namespace Go.Proofs.Ytconlpgifkknmaa
open Go Go.RowKit
set_option maxRecDepth 100000

def abvC (c : Nat) : Bool := fin .f32 c && fcmp .gtr .f32 c 0
def legC (t l : Nat) : Bool := fin .f32 t && (fin .f32 l && fcmp .gtr .f32 l 0)
def lAt (ys : List Nat) (i : Nat) : Bool := legC (nC ys i) (eC ys i)
def allL (ys : List Nat) : Nat → Bool
  | 0 => true
  | m + 1 => allL ys m && lAt ys m
def areL (ys : List Nat) (n : Nat) : Bool := decide (1 ≤ n ∧ n ≤ 32) && allL ys n
theorem allL_no {ys : List Nat} : ∀ {n i : Nat}, i < n → lAt ys i = false → allL ys n = false := by
  intro n
  induction n with
  | zero => intro i hi; omega
  | succ n ih =>
    intro i hi h
    unfold allL
    by_cases he : i = n
    · rw [← he, h, Bool.and_false]
    · rw [ih (by omega) h, Bool.false_and]
theorem l02Abv_any {c x : Nat} (hx : Fl .f32 c x) (w : World) : Calls Try.prog 83 #[.float .f32 x] w (RB (fin .f32 c && fcmp .gtr .f32 c 0) w) := by
  cases hf : fin .f32 c
  · go_enter Try.func83, Try.ntmps83
    go_wp2_with (first | (go_at_call 88; refine (l01Finite_any hx _).mono ?_; rw [hf]; rintro e w' ⟨rfl, n, rfl⟩))
    go_ret
    exact RB.any rfl (by repeat (first | exact Drew.refl _ | refine Drew.more ?_))
  · go_enter Try.func83, Try.ntmps83
    go_wp2_with (first | (go_at_call 88; refine (l01Finite_any hx _).mono ?_; rw [hf]; rintro e w' ⟨rfl, n, rfl⟩) | (refine wpList_fcmp_g rfl rfl rfl rfl rfl (by first | (with_reducible assumption) | (with_reducible exact Fl.ofInt _ _) | exact Fl.not (by decide +kernel) (by decide +kernel)) (by first | (with_reducible assumption) | (with_reducible exact Fl.ofInt _ _) | exact Fl.not (by decide +kernel) (by decide +kernel)) ?_; simp only [Act.put, List.setIfInBounds_toArray, List.set_cons_succ, List.set_cons_zero]))
    go_ret
    exact RB.any rfl (by repeat (first | exact Drew.refl _ | refine Drew.more ?_))
theorem legFinite_any {t l a b : Nat} (h1 : Fl .f32 t a) (h2 : Fl .f32 l b) (w : World) : Calls Try.prog 59 #[pl a b] w (RS (.bool (fin .f32 t && fin .f32 l)) w) := by
  cases hf : fin .f32 t
  · go_enter Try.func59, Try.ntmps59
    go_wp2_with (first | (go_at_call 72; refine (iIsFinite_any h1 _).mono ?_; rw [hf]; rintro e w' ⟨rfl, n, rfl⟩))
    go_ret
    exact ⟨rfl, (by repeat (first | exact Below.refl _ _ | with_reducible assumption | refine Below.drews ?_ | refine Below.drew ?_ | refine Below.alloc ?_ (by simp <;> omega) _ | refine Below.setCell ?_ (by simp <;> omega) _))⟩
  · go_enter Try.func59, Try.ntmps59
    have tk_a : True := trivial; have tk_b : True := trivial
    go_wp2_with (first | (go_at_call 72; clear tk_a; refine (iIsFinite_any h1 _).mono ?_; rw [hf]; rintro e w' ⟨rfl, n, rfl⟩) | (go_at_call 72; clear tk_b; refine (iIsFinite_any h2 _).mono ?_; rintro e w' ⟨rfl, n, rfl⟩))
    go_ret
    exact ⟨rfl, (by repeat (first | exact Below.refl _ _ | with_reducible assumption | refine Below.drews ?_ | refine Below.drew ?_ | refine Below.alloc ?_ (by simp <;> omega) _ | refine Below.setCell ?_ (by simp <;> omega) _))⟩
theorem isLeg_any {t l a b : Nat} (h1 : Fl .f32 t a) (h2 : Fl .f32 l b) (w : World) : Calls Try.prog 66 #[pl a b] w (RS (.bool (legC t l)) w) := by
  have K := Hf.mk (fun w => legFinite_any h1 h2 w)
  cases hf : fin .f32 t && fin .f32 l
  · have KV := Hf.mk (show legC t l = false by unfold legC; rw [← Bool.and_assoc, hf]; rfl)
    rw [hf] at K
    have HF := Hf.mk hf
    clear hf
    go_enter Try.func66, Try.ntmps66
    go_wp2_with (first | (go_at_call 59; refine (K.out _).mono ?_; rintro e w1 ⟨rfl, b1⟩; have E1 := Hb.mk b1; clear b1))
    go_ret
    rw [KV.out]
    exact ⟨rfl, (by repeat (first | exact Below.refl _ _ | refine Below.on ?_ E1.out (by first | omega | (simp <;> omega)) | refine Below.drews ?_ | refine Below.drew ?_ | refine Below.alloc ?_ (by first | omega | (simp <;> omega)) _ | refine Below.setCell ?_ (by first | omega | (simp <;> omega)) _))⟩
  · have KV := Hf.mk (show legC t l = fcmp .gtr .f32 l 0 by unfold legC; rw [← Bool.and_assoc, hf]; rfl)
    rw [hf] at K
    have HF := Hf.mk hf
    clear hf
    go_enter Try.func66, Try.ntmps66
    go_wp2_with (first | (go_at_call 59; refine (K.out _).mono ?_; rintro e w1 ⟨rfl, b1⟩; have E1 := Hb.mk b1; have c1 := Below.keep b1 (p := ⟨w.heap.size, 1, none⟩) (v := .float .f32 b) (by simp); clear b1) | (refine wpList_fcmp_g rfl rfl rfl rfl rfl (by first | (with_reducible assumption) | (with_reducible exact Fl.ofInt _ _) | exact Fl.not (by decide +kernel) (by decide +kernel)) (by first | (with_reducible assumption) | (with_reducible exact Fl.ofInt _ _) | exact Fl.not (by decide +kernel) (by decide +kernel)) ?_; simp only [Act.put, List.setIfInBounds_toArray, List.set_cons_succ, List.set_cons_zero]))
    go_ret
    rw [KV.out]
    exact ⟨rfl, (by repeat (first | exact Below.refl _ _ | refine Below.on ?_ E1.out (by first | omega | (simp <;> omega)) | refine Below.drews ?_ | refine Below.drew ?_ | refine Below.alloc ?_ (by first | omega | (simp <;> omega)) _ | refine Below.setCell ?_ (by first | omega | (simp <;> omega)) _))⟩
set_option maxHeartbeats 1000000 in
theorem areAllL_any {g n k : Nat} {ys : List Nat} (w : World) (hr : FRow w (some ⟨g, 0, none⟩) ys) (hw : Wf ys) (hn : ys.length = 2 * n) (hl : n ≤ 1048576) : Calls Try.prog 67 #[.slice (some ⟨g, 0, none⟩) n k, .func (.func 66) #[] #[]] w (RS (.bool (allL ys n)) w) := by
  have HR := Hf.mk hr
  have HW := Hf.mk hw
  have HN := Hf.mk hn
  clear hr hn hw
  go_enter Try.func67, Try.ntmps67
  go_wp2
  go_loopw [9] (fun i wr => ∃ m : Nat, m ≤ n ∧ i = .int .i64 m ∧ Hf (allL ys m = true) ∧ Hf (Below w.heap.size w wr)) (fun i _ => n - (intOf i).toNat)
  case atStart => exact ⟨0, by omega, rfl, ⟨rfl⟩, ⟨(by repeat (first | exact Below.refl _ _ | with_reducible assumption | refine Below.drews ?_ | refine Below.drew ?_ | refine Below.alloc ?_ (by simp <;> omega) _ | refine Below.setCell ?_ (by simp <;> omega) _))⟩⟩
  case round =>
    obtain ⟨m, hm, rfl, ha, hb⟩ := hrel
    by_cases hlt : m < n
    · obtain ⟨c0, c1⟩ := (HR.out.below hb.out).twoAt HN.out hlt
      have BR := Hb.mk hb.out
      have HV := Hf.mk (fun w => isLeg_any (flN HW.out HN.out hlt) (flE HW.out HN.out hlt) w)
      cases hv1 : lAt ys m
      · have KR := Hf.mk (show allL ys n = false from allL_no hlt hv1)
        unfold lAt at hv1
        rw [hv1] at HV
        clear hv1
        go_wp2_with (first | (go_at_call 66; refine (HV.out _).mono ?_; rintro e w1 ⟨rfl, b1⟩; have B1 := Hb.mk (Below.on (B := w.heap.size) (a := w) (by repeat (first | exact BR.out | refine Below.drews ?_ | refine Below.drew ?_ | refine Below.alloc ?_ (by have hq_ := BR.out.size; first | omega | (simp <;> omega)) _ | refine Below.setCell ?_ (by have hq_ := BR.out.size; first | omega | (simp <;> omega)) _)) b1 (by have hq_ := BR.out.size; first | omega | (simp <;> omega))); clear b1))
        go_ret
        rw [KR.out]
        exact ⟨rfl, (by repeat (first | exact Below.refl _ _ | exact B1.out | refine Below.drews ?_ | refine Below.drew ?_ | refine Below.alloc ?_ (by first | omega | (simp <;> omega)) _ | refine Below.setCell ?_ (by first | omega | (simp <;> omega)) _))⟩
      · have KS := Hf.mk (show allL ys (m + 1) = true by unfold allL; rw [ha.out, Bool.true_and]; exact hv1)
        unfold lAt at hv1
        rw [hv1] at HV
        clear hv1
        go_wp2_with (first | (go_at_call 66; refine (HV.out _).mono ?_; rintro e w1 ⟨rfl, b1⟩; have B1 := Hb.mk (Below.on (B := w.heap.size) (a := w) (by repeat (first | exact BR.out | refine Below.drews ?_ | refine Below.drew ?_ | refine Below.alloc ?_ (by have hq_ := BR.out.size; first | omega | (simp <;> omega)) _ | refine Below.setCell ?_ (by have hq_ := BR.out.size; first | omega | (simp <;> omega)) _)) b1 (by have hq_ := BR.out.size; first | omega | (simp <;> omega))); clear b1))
        go_roundw
        case rel => exact ⟨m + 1, by omega, i_ext2 (by omega), KS, ⟨(by repeat (first | exact Below.refl _ _ | exact B1.out | refine Below.drews ?_ | refine Below.drew ?_ | refine Below.alloc ?_ (by first | omega | (simp <;> omega)) _ | refine Below.setCell ?_ (by first | omega | (simp <;> omega)) _))⟩⟩
        case measure => simp [intOf]; omega
    · obtain rfl : m = n := by omega
      go_wp2
      go_ret
      rw [ha.out]
      exact ⟨rfl, hb.out⟩
set_option maxHeartbeats 1000000 in
theorem iAreLegs_any {g n k : Nat} {ys : List Nat} (w : World) (hr : FRow w (some ⟨g, 0, none⟩) ys) (hw : Wf ys) (hn : ys.length = 2 * n) (hl : n ≤ 1048576) : Calls Try.prog 15 #[.slice (some ⟨g, 0, none⟩) n k] w (RS (.bool (areL ys n)) w) := by
  have HA := Hf.mk (fun w hr => areAllL_any (k := k) (g := g) w hr hw hn hl)
  have HR := Hf.mk hr
  clear hr hw hn
  by_cases h1 : 1 ≤ n
  · by_cases h2 : n ≤ 32
    · have KR := Hf.mk (show areL ys n = allL ys n by unfold areL; rw [decide_eq_true ⟨h1, h2⟩, Bool.true_and])
      generalize allL ys n = b at *
      go_enter Try.func15, Try.ntmps15
      go_wp2_with (first | (go_at_call 67; refine (HA.out _ (HR.out.below (by repeat (first | exact Below.refl _ _ | with_reducible assumption | refine Below.drews ?_ | refine Below.drew ?_ | refine Below.alloc ?_ (by simp <;> omega) _ | refine Below.setCell ?_ (by simp <;> omega) _)))).mono ?_; rintro e w1 ⟨rfl, b1⟩; have E1 := Hb.mk b1; clear b1))
      go_ret
      rw [KR.out]
      exact ⟨rfl, (by repeat (first | exact Below.refl _ _ | refine Below.on ?_ E1.out (by first | omega | (simp <;> omega)) | refine Below.drews ?_ | refine Below.drew ?_ | refine Below.alloc ?_ (by first | omega | (simp <;> omega)) _ | refine Below.setCell ?_ (by first | omega | (simp <;> omega)) _))⟩
    · have KR := Hf.mk (show areL ys n = false by unfold areL; rw [decide_eq_false (by omega)]; rfl)
      go_enter Try.func15, Try.ntmps15
      go_wp2
      go_ret
      rw [KR.out]
      exact ⟨rfl, (by repeat (first | exact Below.refl _ _ | with_reducible assumption | refine Below.drews ?_ | refine Below.drew ?_ | refine Below.alloc ?_ (by simp <;> omega) _ | refine Below.setCell ?_ (by simp <;> omega) _))⟩
  · have KR := Hf.mk (show areL ys n = false by unfold areL; rw [decide_eq_false (by omega)]; rfl)
    go_enter Try.func15, Try.ntmps15
    go_wp2
    go_ret
    rw [KR.out]
    exact ⟨rfl, (by repeat (first | exact Below.refl _ _ | with_reducible assumption | refine Below.drews ?_ | refine Below.drew ?_ | refine Below.alloc ?_ (by simp <;> omega) _ | refine Below.setCell ?_ (by simp <;> omega) _))⟩
set_option maxHeartbeats 4000000 in
theorem l05Legs_any {g n k : Nat} {ys : List Nat} (w : World) (hr : FRow w (some ⟨g, 0, none⟩) ys) (hw : Wf ys) (hn : ys.length = 2 * n) (hl : n ≤ 1048576) : Calls Try.prog 130 #[.slice (some ⟨g, 0, none⟩) n k] w (RB (areL ys n) w) := by
  have HR := Hf.mk hr
  have HW := Hf.mk hw
  have HN := Hf.mk hn
  clear hr hn hw
  by_cases h1 : 1 ≤ n
  · by_cases h2 : n ≤ 32
    · go_enter Try.func130, Try.ntmps130
      go_wp2
      go_loopw [14] (fun i wr => ∃ m : Nat, m ≤ n ∧ i = .int .i64 m ∧ Hf (allL ys m = true) ∧ Drew w wr) (fun i _ => n - (intOf i).toNat)
      case atStart => exact ⟨0, by omega, rfl, ⟨rfl⟩, (by repeat (first | exact Drew.refl _ | refine Drew.more ?_))⟩
      case round =>
        obtain ⟨m, hm, rfl, ha, q, rfl⟩ := hrel
        by_cases hlt : m < n
        · obtain ⟨c0, c1⟩ := HR.out.twoAt HN.out hlt
          have HF := Hf.mk (fun w => l01Finite_any (flN HW.out HN.out hlt) w)
          have HV := Hf.mk (fun w => l02Abv_any (flE HW.out HN.out hlt) w)
          cases hf : fin .f32 (nC ys m)
          · have KR := Hf.mk (show areL ys n = false by unfold areL; rw [allL_no hlt (by unfold lAt legC; rw [hf]; rfl), Bool.and_false])
            rw [hf] at HF
            clear hf
            go_wp2_with (first | (go_at_call 88; refine (HF.out _).mono ?_; rintro e w' ⟨rfl, n1, rfl⟩))
            go_ret
            rw [KR.out]
            exact RB.any rfl (by repeat (first | exact Drew.refl _ | refine Drew.more ?_))
          · cases hv : fin .f32 (eC ys m) && fcmp .gtr .f32 (eC ys m) 0
            · have KR := Hf.mk (show areL ys n = false by unfold areL; rw [allL_no hlt (by unfold lAt legC; rw [hf, hv]; rfl), Bool.and_false])
              rw [hf] at HF
              rw [hv] at HV
              clear hf hv
              go_wp2_with (first | (go_at_call 88; refine (HF.out _).mono ?_; rintro e w' ⟨rfl, n1, rfl⟩) | (go_at_call 83; refine (HV.out _).mono ?_; rintro e w' ⟨rfl, n1, rfl⟩))
              go_ret
              rw [KR.out]
              exact RB.any rfl (by repeat (first | exact Drew.refl _ | refine Drew.more ?_))
            · have KS := Hf.mk (show allL ys (m + 1) = true by unfold allL lAt legC; rw [ha.out, hf, hv]; rfl)
              rw [hf] at HF
              rw [hv] at HV
              clear hf hv
              go_wp2_with (first | (go_at_call 88; refine (HF.out _).mono ?_; rintro e w' ⟨rfl, n1, rfl⟩) | (go_at_call 83; refine (HV.out _).mono ?_; rintro e w' ⟨rfl, n1, rfl⟩))
              go_roundw
              case rel => exact ⟨m + 1, by omega, i_ext2 (by omega), KS, (by repeat (first | exact Drew.refl _ | refine Drew.more ?_))⟩
              case measure => simp [intOf]; omega
        · obtain rfl : m = n := by omega
          have KR := Hf.mk (show areL ys m = true by unfold areL; rw [ha.out, decide_eq_true ⟨h1, h2⟩]; rfl)
          go_wp2
          go_ret
          rw [KR.out]
          exact RB.any rfl (by repeat (first | exact Drew.refl _ | refine Drew.more ?_))
    · have KR := Hf.mk (show areL ys n = false by unfold areL; rw [decide_eq_false (by omega)]; rfl)
      go_enter Try.func130, Try.ntmps130
      go_wp2
      go_ret
      rw [KR.out]
      exact RB.any rfl (by repeat (first | exact Drew.refl _ | refine Drew.more ?_))
  · have KR := Hf.mk (show areL ys n = false by unfold areL; rw [decide_eq_false (by omega)]; rfl)
    go_enter Try.func130, Try.ntmps130
    go_wp2
    go_ret
    rw [KR.out]
    exact RB.any rfl (by repeat (first | exact Drew.refl _ | refine Drew.more ?_))
theorem sAreLegs_any {g n k : Nat} {ys : List Nat} (w : World) (hr : FRow w (some ⟨g, 0, none⟩) ys) (hw : Wf ys) (hn : ys.length = 2 * n) (hl : n ≤ 1048576) : Calls Try.prog 49 #[.slice (some ⟨g, 0, none⟩) n k] w (RB (areL ys n) w) := by
  have HA := Hf.mk (l05Legs_any (k := k) w hr hw hn hl)
  generalize areL ys n = b at *
  clear hr hw hn
  go_enter Try.func49, Try.ntmps49
  go_wp2_with (first | (go_at_call 130; refine HA.out.mono ?_; rintro e w' ⟨rfl, n1, rfl⟩))
  go_ret
  exact RB.any rfl (by repeat (first | exact Drew.refl _ | refine Drew.more ?_))
theorem toLeg_any (a b : Nat) (w : World) : Calls Try.prog 131 #[pl a b] w (RS (pl a b) w) := by
  go_enter Try.func131, Try.ntmps131
  go_wp2
  exact bodyPost_ret (v := pl a b) (by simp [results, Try.results131, go_sem]) rfl ⟨rfl, (by repeat (first | exact Below.refl _ _ | with_reducible assumption | refine Below.drews ?_ | refine Below.drew ?_ | refine Below.alloc ?_ (by simp <;> omega) _ | refine Below.setCell ?_ (by simp <;> omega) _))⟩
theorem eqLeg_any {cn ce a b c d : Nat} (h1 : Fl .f32 cn a) (h2 : Fl .f32 ce b) (h3 : Fl .f32 cn c) (h4 : Fl .f32 ce d) (w : World) : Calls Try.prog 132 #[pl a b, pl c d] w (RS (.bool true) w) := by
  go_enter Try.func132, Try.ntmps132
  have tk_a : True := trivial; have tk_b : True := trivial
  go_wp2_with (first | (refine wpList_fcv rfl rfl rfl (by kernel_rfl) Try.underlying35 (by decide) (by first | (with_reducible assumption) | (with_reducible exact Fl.ofInt _ _) | exact Fl.not (by decide +kernel) (by decide +kernel)) (fits_wide _) ?_; intro r n hr; simp only [Act.put, List.setIfInBounds_toArray, List.set_cons_succ, List.set_cons_zero]) | (go_at_call 174; clear tk_a; refine (sameFloat_any (c := fcv .f32 .f64 cn) (by assumption) (by assumption) _).mono ?_; rintro e w' ⟨rfl, n, rfl⟩) | (go_at_call 174; clear tk_b; refine (sameFloat_any (c := fcv .f32 .f64 ce) (by assumption) (by assumption) _).mono ?_; rintro e w' ⟨rfl, n, rfl⟩))
  go_ret
  exact ⟨rfl, (by repeat (first | exact Below.refl _ _ | with_reducible assumption | refine Below.drews ?_ | refine Below.drew ?_ | refine Below.alloc ?_ (by simp <;> omega) _ | refine Below.setCell ?_ (by simp <;> omega) _))⟩
theorem toLS_any {a : Option Addr} {n cap : Nat} {ys : List Nat} (w : World) (hr : FRow w a ys) (hn : ys.length = 2 * n) (hl : n ≤ 1048576) : Calls Try.prog 50 #[.slice a n cap] w (fun e w' => e = .returned (.slice (some ⟨w.heap.size, 0, none⟩) n n) ∧ FRow w' (some ⟨w.heap.size, 0, none⟩) ys ∧ Below w.heap.size w w') := by
  obtain ⟨i0, hi, hz0, hz1, hz2⟩ := info_parts (P := Try.prog) (e := 39) (z := pl 0 0) (size := 2) (bytes := 8) (by kernel_rfl)
  have HR := Hf.mk hr
  have HN := Hf.mk hn
  clear hr hn
  go_enter Try.func50, Try.ntmps50
  go_wp2_with (at_make; refine wpList_make_full _ rfl _ _ 27 rfl w.heap.size 39 i0 _ 2 Try.underlying27 hi hz0 hz1 .i64 .i64 _ _ n rfl rfl rfl rfl (by rw [hz2]; omega) (by unfold maxLen; omega) (Nat.le_refl _) ?_; intro w0 hown0 hgrow0)
  go_loopw [4] (fun i wr => ∃ (m : Nat) (cur : List Value), m ≤ n ∧ i = .int .i64 m ∧ Hf (wr.ownsRow w.heap.size 39 2 (.slice (some ⟨w.heap.size, 0, none⟩) n n) n cur) ∧ Hf (∀ j, j < 2 * m → cur[j]? = some (.float .f32 (ys.getD j 0))) ∧ Hf (Below w.heap.size w wr)) (fun i _ => n - (intOf i).toNat)
  case atStart => exact ⟨0, _, by omega, rfl, ⟨hown0⟩, ⟨fun j hj => absurd hj (Nat.not_lt_zero j)⟩, ⟨(Below.refl _ _).grown hgrow0 (Nat.le_refl _) (fun k h => by cases h)⟩⟩
  case round =>
    obtain ⟨m, cur, hm, rfl, hown, hcur, hbel⟩ := hrel
    by_cases hlt : m < n
    · obtain ⟨p, rfl⟩ := HR.out.some_of (by rw [HN.out]; omega)
      obtain ⟨c0, c1⟩ := (HR.out.below hbel.out).two HN.out hlt
      have hlen : cur.length = n * 2 := hown.out.1
      obtain ⟨old0, hold0⟩ : ∃ old, cur[m * 2]? = some old := ⟨_, List.getElem?_eq_getElem (by omega)⟩
      obtain ⟨old1, hold1⟩ : ∃ old, cur[m * 2 + 1]? = some old := ⟨_, List.getElem?_eq_getElem (by omega)⟩
      have d0 : wr.cell? ⟨w.heap.size, m * 2, none⟩ = some old0 := (hown.out.cellAt (m * 2) (by omega)).trans hold0
      have d1 : wr.cell? ⟨w.heap.size, m * 2 + 1, none⟩ = some old1 := (hown.out.cellAt (m * 2 + 1) (by omega)).trans hold1
      have z0 := hown.out.frozenAt (m * 2)
      have z1 := hown.out.frozenAt (m * 2 + 1)
      have lw := block_lt_of_cell d0
      simp at lw
      clear hold0 hold1
      go_wp2_with (first | (go_at_call 131; refine (toLeg_any _ _ _).mono ?_; rintro e w1 ⟨rfl, b1⟩; have B1 := Hb.mk b1; have e0 := Hb.mk (At.keep b1 d0 z0); have e1 := Hb.mk (At.keep b1 d1 z1); obtain ⟨e0c, e0z, e0l⟩ := e0.out; obtain ⟨e1c, e1z, e1l⟩ := e1.out; clear b1))
      go_roundw
      case rel =>
        have hst := (owns_below hown.out B1.out).stored (m * 2) (.float .f32 (nW ys m))
        have hst2 := hst.1.stored (m * 2 + 1) (.float .f32 (eW ys m))
        refine ⟨m + 1, _, by omega, i_ext2 (by omega), ⟨hst2.1⟩, ⟨?_⟩, ⟨Below.setCell (Below.setCell (Below.on hbel.out B1.out hbel.out.size) (Nat.le_refl _) _) (Nat.le_refl _) _⟩⟩
        intro j hj
        by_cases he : j = m * 2 + 1
        · subst he; rw [List.getElem?_set_self (by simp; omega)]; rfl
        · rw [List.getElem?_set_ne (by omega)]
          by_cases he : j = m * 2
          · subst he; rw [List.getElem?_set_self (by omega)]; rfl
          · rw [List.getElem?_set_ne (by omega)]; exact hcur.out j (by omega)
      case measure => simp [intOf]; omega
    · obtain rfl : m = n := by omega
      go_wp2
      go_ret
      have hlen : cur.length = 2 * m := by have := hown.out.1; omega
      refine ⟨rfl, ?_, hbel.out⟩
      have hc : cur = fls ys := fls_of (by rw [hlen, HN.out]) (fun j hj => hcur.out j (by rw [HN.out] at hj; omega))
      rw [hc] at hown
      intro i hi
      refine ⟨_, rfl, ?_⟩
      have := hown.out.cellAt i (by rw [HN.out] at hi; omega)
      rw [add_at, this]
      simp [fls, List.getElem?_map, List.getElem?_eq_getElem hi]
theorem szLS_yes {a : Option Addr} {n cap : Nat} (hl : n ≤ 1048576) (w : World) : Calls Try.prog 48 #[.slice a n cap, .int .i64 1048576] w (RI .i64 (1048576 - (n : Int)) w) := by
  go_enter Try.func48, Try.ntmps48
  go_wp2
  go_ret
  exact RI.any rfl (by repeat (first | exact Drew.refl _ | refine Drew.more ?_))
theorem szLS_no {a : Option Addr} {n cap : Nat} (hl : 1048576 < n) (hm : n ≤ 9223372036854775807) (w : World) : Calls Try.prog 48 #[.slice a n cap, .int .i64 1048576] w (RI .i64 (-1) w) := by
  go_enter Try.func48, Try.ntmps48
  go_wp2
  go_ret
  exact RI.any rfl (by repeat (first | exact Drew.refl _ | refine Drew.more ?_))
set_option maxHeartbeats 4000000 in
theorem eqLS_any {g1 g2 n : Nat} {ys : List Nat} (w : World) (h1 : FRow w (some ⟨g1, 0, none⟩) ys) (h2 : FRow w (some ⟨g2, 0, none⟩) ys) (hw : Wf ys) (hn : ys.length = 2 * n) (hl : n ≤ 1048576) : Calls Try.prog 51 #[.slice (some ⟨g1, 0, none⟩) n n, .slice (some ⟨g2, 0, none⟩) n n] w (RS (.bool true) w) := by
  have H1 := Hf.mk h1
  have H2 := Hf.mk h2
  have HW := Hf.mk hw
  have HN := Hf.mk hn
  clear h1 h2 hw hn
  go_enter Try.func51, Try.ntmps51
  go_wp2
  go_loopw [5] (fun i wr => ∃ m : Nat, m ≤ n ∧ i = .int .i64 m ∧ Hf (Below w.heap.size w wr)) (fun i _ => n - (intOf i).toNat)
  case atStart => exact ⟨0, by omega, rfl, ⟨(by repeat (first | exact Below.refl _ _ | with_reducible assumption | refine Below.drews ?_ | refine Below.drew ?_ | refine Below.alloc ?_ (by simp <;> omega) _ | refine Below.setCell ?_ (by simp <;> omega) _))⟩⟩
  case round =>
    obtain ⟨m, hm, rfl, hb⟩ := hrel
    by_cases hlt : m < n
    · obtain ⟨c0, c1⟩ := (H1.out.below hb.out).twoAt HN.out hlt
      obtain ⟨d0, d1⟩ := (H2.out.below hb.out).twoAt HN.out hlt
      have KE := Hb.mk (eqLeg_any (flN HW.out HN.out hlt) (flE HW.out HN.out hlt) (flN HW.out HN.out hlt) (flE HW.out HN.out hlt))
      have BR := Hb.mk hb.out
      go_wp2
      refine region_all (by kernel_rfl) (by kernel_rfl) (fun I F hne HB hcl => ?_)
      have p0 := keepF HB c0
      have p1 := keepF HB c1
      have q0 := keepF HB d0
      have q1 := keepF HB d1
      repeat (quiet_step (first | (go_at_call 132; exact callS hcl (KE.out _))))
      refine wpQuiet_nil ?_
      intro _ hw'
      obtain ⟨iq, rfl⟩ := hw'
      clear hcl
      have E1 := Hb.mk (HB.out iq)
      have sB := BR.out.size
      clear p0 p1 q0 q1
      go_wp2
      go_roundw
      case rel => exact ⟨m + 1, by omega, i_ext2 (by omega), ⟨(by repeat (first | exact Below.refl _ _ | refine Below.on ?_ E1.out (by first | omega | (simp <;> omega)) | exact BR.out | refine Below.drews ?_ | refine Below.drew ?_ | refine Below.alloc ?_ (by first | omega | (simp <;> omega)) _ | refine Below.setCell ?_ (by first | omega | (simp <;> omega)) _))⟩⟩
      case measure => simp [intOf]; omega
    · obtain rfl : m = n := by omega
      go_wp2
      go_ret
      exact ⟨rfl, hb.out⟩
theorem law_AreLegs {a : Option Addr} {cap n : Nat} {ys : List Nat} (w : World) (hr : FRow w a ys) (hw : Wf ys) (hn : ys.length = 2 * n) (hm : n ≤ 9223372036854775807) : Calls Try.prog 8 #[.slice a n cap] w (RS (.bool true) w) := by
  have HR := Hf.mk hr
  have HW := Hf.mk hw
  have HN := Hf.mk hn
  clear hr hw hn
  have B0 := Hb.mk (Below.refl w.heap.size w)
  by_cases hl : n ≤ 1048576
  · have KZ := Hf.mk (szLS_yes (a := a) (cap := cap) hl)
    generalize hb : areL ys n = b
    have HB := Hf.mk hb
    clear hb
    cases b
    all_goals
      go_enter Try.func8, Try.ntmps8
      have tk_a : True := trivial; have tk_b : True := trivial; have tk_c : True := trivial
      go_wp2_with (first
        | (go_at_call 48; refine (KZ.out _).mono ?_; rintro e w' ⟨rfl, n0, rfl⟩)
        | (go_at_call 50; clear tk_a; refine (toLS_any _ (HR.out.drew _) HN.out hl).mono ?_; rintro e w1 ⟨rfl, o1, b1⟩; have O1 := Hf.mk o1; have B1 := Hb.mk (Below.on (B := w.heap.size) (a := w) (by repeat (first | exact B0.out | refine Below.drews ?_ | refine Below.drew ?_ | refine Below.alloc ?_ (by have hq_ := B0.out.size; first | omega | (simp <;> omega)) _ | refine Below.setCell ?_ (by have hq_ := B0.out.size; first | omega | (simp <;> omega)) _)) b1 (by have hq_ := B0.out.size; first | omega | (simp <;> omega))); clear o1 b1)
        | (go_at_call 49; refine (sAreLegs_any _ O1.out HW.out HN.out hl).mono ?_; rw [HB.out]; rintro e w2 ⟨rfl, n2, rfl⟩)
        | (go_at_call 50; clear tk_b; refine (toLS_any _ ((HR.out.below B1.out).drew _) HN.out hl).mono ?_; rintro e w3 ⟨rfl, o3, b3⟩; have O3 := Hf.mk o3; have B3 := Hb.mk (Below.on (B := w.heap.size) (a := w) (by repeat (first | exact B1.out | refine Below.drews ?_ | refine Below.drew ?_ | refine Below.alloc ?_ (by have hq_ := B1.out.size; first | omega | (simp <;> omega)) _ | refine Below.setCell ?_ (by have hq_ := B1.out.size; first | omega | (simp <;> omega)) _)) b3 (by have hq_ := B1.out.size; first | omega | (simp <;> omega))); clear o3 b3)
        | (go_at_call 15; refine (iAreLegs_any _ O3.out HW.out HN.out hl).mono ?_; rw [HB.out]; rintro e w4 ⟨rfl, b4⟩; have O4 := Hf.mk (O3.out.below b4); have B4 := Hb.mk (Below.on (B := w.heap.size) (a := w) (by repeat (first | exact B3.out | refine Below.drews ?_ | refine Below.drew ?_ | refine Below.alloc ?_ (by have hq_ := B3.out.size; first | omega | (simp <;> omega)) _ | refine Below.setCell ?_ (by have hq_ := B3.out.size; first | omega | (simp <;> omega)) _)) b4 (by have hq_ := B3.out.size; first | omega | (simp <;> omega))); clear b4)
        | (go_at_call 50; clear tk_c; refine (toLS_any _ (HR.out.below B4.out) HN.out hl).mono ?_; rintro e w5 ⟨rfl, o5, b5⟩; have O5 := Hf.mk o5; have O6 := Hf.mk (O4.out.below b5); have B5 := Hb.mk (Below.on (B := w.heap.size) (a := w) (by repeat (first | exact B4.out | refine Below.drews ?_ | refine Below.drew ?_ | refine Below.alloc ?_ (by have hq_ := B4.out.size; first | omega | (simp <;> omega)) _ | refine Below.setCell ?_ (by have hq_ := B4.out.size; first | omega | (simp <;> omega)) _)) b5 (by have hq_ := B4.out.size; first | omega | (simp <;> omega))); clear o5 b5)
        | (go_at_call 51; refine (eqLS_any _ O6.out O5.out HW.out HN.out hl).mono ?_; rintro e w6 ⟨rfl, b6⟩; have B6 := Hb.mk (Below.on (B := w.heap.size) (a := w) (by repeat (first | exact B5.out | refine Below.drews ?_ | refine Below.drew ?_ | refine Below.alloc ?_ (by have hq_ := B5.out.size; first | omega | (simp <;> omega)) _ | refine Below.setCell ?_ (by have hq_ := B5.out.size; first | omega | (simp <;> omega)) _)) b6 (by have hq_ := B5.out.size; first | omega | (simp <;> omega))); clear b6))
      go_ret
      exact ⟨rfl, (by repeat (first | exact Below.refl _ _ | exact B6.out | refine Below.drews ?_ | refine Below.drew ?_ | refine Below.alloc ?_ (by first | omega | (simp <;> omega)) _ | refine Below.setCell ?_ (by first | omega | (simp <;> omega)) _))⟩
  · have KZ := Hf.mk (szLS_no (a := a) (cap := cap) (n := n) (by omega) hm)
    go_enter Try.func8, Try.ntmps8
    go_wp2_with (first | (go_at_call 48; refine (KZ.out _).mono ?_; rintro e w' ⟨rfl, n0, rfl⟩))
    go_ret
    exact ⟨rfl, (by repeat (first | exact Below.refl _ _ | with_reducible assumption | refine Below.drews ?_ | refine Below.drew ?_ | refine Below.alloc ?_ (by simp <;> omega) _ | refine Below.setCell ?_ (by simp <;> omega) _))⟩
end Go.Proofs.Ytconlpgifkknmaa
