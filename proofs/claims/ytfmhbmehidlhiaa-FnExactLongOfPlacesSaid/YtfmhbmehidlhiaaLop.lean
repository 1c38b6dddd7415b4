/-
  LongOfPlaces, of the program and of its model; its exact law. No condition.
-/
import Derived.Test.YtfmhbmehidlhiaaPle
import Derived.Test.YtfmhbmehidlhiaaApt
import Derived.Test.YtfmhbmehidlhiaaClone
import Derived.WalkSmall
namespace Go.Proofs.Ytfmhbmehidlhiaa
open Go Go.RowKit
set_option maxRecDepth 100000

def apAt (ys : List Nat) (i j : Nat) : Nat := aptC (wxC (nW ys i) (eW ys i)) (wyC (nW ys i) (eW ys i)) (sineC (nW ys i)) (wxC (nW ys j) (eW ys j)) (wyC (nW ys j) (eW ys j)) (sineC (nW ys j))
def longN (ys : List Nat) : Nat → Nat
  | 0 => 0
  | m + 1 => fop .add .f32 (longN ys m) (apAt ys m (m + 1))
theorem apAt_of {ys : List Nat} {i j : Nat} (h1 : validC (nW ys i) (eW ys i) = true) (h2 : validC (nW ys j) (eW ys j) = true) : Ab .f32 (apAt ys i j) 1065353216 := by
  obtain ⟨a1, a2⟩ := turns_of h1
  obtain ⟨b1, b2⟩ := turns_of h2
  exact (Apt.of (Wb.way a1 a2) (Wb.way b1 b2)).ap.mono (by decide +kernel) (by decide +kernel)
theorem long_ab {ys : List Nat} {n : Nat} (h : ∀ i, i < n → validC (nW ys i) (eW ys i) = true) (h64 : n ≤ 65) : ∀ m, m < n ∨ m = 0 → Ab .f32 (longN ys m) (fo m) := by
  intro m
  induction m with
  | zero => intro _; exact fo_zero
  | succ m ih =>
    intro hm
    exact fo_add (ih (by omega)) (apAt_of (h _ (by omega)) (h _ (by omega))) (by omega)
theorem long_wf (ys : List Nat) : ∀ m, (Lit.float .f32 (longN ys m)).wf = true := by
  intro m
  cases m with
  | zero => show (Lit.float .f32 0).wf = true; decide +kernel
  | succ m => exact wf_fop _ _ _ _
theorem getD_l {l k : List Nat} {i : Nat} (h : i < l.length) : (l ++ k).getD i 0 = l.getD i 0 := by simp [List.getD, List.getElem?_append_left h]
theorem getD_r {l k : List Nat} {i : Nat} (h : l.length ≤ i) : (l ++ k).getD i 0 = k.getD (i - l.length) 0 := by simp [List.getD, List.getElem?_append_right h]
/-- a row that is closed: its first place behind it -/
def clo (ys : List Nat) : List Nat := ys ++ [nW ys 0, eW ys 0]
theorem clo_len {ys : List Nat} {n : Nat} (hn : ys.length = 2 * n) : (clo ys).length = 2 * (n + 1) := by unfold clo; simp; omega
theorem clo_lt {ys : List Nat} {n i : Nat} (hn : ys.length = 2 * n) (hi : i < n) : nW (clo ys) i = nW ys i ∧ eW (clo ys) i = eW ys i := by
  unfold clo
  constructor
  · show (ys ++ _).getD (i * 2) 0 = ys.getD (i * 2) 0
    rw [getD_l (by omega)]
  · show (ys ++ _).getD (i * 2 + 1) 0 = ys.getD (i * 2 + 1) 0
    rw [getD_l (by omega)]
theorem clo_at {ys : List Nat} {n : Nat} (hn : ys.length = 2 * n) : nW (clo ys) n = nW ys 0 ∧ eW (clo ys) n = eW ys 0 := by
  unfold clo
  constructor
  · show (ys ++ _).getD (n * 2) 0 = _
    rw [getD_r (by omega), show n * 2 - ys.length = 0 by omega]; rfl
  · show (ys ++ _).getD (n * 2 + 1) 0 = _
    rw [getD_r (by omega), show n * 2 + 1 - ys.length = 1 by omega]; rfl
theorem clo_long {ys : List Nat} {n : Nat} (hn : ys.length = 2 * n) : ∀ m, m < n → longN (clo ys) m = longN ys m := by
  intro m
  induction m with
  | zero => intro _; rfl
  | succ m ih =>
    intro hm
    obtain ⟨e1, e2⟩ := clo_lt hn (by omega : m < n)
    obtain ⟨e3, e4⟩ := clo_lt hn hm
    show fop .add .f32 (longN (clo ys) m) (apAt (clo ys) m (m + 1)) = fop .add .f32 (longN ys m) (apAt ys m (m + 1))
    rw [ih (by omega)]
    unfold apAt
    rw [e1, e2, e3, e4]
theorem clo_last {ys : List Nat} {n : Nat} (hn : ys.length = 2 * n) {m : Nat} (hm : m + 1 = n) : longN (clo ys) n = fop .add .f32 (longN ys m) (apAt ys m 0) := by
  subst hm
  obtain ⟨e1, e2⟩ := clo_lt hn (by omega : m < m + 1)
  obtain ⟨e3, e4⟩ := clo_at hn
  show fop .add .f32 (longN (clo ys) m) (apAt (clo ys) m (m + 1)) = _
  rw [clo_long hn m (by omega)]
  unfold apAt
  rw [e1, e2, e3, e4]
theorem clo_wf {ys : List Nat} {n : Nat} (hw : Wf ys) (hn : ys.length = 2 * n) (h0 : 0 < n) : Wf (clo ys) := by
  intro x hx
  unfold clo at hx
  rw [List.mem_append] at hx
  rcases hx with hx | hx
  · exact hw x hx
  · simp only [List.mem_cons, List.not_mem_nil, or_false] at hx
    rcases hx with rfl | rfl
    · exact wfAt hw (by omega)
    · exact wfAt hw (by omega)
theorem clo_v {ys : List Nat} {n : Nat} (hn : ys.length = 2 * n) (h0 : 0 < n) (h : ∀ i, i < n → validC (nW ys i) (eW ys i) = true) : ∀ i, i < n + 1 → validC (nW (clo ys) i) (eW (clo ys) i) = true := by
  intro i hi
  by_cases he : i = n
  · subst he
    obtain ⟨e1, e2⟩ := clo_at hn
    rw [e1, e2]; exact h 0 h0
  · obtain ⟨e1, e2⟩ := clo_lt hn (by omega : i < n)
    rw [e1, e2]; exact h i (by omega)
theorem cloEx {ys : List Nat} {n : Nat} (hw : Wf ys) (hn : ys.length = 2 * n) (h0 : 0 < n) (hv : ∀ i, i < n → vAt ys i = true) (i : Nat) (hi : i < n + 1) : Fl .f32 (nW (clo ys) i) (nW (clo ys) i) ∧ Fl .f32 (eW (clo ys) i) (eW (clo ys) i) ∧ validC (nW (clo ys) i) (eW (clo ys) i) = true := by
  by_cases he : i = n
  · subst he
    obtain ⟨e1, e2⟩ := clo_at hn
    rw [e1, e2]; exact vEx hw hn h0 (hv 0 h0)
  · obtain ⟨e1, e2⟩ := clo_lt hn (by omega : i < n)
    rw [e1, e2]; exact vEx hw hn (by omega) (hv i (by omega))
/-- how long a row is, closed or not -/
def totN (ys : List Nat) (n : Nat) : Bool → Nat
  | false => longN ys (n - 1)
  | true => longN (clo ys) n
theorem tot_fin {ys : List Nat} {n : Nat} (hn : ys.length = 2 * n) (h0 : 0 < n) (h64 : n ≤ 64) (h : ∀ i, i < n → validC (nW ys i) (eW ys i) = true) (c : Bool) : fin .f32 (totN ys n c) = true ∧ Fl .f32 (totN ys n c) (totN ys n c) := by
  cases c
  · have hA := long_ab h (by omega) (n - 1) (by omega)
    exact ⟨hA.fin, Fl.not (fin_notN hA.fin) (long_wf _ _)⟩
  · have hA := long_ab (clo_v hn h0 h) (by omega) n (by omega)
    exact ⟨hA.fin, Fl.not (fin_notN hA.fin) (long_wf _ _)⟩
set_option maxHeartbeats 4000000 in
theorem sLong_yes {g n : Nat} {ys : List Nat} (cl : Bool) (w : World) (hr : FRow w (some ⟨g, 0, none⟩) ys) (hw : Wf ys) (hn : ys.length = 2 * n) (hl : n ≤ 1048576) (ha : arePl ys n = true) : Calls Try.prog 21 #[.slice (some ⟨g, 0, none⟩) n n, .bool cl] w (RS (flT2 (totN ys n cl) true) w) := by
  obtain ⟨k1, k64, hv⟩ := arePl_of ha
  have KR := l02Are_any w hr hw hn hl
  rw [ha] at KR
  have HA := Hb.mk KR
  have HR := Hf.mk hr
  have HW := Hf.mk hw
  have HN := Hf.mk hn
  have HVV := Hf.mk hv
  clear KR hr hw hn ha hv
  have B0 := Hb.mk (Below.refl w.heap.size w)
  go_enter Try.func21, Try.ntmps21
  go_wp2_with (first | (go_at_call 57; refine HA.out.mono ?_; rintro ex w1 ⟨rfl, n1, rfl⟩))
  go_loopw [6, 7] (fun s i wr => ∃ m : Nat, m < n ∧ s = .float .f32 (longN ys m) ∧ i = .int .i64 ((m : Int) + 1) ∧ Hf (Below w.heap.size w wr)) (fun _ i _ => n - (intOf i).toNat)
  case atStart => exact ⟨0, by omega, rfl, rfl, ⟨(by repeat (first | with_reducible refine Below.setCell ?_ (by first | omega | (simp <;> omega)) _ | with_reducible refine Below.drews ?_ | with_reducible refine Below.drew ?_ | with_reducible refine Below.alloc ?_ (by first | omega | (simp <;> omega)) _ | with_reducible exact B0.out | with_reducible exact Below.refl _ _))⟩⟩
  case round =>
    obtain ⟨m, hm, rfl, rfl, hb⟩ := hrel
    by_cases hlt : m + 1 < n
    · obtain ⟨c0, c1⟩ := (HR.out.below hb.out).twoAt HN.out hm
      obtain ⟨c2, c3⟩ := (HR.out.below hb.out).twoAt HN.out hlt
      obtain ⟨F1, G1, V1⟩ := vEx HW.out HN.out hm (HVV.out _ hm)
      obtain ⟨F2, G2, V2⟩ := vEx HW.out HN.out hlt (HVV.out _ hlt)
      obtain ⟨b1, b2⟩ := turns_of V1
      obtain ⟨d1, d2⟩ := turns_of V2
      have KA := Hb.mk (long_ab (n := n) (fun i hi => (vEx HW.out HN.out hi (HVV.out i hi)).2.2) (by omega) (m + 1) (by omega))
      have MA : Hb (∀ w, (binOp .add 22 (.float .f32 (longN ys m)) (.float .f32 (apAt ys m (m + 1)))).run Try.prog w = .ok (.float .f32 (longN ys (m + 1))) w) := ⟨fop_exact _ KA.out.fin⟩
      have KT := Hb.mk (l02Apart_any F1 G1 F2 G2 b1 b2 d1 d2)
      change Hb (∀ w, Calls Try.prog 58 #[pl (nW ys m) (eW ys m), pl (nW ys (m + 1)) (eW ys (m + 1))] w (RS (.float .f32 (apAt ys m (m + 1))) w)) at KT
      generalize apAt ys m (m + 1) = T at *
      generalize hS : longN ys (m + 1) = S at *
      have BR := Hb.mk hb.out
      clear F1 G1 V1 F2 G2 V2 b1 b2 d1 d2 KA
      go_wp2
      refine region_all (by kernel_rfl) (by kernel_rfl) (fun I F hne HB hcl => ?_)
      have p0 := keepF HB c0
      have p1 := keepF HB c1
      have p2 := keepF HB c2
      have p3 := keepF HB c3
      have mA := MA.out
      have i1 : (m : Int) + 1 < (n : Int) := by omega
      have j1 : (0 : Int) ≤ (m : Int) + 1 := by omega
      have v0 : m < n := by omega
      have v1 : m + 1 < n := by omega
      have i0 : (m : Int) < (n : Int) := by omega
      have j0 : (0 : Int) ≤ (m : Int) := by omega
      have t1 : ((m : Int) + 1).toNat = m + 1 := by omega
      have t0 : (m : Int).toNat = m := by omega
      have wr1 : IntKind.i64.wrap (m : Int) = (m : Int) := IntWalk.i64_in _ ⟨by omega, by omega⟩
      repeat (quiet_step (first | (go_at_call 58; exact callS hcl (KT.out _))))
      refine wpQuiet_nil ?_
      intro _ hw'
      obtain ⟨iq, rfl⟩ := hw'
      clear hcl mA v0 v1 i0 i1 j0 j1 t0 t1 wr1 p0 p1 p2 p3
      have E1 := Hb.mk (HB.out iq)
      have sB := BR.out.size
      go_wp2
      go_roundw
      case rel => exact ⟨m + 1, by omega, by rw [hS], i_ext2 (by omega), ⟨(by repeat (first | with_reducible refine Below.setCell ?_ (by first | omega | (simp <;> omega)) _ | with_reducible refine Below.drews ?_ | with_reducible refine Below.drew ?_ | with_reducible refine Below.alloc ?_ (by first | omega | (simp <;> omega)) _ | with_reducible refine Below.on ?_ E1.out (by first | omega | (simp <;> omega)) | with_reducible exact BR.out | with_reducible exact Below.refl _ _))⟩⟩
      case measure => simp [intOf]; omega
    · have hmn : m + 1 = n := by omega
      have BR := Hb.mk hb.out
      cases cl
      · have hA := long_ab (n := n) (fun i hi => (vEx HW.out HN.out hi (HVV.out i hi)).2.2) (by omega) m (by omega)
        have KN := Hb.mk (l02Number_yes (Fl.not (fin_notN hA.fin) (long_wf ys m)) hA.fin)
        have nA := Hb.mk (fin_notN hA.fin)
        have hV := Hb.mk (show totN ys n false = longN ys m by unfold totN; rw [show n - 1 = m by omega])
        clear hmn hA
        generalize longN ys m = V at *
        go_wp2_with (first | (go_at_call 42; refine (KN.out _).mono ?_; rintro ex w3 ⟨r3, n3, rfl, hr3, rfl⟩; obtain rfl := (hr3.word nA.out).symm))
        go_ret2
        rw [hV.out]
        exact ⟨rfl, (by repeat (first | with_reducible refine Below.setCell ?_ (by first | omega | (simp <;> omega)) _ | with_reducible refine Below.drews ?_ | with_reducible refine Below.drew ?_ | with_reducible refine Below.alloc ?_ (by first | omega | (simp <;> omega)) _ | with_reducible exact BR.out | with_reducible exact Below.refl _ _))⟩
      · obtain ⟨c0, c1⟩ := (HR.out.below BR.out).twoAt HN.out (by omega : m < n)
        obtain ⟨c2, c3⟩ := (HR.out.below BR.out).twoAt HN.out (by omega : 0 < n)
        simp only [Nat.zero_mul, Nat.zero_add] at c2 c3
        obtain ⟨F1, G1, V1⟩ := vEx HW.out HN.out (by omega : m < n) (HVV.out _ (by omega))
        obtain ⟨F2, G2, V2⟩ := vEx HW.out HN.out (by omega : 0 < n) (HVV.out _ (by omega))
        obtain ⟨b1, b2⟩ := turns_of V1
        obtain ⟨d1, d2⟩ := turns_of V2
        obtain ⟨hA, hF⟩ := tot_fin HN.out (by omega) k64 (fun i hi => (vEx HW.out HN.out hi (HVV.out i hi)).2.2) true
        rw [show totN ys n true = fop .add .f32 (longN ys m) (apAt ys m 0) from clo_last HN.out hmn] at hA hF
        have hV := Hb.mk (show totN ys n true = fop .add .f32 (longN ys m) (apAt ys m 0) from clo_last HN.out hmn)
        have MA : Hb (∀ w, (binOp .add 22 (.float .f32 (longN ys m)) (.float .f32 (apAt ys m 0))).run Try.prog w = .ok (.float .f32 (fop .add .f32 (longN ys m) (apAt ys m 0))) w) := ⟨fop_exact _ hA⟩
        have KT := Hb.mk (l02Apart_any F1 G1 F2 G2 b1 b2 d1 d2)
        change Hb (∀ w, Calls Try.prog 58 #[pl (nW ys m) (eW ys m), pl (nW ys 0) (eW ys 0)] w (RS (.float .f32 (apAt ys m 0)) w)) at KT
        have KN := Hb.mk (l02Number_yes hF hA)
        have nA := Hb.mk (fin_notN hA)
        clear F1 G1 F2 G2 V1 V2 b1 b2 d1 d2 hA hF
        generalize apAt ys m 0 = T at *
        generalize fop .add .f32 (longN ys m) T = S at *
        generalize longN ys m = V at *
        generalize nW ys m = na at *
        generalize eW ys m = ea at *
        generalize nW ys 0 = nb at *
        generalize eW ys 0 = eb at *
        go_wp2
        refine region_all (by kernel_rfl) (by kernel_rfl) (fun I F hne HB hcl => ?_)
        have p0 := keepF HB c0
        have p1 := keepF HB c1
        have p2 := keepF HB c2
        have p3 := keepF HB c3
        have mA := MA.out
        have i0 : (0 : Int) < (n : Int) := by omega
        have v0 : 0 < n := by omega
        have v1 : m < n := by omega
        have i1 : (m : Int) < (n : Int) := by omega
        have j1 : (0 : Int) ≤ (m : Int) := by omega
        have t1 : (m : Int).toNat = m := by omega
        have wr1 : IntKind.i64.wrap ((n : Int) - 1) = (m : Int) := (IntWalk.i64_in _ ⟨by omega, by omega⟩).trans (by omega)
        repeat (quiet_step (first | (go_at_call 58; exact callS hcl (KT.out _))))
        refine wpQuiet_nil ?_
        intro _ hw'
        obtain ⟨iq, rfl⟩ := hw'
        clear hcl mA v0 v1 i0 i1 j1 t1 wr1 p0 p1 p2 p3
        have E1 := Hb.mk (HB.out iq)
        have sB := BR.out.size
        go_wp2_with (first | (go_at_call 42; refine (KN.out _).mono ?_; rintro ex w3 ⟨r3, n3, rfl, hr3, rfl⟩; obtain rfl := (hr3.word nA.out).symm))
        go_ret2
        rw [hV.out]
        exact ⟨rfl, (by repeat (first | with_reducible refine Below.setCell ?_ (by first | omega | (simp <;> omega)) _ | with_reducible refine Below.drews ?_ | with_reducible refine Below.drew ?_ | with_reducible refine Below.alloc ?_ (by first | omega | (simp <;> omega)) _ | with_reducible refine Below.on ?_ E1.out (by first | omega | (simp <;> omega)) | with_reducible exact BR.out | with_reducible exact Below.refl _ _))⟩
theorem sLong_no {g n : Nat} {ys : List Nat} (cl : Bool) (w : World) (hr : FRow w (some ⟨g, 0, none⟩) ys) (hw : Wf ys) (hn : ys.length = 2 * n) (hl : n ≤ 1048576) (ha : arePl ys n = false) : Calls Try.prog 21 #[.slice (some ⟨g, 0, none⟩) n n, .bool cl] w (RS (flT2 0 false) w) := by
  have KR := l02Are_any w hr hw hn hl
  rw [ha] at KR
  have HA := Hb.mk KR
  clear KR hr hw hn ha
  have B0 := Hb.mk (Below.refl w.heap.size w)
  go_enter Try.func21, Try.ntmps21
  go_wp2_with (first | (go_at_call 57; refine HA.out.mono ?_; rintro ex w1 ⟨rfl, n1, rfl⟩))
  go_ret2
  exact ⟨rfl, (by repeat (first | with_reducible refine Below.setCell ?_ (by first | omega | (simp <;> omega)) _ | with_reducible refine Below.drews ?_ | with_reducible refine Below.drew ?_ | with_reducible refine Below.alloc ?_ (by first | omega | (simp <;> omega)) _ | with_reducible exact B0.out | with_reducible exact Below.refl _ _))⟩
theorem own_shape {w : World} {base : Nat} {e : TypeId} {size : Nat} {v : Value} {n : Nat} {xs : List Value} (h : w.ownsRow base e size v n xs) (h0 : 0 < n) : ∃ g cap, v = .slice (some ⟨g, 0, none⟩) n cap ∧ n ≤ cap ∧ base ≤ g := by
  rcases h.2 with ⟨_, h1⟩ | ⟨g, cap, cur, hv, hb, _, hc, _⟩
  · omega
  · exact ⟨g, cap, hv, hc, hb⟩
theorem own_frow {w : World} {base : Nat} {e : TypeId} {size : Nat} {g n cap : Nat} {ys : List Nat} (h : w.ownsRow base e size (.slice (some ⟨g, 0, none⟩) n cap) n (fls ys)) : FRow w (some ⟨g, 0, none⟩) ys := by
  intro i hi
  exact ⟨_, rfl, h.cells rfl i _ (by simp [fls, List.getElem?_map, List.getElem?_eq_getElem hi])⟩
theorem clo_fls (ys : List Nat) : fls ys ++ [.float .f32 (nW ys 0), .float .f32 (eW ys 0)] = fls (clo ys) := by simp [fls, clo]
set_option maxHeartbeats 4000000 in
theorem iLong_yes {g n : Nat} {ys : List Nat} (cl : Bool) (w : World) (hr : FRow w (some ⟨g, 0, none⟩) ys) (hw : Wf ys) (hn : ys.length = 2 * n) (hl : n ≤ 1048576) (ha : arePl ys n = true) : Calls Try.prog 23 #[.slice (some ⟨g, 0, none⟩) n n, .bool cl] w (RS (flT2 (totN ys n cl) true) w) := by
  obtain ⟨k1, k64, hv⟩ := arePl_of ha
  obtain ⟨i0, hi, hz0, hz1, hz2⟩ := info_parts (P := Try.prog) (e := 25) (z := pl 0 0) (size := 2) (bytes := 8) (by kernel_rfl)
  have KR := iArePl_any w hr hw hn hl
  rw [ha] at KR
  have HA := Hb.mk KR
  have HR := Hf.mk hr
  have HW := Hf.mk hw
  have HN := Hf.mk hn
  have HVV := Hf.mk hv
  clear KR hr hw hn ha hv
  have B0 := Hb.mk (Below.refl w.heap.size w)
  cases cl
  · go_enter Try.func23, Try.ntmps23
    go_wp2_with (first
      | (go_at_call 59; refine HA.out.mono ?_; rintro ex w1 ⟨rfl, b1⟩; have B1 := Hb.mk (Below.on (B := w.heap.size) (a := w) (by repeat (first | exact B0.out | refine Below.drews ?_ | refine Below.drew ?_ | refine Below.alloc ?_ (by have hq_ := B0.out.size; first | omega | (simp <;> omega)) _ | refine Below.setCell ?_ (by have hq_ := B0.out.size; first | omega | (simp <;> omega)) _)) b1 (by have hq_ := B0.out.size; first | omega | (simp <;> omega))); clear b1)
      | (go_at_call 60; refine (clone_any _ (HR.out.below B1.out) HN.out hl).mono ?_; rintro ex w2 ⟨v, rfl, o2, b2⟩; have B2 := Hb.mk (Below.on (B := w.heap.size) (a := w) (by repeat (first | exact B1.out | refine Below.drews ?_ | refine Below.drew ?_ | refine Below.alloc ?_ (by have hq_ := B1.out.size; first | omega | (simp <;> omega)) _ | refine Below.setCell ?_ (by have hq_ := B1.out.size; first | omega | (simp <;> omega)) _)) b2 (by have hq_ := B1.out.size; first | omega | (simp <;> omega))); clear b2; obtain ⟨g2, cap, rfl, hc2, hg2⟩ := own_shape o2 (by omega); have R2 := Hf.mk (own_frow o2); clear o2))
    all_goals
      obtain ⟨N1, hN1⟩ : ∃ k, k + 1 = n := ⟨n - 1, by omega⟩
      rw [show n - 1 = N1 by omega]
      have lg := block_lt_of_cell (R2.out.twoAt HN.out (by omega : 0 < n)).1
      simp at lg
      go_loopw [7, 25] (fun s i wr => ∃ m : Nat, m ≤ N1 ∧ s = .float .f32 (longN ys m) ∧ i = .int .i64 (m : Int) ∧ Hf (Below w2.heap.size w2 wr)) (fun _ i _ => N1 - (intOf i).toNat)
      case atStart => exact ⟨0, by omega, rfl, rfl, ⟨Below.refl _ _⟩⟩
      case round =>
        obtain ⟨m, hm, rfl, rfl, hb⟩ := hrel
        by_cases hlt : m < N1
        · first
          | (exfalso; omega)
          | skip
            obtain ⟨c0, c1⟩ := (R2.out.below hb.out).twoAt HN.out (by omega : m < n)
            obtain ⟨c2, c3⟩ := (R2.out.below hb.out).twoAt HN.out (by omega : m + 1 < n)
            rw [show (m + 1) * 2 = 2 + m * 2 by omega] at c2 c3
            obtain ⟨F1, G1, V1⟩ := (fun i (hi : i < n) => vEx HW.out HN.out hi (HVV.out i hi)) m (by omega)
            obtain ⟨F2, G2, V2⟩ := (fun i (hi : i < n) => vEx HW.out HN.out hi (HVV.out i hi)) (m + 1) (by omega)
            obtain ⟨b1, b2⟩ := turns_of V1
            obtain ⟨d1, d2⟩ := turns_of V2
            have KA := Hb.mk (long_ab (n := n) (fun i hi => ((fun i (hi : i < n) => vEx HW.out HN.out hi (HVV.out i hi)) i hi).2.2) (by omega) (m + 1) (by omega))
            have MA : Hb (∀ w, (binOp .add 22 (.float .f32 (longN ys m)) (.float .f32 (apAt ys m (m + 1)))).run Try.prog w = .ok (.float .f32 (longN ys (m + 1))) w) := ⟨fop_exact _ KA.out.fin⟩
            have KW1 := Hb.mk (wayOf_any F1 G1 b1 b2)
            have KW2 := Hb.mk (wayOf_any F2 G2 d1 d2)
            have KT := Hb.mk (wayApart_any (Wb.way b1 b2) (Wb.way d1 d2))
            change Hb (∀ w, Calls Try.prog 62 _ w (RS (.float .f32 (apAt ys m (m + 1))) w)) at KT
            generalize apAt ys m (m + 1) = T at *
            generalize hS : longN ys (m + 1) = S at *
            generalize wxC (nW ys m) (eW ys m) = x1 at *
            generalize wyC (nW ys m) (eW ys m) = y1 at *
            generalize sineC (nW ys m) = z1 at *
            generalize wxC (nW ys (m + 1)) (eW ys (m + 1)) = x2 at *
            generalize wyC (nW ys (m + 1)) (eW ys (m + 1)) = y2 at *
            generalize sineC (nW ys (m + 1)) = z2 at *
            generalize nW ys m = na at *
            generalize eW ys m = ea at *
            generalize nW ys (m + 1) = nb at *
            generalize eW ys (m + 1) = eb at *
            have v0 : m < n := by omega
            have v1 : m < N1 := by omega
            have i0 : (m : Int) < ((n : Nat) : Int) := by omega
            have i1 : (m : Int) < (N1 : Int) := by omega
            have i2 : (m : Int) < (N1 : Int) + 1 := by omega
            have v2 : m < N1 + 1 := by omega
            have j0 : (0 : Int) ≤ (m : Int) := by omega
            have t0 : (m : Int).toNat = m := by omega
            clear F1 G1 V1 F2 G2 V2 b1 b2 d1 d2 KA
            go_wp2
            generalize hQ : World.alloc wr _ = QQ
            have hbq : Below wr.heap.size wr QQ := by rw [← hQ]; exact (by repeat (first | exact Below.refl _ _ | with_reducible assumption | refine Below.drews ?_ | refine Below.drew ?_ | refine Below.alloc ?_ (by simp <;> omega) _ | refine Below.setCell ?_ (by simp <;> omega) _))
            have e0 := Below.keep hbq c0
            have e1 := Below.keep hbq c1
            have f0 : QQ.cell? ⟨wr.heap.size, 0, none⟩ = some (.float .f32 nb) := by rw [← hQ]; simp [go_sem]
            have f1 : QQ.cell? ⟨wr.heap.size, 1, none⟩ = some (.float .f32 eb) := by rw [← hQ]; simp [go_sem]
            have BQ := Hb.mk (Below.on hb.out hbq hb.out.size)
            clear hQ hbq c0 c1 c2 c3
            refine region_all (by kernel_rfl) (by kernel_rfl) (fun I F hne HB hcl => ?_)
            have p0 := keepF HB e0
            have p1 := keepF HB e1
            have p2 := keepF HB f0
            have p3 := keepF HB f1
            have mA := MA.out
            repeat (quiet_step (first | (go_at_call_of 61 (Value.float .f32 na); exact callS hcl (KW1.out _)) | (go_at_call_of 61 (Value.float .f32 nb); exact callS hcl (KW2.out _)) | (go_at_call 62; exact callS hcl (KT.out _))))
            refine wpQuiet_nil ?_
            intro _ hw'
            obtain ⟨iq, rfl⟩ := hw'
            clear hcl mA v0 v1 i0 i1 i2 v2 j0 t0 p0 p1 p2 p3
            have E1 := Hb.mk (HB.out iq)
            have sB := BQ.out.size
            go_wp2
            go_roundw
            case rel => exact ⟨m + 1, by omega, by rw [hS], i_ext2 (by omega), ⟨(by repeat (first | with_reducible refine Below.setCell ?_ (by first | omega | (simp <;> omega)) _ | with_reducible refine Below.drews ?_ | with_reducible refine Below.drew ?_ | with_reducible refine Below.alloc ?_ (by first | omega | (simp <;> omega)) _ | with_reducible refine Below.on ?_ E1.out (by first | omega | (simp <;> omega)) | with_reducible exact BQ.out | with_reducible exact Below.refl _ _))⟩⟩
            case measure => simp [intOf]; omega
        · have hmn : m = N1 := by omega
          have E1 := Hb.mk hb.out
          have sB := B2.out.size
          go_wp2
          go_ret2
          rw [show totN ys n false = longN ys m by unfold totN; rw [show n - 1 = m by omega]]
          exact ⟨rfl, (by repeat (first | with_reducible refine Below.setCell ?_ (by first | omega | (simp <;> omega)) _ | with_reducible refine Below.drews ?_ | with_reducible refine Below.drew ?_ | with_reducible refine Below.alloc ?_ (by first | omega | (simp <;> omega)) _ | with_reducible refine Below.on ?_ E1.out (by first | omega | (simp <;> omega)) | with_reducible exact B2.out | with_reducible exact Below.refl _ _))⟩
  · go_enter Try.func23, Try.ntmps23
    go_wp2_with (first
      | (go_at_call 59; refine HA.out.mono ?_; rintro ex w1 ⟨rfl, b1⟩; have B1 := Hb.mk (Below.on (B := w.heap.size) (a := w) (by repeat (first | exact B0.out | refine Below.drews ?_ | refine Below.drew ?_ | refine Below.alloc ?_ (by have hq_ := B0.out.size; first | omega | (simp <;> omega)) _ | refine Below.setCell ?_ (by have hq_ := B0.out.size; first | omega | (simp <;> omega)) _)) b1 (by have hq_ := B0.out.size; first | omega | (simp <;> omega))); clear b1)
      | (go_at_call 60; refine (clone_any _ (HR.out.below B1.out) HN.out hl).mono ?_; rintro ex w2 ⟨v, rfl, o2, b2⟩; have B2 := Hb.mk (Below.on (B := w.heap.size) (a := w) (by repeat (first | exact B1.out | refine Below.drews ?_ | refine Below.drew ?_ | refine Below.alloc ?_ (by have hq_ := B1.out.size; first | omega | (simp <;> omega)) _ | refine Below.setCell ?_ (by have hq_ := B1.out.size; first | omega | (simp <;> omega)) _)) b2 (by have hq_ := B1.out.size; first | omega | (simp <;> omega))); have s12 := b2.size; clear b2; obtain ⟨g2, cap, rfl, hc2, hg2⟩ := own_shape o2 (by omega); have O2 := Hf.mk o2; obtain ⟨c0, c1⟩ := (HR.out.below B2.out).twoAt HN.out (by omega : 0 < n); simp only [Nat.zero_mul, Nat.zero_add] at c0 c1; clear o2)
      | (at_builtin; refine wpList_append_own _ rfl _ _ 43 rfl w1.heap.size 25 i0 (pl 0 0) 2 8 Try.underlying43 hi hz0 hz1 hz2 rfl (by decide) _ n (fls ys) rfl (O2.out.alloc _) ⟨w2.heap.size, 0, none⟩ 1 1 [.float .f32 (nW ys 0), .float .f32 (eW ys 0)] rfl rfl (cell_two_new _ _ _ _) (fun u hu => by simp at hu; rcases hu with rfl | rfl <;> rfl) (by unfold maxLen; omega) (by omega) (by simp; omega) ?_; intro v' w3 o3 hgrow3 hnil3; have hb3 : Below w.heap.size w w3 := Below.grown (Below.alloc B2.out B2.out.size _) hgrow3 (by have := B2.out.size; simp; omega) (fun k h => by cases h; exact Nat.le_trans B1.out.size hg2); have B3 := Hb.mk hb3; clear hgrow3 hnil3 hb3; rw [clo_fls] at o3; obtain ⟨g3, cap3, rfl, hc3, hg3⟩ := own_shape o3 (by omega); have R2 := Hf.mk (own_frow o3); clear o3))
    all_goals
      have lg := block_lt_of_cell (R2.out.twoAt (clo_len HN.out) (by omega : 0 < (n + 1))).1
      simp at lg
      go_loopw [7, 25] (fun s i wr => ∃ m : Nat, m ≤ n ∧ s = .float .f32 (longN (clo ys) m) ∧ i = .int .i64 (m : Int) ∧ Hf (Below w3.heap.size w3 wr)) (fun _ i _ => n - (intOf i).toNat)
      case atStart => exact ⟨0, by omega, rfl, rfl, ⟨Below.refl _ _⟩⟩
      case round =>
        obtain ⟨m, hm, rfl, rfl, hb⟩ := hrel
        by_cases hlt : m < n
        · first
          | (exfalso; omega)
          | skip
            obtain ⟨c0, c1⟩ := (R2.out.below hb.out).twoAt (clo_len HN.out) (by omega : m < (n + 1))
            obtain ⟨c2, c3⟩ := (R2.out.below hb.out).twoAt (clo_len HN.out) (by omega : m + 1 < (n + 1))
            rw [show (m + 1) * 2 = 2 + m * 2 by omega] at c2 c3
            obtain ⟨F1, G1, V1⟩ := (fun i (hi : i < n + 1) => cloEx HW.out HN.out (by omega) HVV.out i hi) m (by omega)
            obtain ⟨F2, G2, V2⟩ := (fun i (hi : i < n + 1) => cloEx HW.out HN.out (by omega) HVV.out i hi) (m + 1) (by omega)
            obtain ⟨b1, b2⟩ := turns_of V1
            obtain ⟨d1, d2⟩ := turns_of V2
            have KA := Hb.mk (long_ab (n := (n + 1)) (fun i hi => ((fun i (hi : i < n + 1) => cloEx HW.out HN.out (by omega) HVV.out i hi) i hi).2.2) (by omega) (m + 1) (by omega))
            have MA : Hb (∀ w, (binOp .add 22 (.float .f32 (longN (clo ys) m)) (.float .f32 (apAt (clo ys) m (m + 1)))).run Try.prog w = .ok (.float .f32 (longN (clo ys) (m + 1))) w) := ⟨fop_exact _ KA.out.fin⟩
            have KW1 := Hb.mk (wayOf_any F1 G1 b1 b2)
            have KW2 := Hb.mk (wayOf_any F2 G2 d1 d2)
            have KT := Hb.mk (wayApart_any (Wb.way b1 b2) (Wb.way d1 d2))
            change Hb (∀ w, Calls Try.prog 62 _ w (RS (.float .f32 (apAt (clo ys) m (m + 1))) w)) at KT
            generalize apAt (clo ys) m (m + 1) = T at *
            generalize hS : longN (clo ys) (m + 1) = S at *
            generalize wxC (nW (clo ys) m) (eW (clo ys) m) = x1 at *
            generalize wyC (nW (clo ys) m) (eW (clo ys) m) = y1 at *
            generalize sineC (nW (clo ys) m) = z1 at *
            generalize wxC (nW (clo ys) (m + 1)) (eW (clo ys) (m + 1)) = x2 at *
            generalize wyC (nW (clo ys) (m + 1)) (eW (clo ys) (m + 1)) = y2 at *
            generalize sineC (nW (clo ys) (m + 1)) = z2 at *
            generalize nW (clo ys) m = na at *
            generalize eW (clo ys) m = ea at *
            generalize nW (clo ys) (m + 1) = nb at *
            generalize eW (clo ys) (m + 1) = eb at *
            have v0 : m < (n + 1) := by omega
            have v1 : m < n := by omega
            have i0 : (m : Int) < (((n + 1) : Nat) : Int) := by omega
            have i1 : (m : Int) < (n : Int) := by omega
            have i2 : (m : Int) < (n : Int) + 1 := by omega
            have v2 : m < n + 1 := by omega
            have j0 : (0 : Int) ≤ (m : Int) := by omega
            have t0 : (m : Int).toNat = m := by omega
            clear F1 G1 V1 F2 G2 V2 b1 b2 d1 d2 KA
            go_wp2
            generalize hQ : World.alloc wr _ = QQ
            have hbq : Below wr.heap.size wr QQ := by rw [← hQ]; exact (by repeat (first | exact Below.refl _ _ | with_reducible assumption | refine Below.drews ?_ | refine Below.drew ?_ | refine Below.alloc ?_ (by simp <;> omega) _ | refine Below.setCell ?_ (by simp <;> omega) _))
            have e0 := Below.keep hbq c0
            have e1 := Below.keep hbq c1
            have f0 : QQ.cell? ⟨wr.heap.size, 0, none⟩ = some (.float .f32 nb) := by rw [← hQ]; simp [go_sem]
            have f1 : QQ.cell? ⟨wr.heap.size, 1, none⟩ = some (.float .f32 eb) := by rw [← hQ]; simp [go_sem]
            have BQ := Hb.mk (Below.on hb.out hbq hb.out.size)
            clear hQ hbq c0 c1 c2 c3
            refine region_all (by kernel_rfl) (by kernel_rfl) (fun I F hne HB hcl => ?_)
            have p0 := keepF HB e0
            have p1 := keepF HB e1
            have p2 := keepF HB f0
            have p3 := keepF HB f1
            have mA := MA.out
            repeat (quiet_step (first | (go_at_call_of 61 (Value.float .f32 na); exact callS hcl (KW1.out _)) | (go_at_call_of 61 (Value.float .f32 nb); exact callS hcl (KW2.out _)) | (go_at_call 62; exact callS hcl (KT.out _))))
            refine wpQuiet_nil ?_
            intro _ hw'
            obtain ⟨iq, rfl⟩ := hw'
            clear hcl mA v0 v1 i0 i1 i2 v2 j0 t0 p0 p1 p2 p3
            have E1 := Hb.mk (HB.out iq)
            have sB := BQ.out.size
            go_wp2
            go_roundw
            case rel => exact ⟨m + 1, by omega, by rw [hS], i_ext2 (by omega), ⟨(by repeat (first | with_reducible refine Below.setCell ?_ (by first | omega | (simp <;> omega)) _ | with_reducible refine Below.drews ?_ | with_reducible refine Below.drew ?_ | with_reducible refine Below.alloc ?_ (by first | omega | (simp <;> omega)) _ | with_reducible refine Below.on ?_ E1.out (by first | omega | (simp <;> omega)) | with_reducible exact BQ.out | with_reducible exact Below.refl _ _))⟩⟩
            case measure => simp [intOf]; omega
        · have hmn : m = n := by omega
          have E1 := Hb.mk hb.out
          have sB := B3.out.size
          go_wp2
          go_ret2
          rw [show totN ys n true = longN (clo ys) m by unfold totN; rw [show n = m by omega]]
          exact ⟨rfl, (by repeat (first | with_reducible refine Below.setCell ?_ (by first | omega | (simp <;> omega)) _ | with_reducible refine Below.drews ?_ | with_reducible refine Below.drew ?_ | with_reducible refine Below.alloc ?_ (by first | omega | (simp <;> omega)) _ | with_reducible refine Below.on ?_ E1.out (by first | omega | (simp <;> omega)) | with_reducible exact B3.out | with_reducible exact Below.refl _ _))⟩
theorem iLong_no {g n : Nat} {ys : List Nat} (cl : Bool) (w : World) (hr : FRow w (some ⟨g, 0, none⟩) ys) (hw : Wf ys) (hn : ys.length = 2 * n) (hl : n ≤ 1048576) (ha : arePl ys n = false) : Calls Try.prog 23 #[.slice (some ⟨g, 0, none⟩) n n, .bool cl] w (RS (flT2 0 false) w) := by
  have KR := iArePl_any w hr hw hn hl
  rw [ha] at KR
  have HA := Hb.mk KR
  clear KR hr hw hn ha
  have B0 := Hb.mk (Below.refl w.heap.size w)
  go_enter Try.func23, Try.ntmps23
  go_wp2_with (first | (go_at_call 59; refine HA.out.mono ?_; rintro ex w1 ⟨rfl, b1⟩; have B1 := Hb.mk (Below.on (B := w.heap.size) (a := w) (by repeat (first | exact B0.out | refine Below.drews ?_ | refine Below.drew ?_ | refine Below.alloc ?_ (by have hq_ := B0.out.size; first | omega | (simp <;> omega)) _ | refine Below.setCell ?_ (by have hq_ := B0.out.size; first | omega | (simp <;> omega)) _)) b1 (by have hq_ := B0.out.size; first | omega | (simp <;> omega))); clear b1))
  go_ret2
  exact ⟨rfl, (by repeat (first | with_reducible refine Below.setCell ?_ (by first | omega | (simp <;> omega)) _ | with_reducible refine Below.drews ?_ | with_reducible refine Below.drew ?_ | with_reducible refine Below.alloc ?_ (by first | omega | (simp <;> omega)) _ | with_reducible exact B1.out | with_reducible exact Below.refl _ _))⟩
theorem pair_LongOfPlaces {n : Nat} {ys : List Nat} (cl : Bool) (hw : Wf ys) (hn : ys.length = 2 * n) (hl : n ≤ 1048576) : ∃ V ok, Hb (∀ (g : Nat) (w : World), FRow w (some ⟨g, 0, none⟩) ys → Calls Try.prog 21 #[.slice (some ⟨g, 0, none⟩) n n, .bool cl] w (RS (flT2 V ok) w)) ∧ Hb (∀ (g : Nat) (w : World), FRow w (some ⟨g, 0, none⟩) ys → Calls Try.prog 23 #[.slice (some ⟨g, 0, none⟩) n n, .bool cl] w (RS (flT2 V ok) w)) ∧ Fl .f32 V V := by
  cases ha : arePl ys n
  · exact ⟨_, _, ⟨fun g w hr => sLong_no cl w hr hw hn hl ha⟩, ⟨fun g w hr => iLong_no cl w hr hw hn hl ha⟩, fl0⟩
  · obtain ⟨k1, k64, hv⟩ := arePl_of ha
    exact ⟨_, _, ⟨fun g w hr => sLong_yes cl w hr hw hn hl ha⟩, ⟨fun g w hr => iLong_yes cl w hr hw hn hl ha⟩, (tot_fin hn (by omega) k64 (fun i hi => (vEx hw hn hi (hv i hi)).2.2) cl).2⟩
set_option maxHeartbeats 2000000 in
theorem law_LongOfPlaces0 {a : Option Addr} {cap n : Nat} {ys : List Nat} (cl : Bool) (w : World) (hr : FRow w a ys) (hw : Wf ys) (hn : ys.length = 2 * n) (hm : n ≤ 9223372036854775807)  : Calls Try.prog 7 #[.slice a n cap, .bool cl] w (RS (.bool true) w) := by
  have HR := Hf.mk hr
  have HW := Hf.mk hw
  have HN := Hf.mk hn
  have B0 := Hb.mk (Below.refl w.heap.size w)
  by_cases hl : n ≤ 1048576
  · have KZ := Hf.mk (szPS_yes (a := a) (cap := cap) hl)
    obtain ⟨V, ok, KS, KG, hf⟩ := pair_LongOfPlaces cl hw hn hl
    have HFL := Hf.mk hf
    clear hr hw hn hf
    cases ok
    all_goals
      have hV := HFL.out
      go_enter Try.func7, Try.ntmps7
      have tk_a : True := trivial; have tk_b : True := trivial; have tk_c : True := trivial
      go_wp2_with (first
        | (go_at_call 20; refine (KZ.out _).mono ?_; rintro e w' ⟨rfl, n0, rfl⟩)
        | (go_at_call 22; clear tk_a; refine (toPS_any _ (HR.out.drew _) HN.out hl).mono ?_; rintro e w1 ⟨rfl, o1, b1⟩; have O1 := Hf.mk o1; have B1 := Hb.mk (Below.on (B := w.heap.size) (a := w) (by repeat (first | exact B0.out | refine Below.drews ?_ | refine Below.drew ?_ | refine Below.alloc ?_ (by have hq_ := B0.out.size; first | omega | (simp <;> omega)) _ | refine Below.setCell ?_ (by have hq_ := B0.out.size; first | omega | (simp <;> omega)) _)) b1 (by have hq_ := B0.out.size; first | omega | (simp <;> omega))); clear o1 b1)
        | (go_at_call 21; refine (KS.out _ _ O1.out).mono ?_; rintro e w2 ⟨rfl, b2⟩; have B2 := Hb.mk (Below.on (B := w.heap.size) (a := w) (by repeat (first | exact B1.out | refine Below.drews ?_ | refine Below.drew ?_ | refine Below.alloc ?_ (by have hq_ := B1.out.size; first | omega | (simp <;> omega)) _ | refine Below.setCell ?_ (by have hq_ := B1.out.size; first | omega | (simp <;> omega)) _)) b2 (by have hq_ := B1.out.size; first | omega | (simp <;> omega))); clear b2)
        | (go_at_call 22; clear tk_b; refine (toPS_any _ (HR.out.below B2.out) HN.out hl).mono ?_; rintro e w3 ⟨rfl, o3, b3⟩; have O3 := Hf.mk o3; have B3 := Hb.mk (Below.on (B := w.heap.size) (a := w) (by repeat (first | exact B2.out | refine Below.drews ?_ | refine Below.drew ?_ | refine Below.alloc ?_ (by have hq_ := B2.out.size; first | omega | (simp <;> omega)) _ | refine Below.setCell ?_ (by have hq_ := B2.out.size; first | omega | (simp <;> omega)) _)) b3 (by have hq_ := B2.out.size; first | omega | (simp <;> omega))); clear o3 b3)
        | (go_at_call 23; refine (KG.out _ _ O3.out).mono ?_; rintro e w4 ⟨rfl, b4⟩; have O4 := Hf.mk (O3.out.below b4); have B4 := Hb.mk (Below.on (B := w.heap.size) (a := w) (by repeat (first | exact B3.out | refine Below.drews ?_ | refine Below.drew ?_ | refine Below.alloc ?_ (by have hq_ := B3.out.size; first | omega | (simp <;> omega)) _ | refine Below.setCell ?_ (by have hq_ := B3.out.size; first | omega | (simp <;> omega)) _)) b4 (by have hq_ := B3.out.size; first | omega | (simp <;> omega))); clear b4)
        | (refine wpList_fcv rfl rfl rfl (by kernel_rfl) Try.underlying36 (by decide) (by first | (with_reducible assumption) | (with_reducible exact Fl.ofInt _ _) | exact Fl.not (by decide +kernel) (by decide +kernel)) (fits_wide _) ?_; intro r n hr; simp only [Act.put, List.setIfInBounds_toArray, List.set_cons_succ, List.set_cons_zero]) | (go_at_call 17; refine (sameFloat_any (by assumption) (by assumption) _).mono ?_; rintro e w' ⟨rfl, n, rfl⟩)
        | (go_at_call 22; clear tk_c; refine (toPS_any _ ((HR.out.below B4.out).drews (by repeat (first | exact Drew.refl _ | refine Drew.more ?_))) HN.out hl).mono ?_; rintro e w5 ⟨rfl, o5, b5⟩; have O5 := Hf.mk o5; have O6 := Hf.mk ((O4.out.drews (by repeat (first | exact Drew.refl _ | refine Drew.more ?_))).below b5); have B5 := Hb.mk (Below.on (B := w.heap.size) (a := w) (by repeat (first | exact B4.out | refine Below.drews ?_ | refine Below.drew ?_ | refine Below.alloc ?_ (by have hq_ := B4.out.size; first | omega | (simp <;> omega)) _ | refine Below.setCell ?_ (by have hq_ := B4.out.size; first | omega | (simp <;> omega)) _)) b5 (by have hq_ := B4.out.size; first | omega | (simp <;> omega))); clear o5 b5)
        | (go_at_call 24; refine (eqPS_any _ O6.out O5.out HW.out HN.out hl).mono ?_; rintro e w6 ⟨rfl, b6⟩; have B6 := Hb.mk (Below.on (B := w.heap.size) (a := w) (by repeat (first | exact B5.out | refine Below.drews ?_ | refine Below.drew ?_ | refine Below.alloc ?_ (by have hq_ := B5.out.size; first | omega | (simp <;> omega)) _ | refine Below.setCell ?_ (by have hq_ := B5.out.size; first | omega | (simp <;> omega)) _)) b6 (by have hq_ := B5.out.size; first | omega | (simp <;> omega))); clear b6))
      go_ret
      exact ⟨rfl, (by repeat (first | with_reducible refine Below.setCell ?_ (by first | omega | (simp <;> omega)) _ | with_reducible refine Below.drews ?_ | with_reducible refine Below.drew ?_ | with_reducible refine Below.alloc ?_ (by first | omega | (simp <;> omega)) _ | with_reducible exact B6.out | with_reducible exact Below.refl _ _))⟩
  · have KZ := Hf.mk (szPS_no (a := a) (cap := cap) (n := n) (by omega) hm)
    go_enter Try.func7, Try.ntmps7
    go_wp2_with (first | (go_at_call 20; refine (KZ.out _).mono ?_; rintro e w' ⟨rfl, n0, rfl⟩))
    go_ret
    exact ⟨rfl, (by repeat (first | with_reducible refine Below.setCell ?_ (by first | omega | (simp <;> omega)) _ | with_reducible refine Below.drews ?_ | with_reducible refine Below.drew ?_ | with_reducible refine Below.alloc ?_ (by first | omega | (simp <;> omega)) _ | with_reducible exact B0.out | with_reducible exact Below.refl _ _))⟩
theorem law_LongOfPlaces {a : Option Addr} {cap n : Nat} {ys : List Nat} (w : World) (hr : FRow w a ys) (hw : Wf ys) (hn : ys.length = 2 * n) (hm : n ≤ 9223372036854775807) (cl : Bool) : Calls Try.prog 7 #[.slice a n cap, .bool cl] w (RS (.bool true) w) := law_LongOfPlaces0 cl w hr hw hn hm
end Go.Proofs.Ytfmhbmehidlhiaa
