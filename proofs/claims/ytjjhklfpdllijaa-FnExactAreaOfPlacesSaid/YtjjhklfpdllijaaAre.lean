/-
  AreaOfPlaces, of the program and of its model; its exact law. No condition.
-/
import Derived.Test.YtjjhklfpdllijaaPle
import Derived.Test.YtjjhklfpdllijaaTri
namespace Go.Proofs.Ytjjhklfpdllijaa
open Go Go.RowKit
set_option maxRecDepth 100000

def triAt (ys : List Nat) (m : Nat) : Nat := triC (wxC (nW ys (0)) (eW ys (0))) (wyC (nW ys (0)) (eW ys (0))) (sineC (nW ys (0))) (wxC (nW ys (m + 1)) (eW ys (m + 1))) (wyC (nW ys (m + 1)) (eW ys (m + 1))) (sineC (nW ys (m + 1))) (wxC (nW ys (m + 2)) (eW ys (m + 2))) (wyC (nW ys (m + 2)) (eW ys (m + 2))) (sineC (nW ys (m + 2)))
def areaN (ys : List Nat) : Nat → Nat
  | 0 => 0
  | m + 1 => fop .add .f32 (areaN ys m) (triAt ys m)
theorem tri_ab {ys : List Nat} {n : Nat} (h : ∀ i, i < n → vAt ys i = true) (hw : Wf ys) (hn : ys.length = 2 * n) {m : Nat} (hm : m + 2 < n) : Ab .f32 (triAt ys m) 1065353216 := by
  obtain ⟨_, _, v0⟩ := vEx hw hn (by omega : 0 < n) (h 0 (by omega))
  obtain ⟨_, _, v1⟩ := vEx hw hn (by omega : m + 1 < n) (h _ (by omega))
  obtain ⟨_, _, v2⟩ := vEx hw hn (by omega : m + 2 < n) (h _ (by omega))
  obtain ⟨a1, a2⟩ := turns_of v0
  obtain ⟨b1, b2⟩ := turns_of v1
  obtain ⟨c1, c2⟩ := turns_of v2
  exact (Tri.of (Wb.way a1 a2) (Wb.way b1 b2) (Wb.way c1 c2)).T
theorem area_ab {ys : List Nat} {n : Nat} (h : ∀ i, i < n → vAt ys i = true) (hw : Wf ys) (hn : ys.length = 2 * n) (h64 : n ≤ 64) : ∀ m, m + 1 < n ∨ m = 0 → Ab .f32 (areaN ys m) (fo m) := by
  intro m
  induction m with
  | zero => intro _; exact fo_zero
  | succ m ih =>
    intro hm
    exact fo_add (ih (by omega)) (tri_ab h hw hn (by omega)) (by omega)
theorem area_fl (ys : List Nat) : ∀ m, (Lit.float .f32 (areaN ys m)).wf = true := by
  intro m
  cases m with
  | zero => show (Lit.float .f32 0).wf = true; decide +kernel
  | succ m => exact wf_fop _ _ _ _
/-- how many triangles -/
def nTri (n : Nat) : Nat := n - 2
set_option maxHeartbeats 4000000 in
theorem sArea_yes {g n : Nat} {ys : List Nat} (w : World) (hr : FRow w (some ⟨g, 0, none⟩) ys) (hw : Wf ys) (hn : ys.length = 2 * n) (hl : n ≤ 1048576) (ha : arePl ys n = true) : Calls Try.prog 39 #[.slice (some ⟨g, 0, none⟩) n n] w (RS (flT2 (areaN ys (nTri n)) true) w) := by
  obtain ⟨k1, k64, hv⟩ := arePl_of ha
  obtain ⟨F0, G0, V0⟩ := vEx hw hn (by omega : 0 < n) (hv 0 (by omega))
  obtain ⟨a1, a2⟩ := turns_of V0
  have KR := l02Are_any w hr hw hn hl
  rw [ha] at KR
  have HA := Hb.mk KR
  have HR := Hf.mk hr
  have HW := Hf.mk hw
  have HN := Hf.mk hn
  have HVV := Hf.mk hv
  clear KR hr hw hn ha hv
  have B0 := Hb.mk (Below.refl w.heap.size w)
  go_enter Try.func39, Try.ntmps39
  go_wp2_with (first | (go_at_call 93; refine HA.out.mono ?_; rintro ex w1 ⟨rfl, n1, rfl⟩))
  go_loopw [4, 5] (fun s i wr => ∃ m : Nat, (m + 1 < n ∨ m = 0) ∧ s = .float .f32 (areaN ys m) ∧ i = .int .i64 ((m : Int) + 1) ∧ Hf (Below w.heap.size w wr)) (fun _ i _ => n - (intOf i).toNat)
  case atStart => exact ⟨0, by omega, rfl, rfl, ⟨(by repeat (first | with_reducible refine Below.setCell ?_ (by first | omega | (simp <;> omega)) _ | with_reducible refine Below.drews ?_ | with_reducible refine Below.drew ?_ | with_reducible refine Below.alloc ?_ (by first | omega | (simp <;> omega)) _ | with_reducible exact B0.out | with_reducible exact Below.refl _ _))⟩⟩
  case round =>
    obtain ⟨m, hm, rfl, rfl, hb⟩ := hrel
    by_cases hlt : m + 2 < n
    · obtain ⟨c0, c1⟩ := (HR.out.below hb.out).twoAt HN.out (by omega : 0 < n)
      obtain ⟨c2, c3⟩ := (HR.out.below hb.out).twoAt HN.out (by omega : m + 1 < n)
      obtain ⟨c4, c5⟩ := (HR.out.below hb.out).twoAt HN.out (by omega : m + 1 + 1 < n)
      simp only [Nat.zero_mul, Nat.zero_add] at c0 c1
      obtain ⟨F1, G1, V1⟩ := vEx HW.out HN.out (by omega : m + 1 < n) (HVV.out _ (by omega))
      obtain ⟨F2, G2, V2⟩ := vEx HW.out HN.out (by omega : m + 2 < n) (HVV.out _ (by omega))
      obtain ⟨b1, b2⟩ := turns_of V1
      obtain ⟨d1, d2⟩ := turns_of V2
      have KA := Hb.mk (area_ab HVV.out HW.out HN.out k64 (m + 1) (by omega))
      have MA : Hb (∀ w, (binOp .add 22 (.float .f32 (areaN ys m)) (.float .f32 (triAt ys m))).run Try.prog w = .ok (.float .f32 (areaN ys (m + 1))) w) := ⟨fop_exact _ KA.out.fin⟩
      have KT := Hb.mk (l02Triangle_any F0 G0 F1 G1 F2 G2 a1 a2 b1 b2 d1 d2)
      change Hb (∀ w, Calls Try.prog 94 #[pl (nW ys 0) (eW ys 0), pl (nW ys (m + 1)) (eW ys (m + 1)), pl (nW ys (m + 2)) (eW ys (m + 2))] w (RS (.float .f32 (triAt ys m)) w)) at KT
      generalize triAt ys m = T at *
      generalize hS : areaN ys (m + 1) = S at *
      have BR := Hb.mk hb.out
      clear F1 G1 V1 F2 G2 V2 b1 b2 d1 d2 KA
      go_wp2
      refine region_all (by kernel_rfl) (by kernel_rfl) (fun I F hne HB hcl => ?_)
      have p0 := keepF HB c0
      have p1 := keepF HB c1
      have p2 := keepF HB c2
      have p3 := keepF HB c3
      have p4 := keepF HB c4
      have p5 := keepF HB c5
      have mA := MA.out
      have i0 : (0 : Int) < (n : Int) := by omega
      have i1 : (m : Int) + 1 < (n : Int) := by omega
      have j1 : (0 : Int) ≤ (m : Int) + 1 := by omega
      have v0 : 0 < n := by omega
      have v1 : m + 1 < n := by omega
      have v2 : m + 1 + 1 < n := by omega
      have v3 : m + 2 < n := by omega
      have t1 : ((m : Int) + 1).toNat = m + 1 := by omega
      have i2 : (m : Int) + 1 + 1 < (n : Int) := by omega
      have j2 : (0 : Int) ≤ (m : Int) + 1 + 1 := by omega
      have t2 : ((m : Int) + 1 + 1).toNat = m + 1 + 1 := by omega
      have wr1 : IntKind.i64.wrap ((m : Int) + 1 + 1) = (m : Int) + 1 + 1 := IntWalk.i64_in _ ⟨by omega, by omega⟩
      repeat (quiet_step (first | (go_at_call 94; exact callS hcl (KT.out _))))
      refine wpQuiet_nil ?_
      intro _ hw'
      obtain ⟨iq, rfl⟩ := hw'
      clear hcl mA v0 v1 v2 v3 i0 i1 i2 j1 j2 t1 t2 wr1 p0 p1 p2 p3 p4 p5
      have E1 := Hb.mk (HB.out iq)
      have sB := BR.out.size
      go_wp2
      go_roundw
      case rel => exact ⟨m + 1, by omega, by rw [hS], i_ext2 (by omega), ⟨(by repeat (first | with_reducible refine Below.setCell ?_ (by first | omega | (simp <;> omega)) _ | with_reducible refine Below.drews ?_ | with_reducible refine Below.drew ?_ | with_reducible refine Below.alloc ?_ (by first | omega | (simp <;> omega)) _ | with_reducible refine Below.on ?_ E1.out (by first | omega | (simp <;> omega)) | with_reducible exact BR.out | with_reducible exact Below.refl _ _))⟩⟩
      case measure => simp [intOf]; omega
    · have hmn : m = nTri n := by unfold nTri; omega
      have BR := Hb.mk hb.out
      have hA := area_ab HVV.out HW.out HN.out k64 m hm
      have KN := Hb.mk (l02Number_yes (Fl.not (fin_notN hA.fin) (area_fl ys m)) hA.fin)
      have nA := Hb.mk (fin_notN hA.fin)
      have hV := Hb.mk (show areaN ys (nTri n) = areaN ys m by rw [hmn])
      clear hmn hA
      generalize areaN ys m = V at *
      go_wp2_with (first | (go_at_call 70; refine (KN.out _).mono ?_; rintro ex w3 ⟨r3, n3, rfl, hr3, rfl⟩; obtain rfl := (hr3.word nA.out).symm))
      go_ret2
      rw [hV.out]
      exact ⟨rfl, (by repeat (first | with_reducible refine Below.setCell ?_ (by first | omega | (simp <;> omega)) _ | with_reducible refine Below.drews ?_ | with_reducible refine Below.drew ?_ | with_reducible refine Below.alloc ?_ (by first | omega | (simp <;> omega)) _ | with_reducible exact BR.out | with_reducible exact Below.refl _ _))⟩
theorem sArea_no {g n : Nat} {ys : List Nat} (w : World) (hr : FRow w (some ⟨g, 0, none⟩) ys) (hw : Wf ys) (hn : ys.length = 2 * n) (hl : n ≤ 1048576) (ha : arePl ys n = false) : Calls Try.prog 39 #[.slice (some ⟨g, 0, none⟩) n n] w (RS (flT2 0 false) w) := by
  have KR := l02Are_any w hr hw hn hl
  rw [ha] at KR
  have HA := Hb.mk KR
  clear KR hr hw hn ha
  have B0 := Hb.mk (Below.refl w.heap.size w)
  go_enter Try.func39, Try.ntmps39
  go_wp2_with (first | (go_at_call 93; refine HA.out.mono ?_; rintro ex w1 ⟨rfl, n1, rfl⟩))
  go_ret2
  exact ⟨rfl, (by repeat (first | with_reducible refine Below.setCell ?_ (by first | omega | (simp <;> omega)) _ | with_reducible refine Below.drews ?_ | with_reducible refine Below.drew ?_ | with_reducible refine Below.alloc ?_ (by first | omega | (simp <;> omega)) _ | with_reducible exact B0.out | with_reducible exact Below.refl _ _))⟩
set_option maxHeartbeats 4000000 in
theorem iArea_yes {g n : Nat} {ys : List Nat} (w : World) (hr : FRow w (some ⟨g, 0, none⟩) ys) (hw : Wf ys) (hn : ys.length = 2 * n) (hl : n ≤ 1048576) (ha : arePl ys n = true) : Calls Try.prog 40 #[.slice (some ⟨g, 0, none⟩) n n] w (RS (flT2 (areaN ys (nTri n)) true) w) := by
  obtain ⟨k1, k64, hv⟩ := arePl_of ha
  obtain ⟨F0, G0, V0⟩ := vEx hw hn (by omega : 0 < n) (hv 0 (by omega))
  obtain ⟨a1, a2⟩ := turns_of V0
  have KR := iArePl_any w hr hw hn hl
  rw [ha] at KR
  have HA := Hb.mk KR
  have KW0 := Hb.mk (wayOf_any F0 G0 a1 a2)
  have W0 := Hb.mk (Wb.way a1 a2)
  have HR := Hf.mk hr
  have HW := Hf.mk hw
  have HN := Hf.mk hn
  have HVV := Hf.mk hv
  obtain ⟨x0, hx0⟩ : ∃ x, wxC (nW ys 0) (eW ys 0) = x := ⟨_, rfl⟩
  obtain ⟨y0, hy0⟩ : ∃ x, wyC (nW ys 0) (eW ys 0) = x := ⟨_, rfl⟩
  obtain ⟨z0, hz0⟩ : ∃ x, sineC (nW ys 0) = x := ⟨_, rfl⟩
  rw [hx0, hy0, hz0] at KW0 W0
  have hxyz := Hb.mk (And.intro hx0 (And.intro hy0 hz0))
  clear KR hr hw hn ha hv hx0 hy0 hz0
  have B0 := Hb.mk (Below.refl w.heap.size w)
  go_enter Try.func40, Try.ntmps40
  go_wp2_with (first
    | (go_at_call 37; refine HA.out.mono ?_; rintro ex w1 ⟨rfl, b1⟩; have B1 := Hb.mk (Below.on (B := w.heap.size) (a := w) (by repeat (first | exact B0.out | refine Below.drews ?_ | refine Below.drew ?_ | refine Below.alloc ?_ (by have hq_ := B0.out.size; first | omega | (simp <;> omega)) _ | refine Below.setCell ?_ (by have hq_ := B0.out.size; first | omega | (simp <;> omega)) _)) b1 (by have hq_ := B0.out.size; first | omega | (simp <;> omega))); obtain ⟨c0, c1⟩ := (HR.out.below b1).twoAt HN.out (by omega : 0 < n); simp only [Nat.zero_mul, Nat.zero_add] at c0 c1; clear b1)
    | (go_at_call 95; refine (KW0.out _).mono ?_; rintro ex w2 ⟨rfl, b2⟩; have B2 := Hb.mk (Below.on (B := w.heap.size) (a := w) (by repeat (first | exact B1.out | refine Below.drews ?_ | refine Below.drew ?_ | refine Below.alloc ?_ (by have hq_ := B1.out.size; first | omega | (simp <;> omega)) _ | refine Below.setCell ?_ (by have hq_ := B1.out.size; first | omega | (simp <;> omega)) _)) b2 (by have hq_ := B1.out.size; first | omega | (simp <;> omega))); clear b2))
  clear c0 c1
  generalize hWW : World.alloc w2 _ = W
  have s2 := B2.out.size
  have d0 : W.cell? ⟨w2.heap.size, 0, none⟩ = some (.float .f32 x0) := by rw [← hWW]; simp
  have d1 : W.cell? ⟨w2.heap.size, 1, none⟩ = some (.float .f32 y0) := by rw [← hWW]; simp
  have d2 : W.cell? ⟨w2.heap.size, 2, none⟩ = some (.float .f32 z0) := by rw [← hWW]; simp
  have BW := Hb.mk (show Below w.heap.size w W by rw [← hWW]; exact (by repeat (first | with_reducible refine Below.setCell ?_ (by first | omega | (simp <;> omega)) _ | with_reducible refine Below.drews ?_ | with_reducible refine Below.drew ?_ | with_reducible refine Below.alloc ?_ (by first | omega | (simp <;> omega)) _ | with_reducible exact B2.out | with_reducible exact Below.refl _ _)))
  clear hWW
  go_loopw [4, 6] (fun s i wr => ∃ m : Nat, (m + 1 < n ∨ m = 0) ∧ s = .float .f32 (areaN ys m) ∧ i = .int .i64 ((m : Int) + 2) ∧ Hf (Below W.heap.size W wr)) (fun _ i _ => n - (intOf i).toNat)
  case atStart => exact ⟨0, by omega, rfl, rfl, ⟨Below.refl _ _⟩⟩
  case round =>
    obtain ⟨m, hm, rfl, rfl, hb⟩ := hrel
    by_cases hlt : m + 2 < n
    · have hBB := Below.on BW.out hb.out BW.out.size
      obtain ⟨c2, c3⟩ := (HR.out.below hBB).twoAt HN.out (by omega : m + 1 < n)
      obtain ⟨c4, c5⟩ := (HR.out.below hBB).twoAt HN.out (by omega : m + 2 < n)
      have c0 := Below.keep hb.out d0
      have c1 := Below.keep hb.out d1
      have c6 := Below.keep hb.out d2
      obtain ⟨F1, G1, V1⟩ := vEx HW.out HN.out (by omega : m + 1 < n) (HVV.out _ (by omega))
      obtain ⟨F2, G2, V2⟩ := vEx HW.out HN.out (by omega : m + 2 < n) (HVV.out _ (by omega))
      obtain ⟨b1, b2⟩ := turns_of V1
      obtain ⟨q1, q2⟩ := turns_of V2
      have KA := Hb.mk (area_ab HVV.out HW.out HN.out k64 (m + 1) (by omega))
      have MA : Hb (∀ w, (binOp .add 22 (.float .f32 (areaN ys m)) (.float .f32 (triAt ys m))).run Try.prog w = .ok (.float .f32 (areaN ys (m + 1))) w) := ⟨fop_exact _ KA.out.fin⟩
      have KW1 := Hb.mk (wayOf_any F1 G1 b1 b2)
      have KW2 := Hb.mk (wayOf_any F2 G2 q1 q2)
      have KT := Hb.mk (triangleOf_any W0.out (Wb.way b1 b2) (Wb.way q1 q2))
      have eT : triC x0 y0 z0 (wxC (nW ys (m + 1)) (eW ys (m + 1))) (wyC (nW ys (m + 1)) (eW ys (m + 1))) (sineC (nW ys (m + 1))) (wxC (nW ys (m + 2)) (eW ys (m + 2))) (wyC (nW ys (m + 2)) (eW ys (m + 2))) (sineC (nW ys (m + 2))) = triAt ys m := by unfold triAt; rw [hxyz.out.1, hxyz.out.2.1, hxyz.out.2.2]
      rw [eT] at KT
      clear eT
      generalize triAt ys m = T at *
      generalize hS : areaN ys (m + 1) = S at *
      generalize wxC (nW ys (m + 1)) (eW ys (m + 1)) = x1 at *
      generalize wyC (nW ys (m + 1)) (eW ys (m + 1)) = y1 at *
      generalize sineC (nW ys (m + 1)) = z1 at *
      generalize wxC (nW ys (m + 2)) (eW ys (m + 2)) = x2 at *
      generalize wyC (nW ys (m + 2)) (eW ys (m + 2)) = y2 at *
      generalize sineC (nW ys (m + 2)) = z2 at *
      generalize nW ys (m + 1) = na at *
      generalize eW ys (m + 1) = ea at *
      generalize nW ys (m + 2) = nb at *
      generalize eW ys (m + 2) = eb at *
      have BR := Hb.mk hb.out
      clear F1 G1 V1 F2 G2 V2 b1 b2 q1 q2 KA hBB
      go_wp2
      refine region_all (by kernel_rfl) (by kernel_rfl) (fun I F hne HB hcl => ?_)
      have p0 := keepF HB c0
      have p1 := keepF HB c1
      have p2 := keepF HB c2
      have p3 := keepF HB c3
      have p4 := keepF HB c4
      have p5 := keepF HB c5
      have p6 := keepF HB c6
      have mA := MA.out
      have i0 : (0 : Int) < (n : Int) := by omega
      have i1 : (m : Int) + 1 < (n : Int) := by omega
      have j1 : (0 : Int) ≤ (m : Int) + 1 := by omega
      have v0 : 0 < n := by omega
      have v1 : m + 1 < n := by omega
      have v2 : m + 1 + 1 < n := by omega
      have v3 : m + 2 < n := by omega
      have t1 : ((m : Int) + 1).toNat = m + 1 := by omega
      have i2 : (m : Int) + 2 < (n : Int) := by omega
      have j2 : (0 : Int) ≤ (m : Int) + 2 := by omega
      have t2 : ((m : Int) + 2).toNat = m + 2 := by omega
      have wr1 : IntKind.i64.wrap ((m : Int) + 2 - 1) = (m : Int) + 1 := (IntWalk.i64_in _ ⟨by omega, by omega⟩).trans (by omega)
      repeat (quiet_step (first | (go_at_call_of 95 (Value.float .f32 na); exact callS hcl (KW1.out _)) | (go_at_call_of 95 (Value.float .f32 nb); exact callS hcl (KW2.out _)) | (go_at_call 96; exact callS hcl (KT.out _))))
      refine wpQuiet_nil ?_
      intro _ hw'
      obtain ⟨iq, rfl⟩ := hw'
      clear hcl mA v0 v1 v2 v3 i0 i1 i2 j1 j2 t1 t2 wr1 p0 p1 p2 p3 p4 p5 p6
      have E1 := Hb.mk (HB.out iq)
      have sB := BR.out.size
      go_wp2
      go_roundw
      case rel => exact ⟨m + 1, by omega, by rw [hS], i_ext2 (by omega), ⟨(by repeat (first | with_reducible refine Below.setCell ?_ (by first | omega | (simp <;> omega)) _ | with_reducible refine Below.drews ?_ | with_reducible refine Below.drew ?_ | with_reducible refine Below.alloc ?_ (by first | omega | (simp <;> omega)) _ | with_reducible refine Below.on ?_ E1.out (by first | omega | (simp <;> omega)) | with_reducible exact BR.out | with_reducible exact Below.refl _ _))⟩⟩
      case measure => simp [intOf]; omega
    · have hmn : m = nTri n := by unfold nTri; omega
      have E1 := Hb.mk hb.out
      have sB := BW.out.size
      go_wp2
      go_ret2
      rw [← hmn]
      exact ⟨rfl, (by repeat (first | with_reducible refine Below.setCell ?_ (by first | omega | (simp <;> omega)) _ | with_reducible refine Below.drews ?_ | with_reducible refine Below.drew ?_ | with_reducible refine Below.alloc ?_ (by first | omega | (simp <;> omega)) _ | with_reducible refine Below.on ?_ E1.out (by first | omega | (simp <;> omega)) | with_reducible exact BW.out | with_reducible exact Below.refl _ _))⟩
theorem iArea_no {g n : Nat} {ys : List Nat} (w : World) (hr : FRow w (some ⟨g, 0, none⟩) ys) (hw : Wf ys) (hn : ys.length = 2 * n) (hl : n ≤ 1048576) (ha : arePl ys n = false) : Calls Try.prog 40 #[.slice (some ⟨g, 0, none⟩) n n] w (RS (flT2 0 false) w) := by
  have KR := iArePl_any w hr hw hn hl
  rw [ha] at KR
  have HA := Hb.mk KR
  clear KR hr hw hn ha
  have B0 := Hb.mk (Below.refl w.heap.size w)
  go_enter Try.func40, Try.ntmps40
  go_wp2_with (first | (go_at_call 37; refine HA.out.mono ?_; rintro ex w1 ⟨rfl, b1⟩; have B1 := Hb.mk (Below.on (B := w.heap.size) (a := w) (by repeat (first | exact B0.out | refine Below.drews ?_ | refine Below.drew ?_ | refine Below.alloc ?_ (by have hq_ := B0.out.size; first | omega | (simp <;> omega)) _ | refine Below.setCell ?_ (by have hq_ := B0.out.size; first | omega | (simp <;> omega)) _)) b1 (by have hq_ := B0.out.size; first | omega | (simp <;> omega))); clear b1))
  go_ret2
  exact ⟨rfl, (by repeat (first | with_reducible refine Below.setCell ?_ (by first | omega | (simp <;> omega)) _ | with_reducible refine Below.drews ?_ | with_reducible refine Below.drew ?_ | with_reducible refine Below.alloc ?_ (by first | omega | (simp <;> omega)) _ | with_reducible exact B1.out | with_reducible exact Below.refl _ _))⟩
theorem pair_AreaOfPlaces {n : Nat} {ys : List Nat} (hw : Wf ys) (hn : ys.length = 2 * n) (hl : n ≤ 1048576) : ∃ V ok, Hb (∀ (g : Nat) (w : World), FRow w (some ⟨g, 0, none⟩) ys → Calls Try.prog 39 #[.slice (some ⟨g, 0, none⟩) n n] w (RS (flT2 V ok) w)) ∧ Hb (∀ (g : Nat) (w : World), FRow w (some ⟨g, 0, none⟩) ys → Calls Try.prog 40 #[.slice (some ⟨g, 0, none⟩) n n] w (RS (flT2 V ok) w)) ∧ Fl .f32 V V := by
  cases ha : arePl ys n
  · exact ⟨_, _, ⟨fun g w hr => sArea_no w hr hw hn hl ha⟩, ⟨fun g w hr => iArea_no w hr hw hn hl ha⟩, fl0⟩
  · obtain ⟨k1, k64, hv⟩ := arePl_of ha
    refine ⟨_, _, ⟨fun g w hr => sArea_yes w hr hw hn hl ha⟩, ⟨fun g w hr => iArea_yes w hr hw hn hl ha⟩, ?_⟩
    exact Fl.not (fin_notN (area_ab hv hw hn k64 (nTri n) (by unfold nTri; omega)).fin) (area_fl ys _)
set_option maxHeartbeats 2000000 in
theorem law_AreaOfPlaces {a : Option Addr} {cap n : Nat} {ys : List Nat}  (w : World) (hr : FRow w a ys) (hw : Wf ys) (hn : ys.length = 2 * n) (hm : n ≤ 9223372036854775807)  : Calls Try.prog 12 #[.slice a n cap] w (RS (.bool true) w) := by
  have HR := Hf.mk hr
  have HW := Hf.mk hw
  have HN := Hf.mk hn
  have B0 := Hb.mk (Below.refl w.heap.size w)
  by_cases hl : n ≤ 1048576
  · have KZ := Hf.mk (szPS_yes (a := a) (cap := cap) hl)
    obtain ⟨V, ok, KS, KG, hf⟩ := pair_AreaOfPlaces hw hn hl
    have HFL := Hf.mk hf
    clear hr hw hn hf
    cases ok
    all_goals
      have hV := HFL.out
      go_enter Try.func12, Try.ntmps12
      have tk_a : True := trivial; have tk_b : True := trivial; have tk_c : True := trivial
      go_wp2_with (first
        | (go_at_call 34; refine (KZ.out _).mono ?_; rintro e w' ⟨rfl, n0, rfl⟩)
        | (go_at_call 36; clear tk_a; refine (toPS_any _ (HR.out.drew _) HN.out hl).mono ?_; rintro e w1 ⟨rfl, o1, b1⟩; have O1 := Hf.mk o1; have B1 := Hb.mk (Below.on (B := w.heap.size) (a := w) (by repeat (first | exact B0.out | refine Below.drews ?_ | refine Below.drew ?_ | refine Below.alloc ?_ (by have hq_ := B0.out.size; first | omega | (simp <;> omega)) _ | refine Below.setCell ?_ (by have hq_ := B0.out.size; first | omega | (simp <;> omega)) _)) b1 (by have hq_ := B0.out.size; first | omega | (simp <;> omega))); clear o1 b1)
        | (go_at_call 39; refine (KS.out _ _ O1.out).mono ?_; rintro e w2 ⟨rfl, b2⟩; have B2 := Hb.mk (Below.on (B := w.heap.size) (a := w) (by repeat (first | exact B1.out | refine Below.drews ?_ | refine Below.drew ?_ | refine Below.alloc ?_ (by have hq_ := B1.out.size; first | omega | (simp <;> omega)) _ | refine Below.setCell ?_ (by have hq_ := B1.out.size; first | omega | (simp <;> omega)) _)) b2 (by have hq_ := B1.out.size; first | omega | (simp <;> omega))); clear b2)
        | (go_at_call 36; clear tk_b; refine (toPS_any _ (HR.out.below B2.out) HN.out hl).mono ?_; rintro e w3 ⟨rfl, o3, b3⟩; have O3 := Hf.mk o3; have B3 := Hb.mk (Below.on (B := w.heap.size) (a := w) (by repeat (first | exact B2.out | refine Below.drews ?_ | refine Below.drew ?_ | refine Below.alloc ?_ (by have hq_ := B2.out.size; first | omega | (simp <;> omega)) _ | refine Below.setCell ?_ (by have hq_ := B2.out.size; first | omega | (simp <;> omega)) _)) b3 (by have hq_ := B2.out.size; first | omega | (simp <;> omega))); clear o3 b3)
        | (go_at_call 40; refine (KG.out _ _ O3.out).mono ?_; rintro e w4 ⟨rfl, b4⟩; have O4 := Hf.mk (O3.out.below b4); have B4 := Hb.mk (Below.on (B := w.heap.size) (a := w) (by repeat (first | exact B3.out | refine Below.drews ?_ | refine Below.drew ?_ | refine Below.alloc ?_ (by have hq_ := B3.out.size; first | omega | (simp <;> omega)) _ | refine Below.setCell ?_ (by have hq_ := B3.out.size; first | omega | (simp <;> omega)) _)) b4 (by have hq_ := B3.out.size; first | omega | (simp <;> omega))); clear b4)
        | (refine wpList_fcv rfl rfl rfl (by kernel_rfl) Try.underlying38 (by decide) (by first | (with_reducible assumption) | (with_reducible exact Fl.ofInt _ _) | exact Fl.not (by decide +kernel) (by decide +kernel)) (fits_wide _) ?_; intro r n hr; simp only [Act.put, List.setIfInBounds_toArray, List.set_cons_succ, List.set_cons_zero]) | (go_at_call 25; refine (sameFloat_any (by assumption) (by assumption) _).mono ?_; rintro e w' ⟨rfl, n, rfl⟩)
        | (go_at_call 36; clear tk_c; refine (toPS_any _ ((HR.out.below B4.out).drews (by repeat (first | exact Drew.refl _ | refine Drew.more ?_))) HN.out hl).mono ?_; rintro e w5 ⟨rfl, o5, b5⟩; have O5 := Hf.mk o5; have O6 := Hf.mk ((O4.out.drews (by repeat (first | exact Drew.refl _ | refine Drew.more ?_))).below b5); have B5 := Hb.mk (Below.on (B := w.heap.size) (a := w) (by repeat (first | exact B4.out | refine Below.drews ?_ | refine Below.drew ?_ | refine Below.alloc ?_ (by have hq_ := B4.out.size; first | omega | (simp <;> omega)) _ | refine Below.setCell ?_ (by have hq_ := B4.out.size; first | omega | (simp <;> omega)) _)) b5 (by have hq_ := B4.out.size; first | omega | (simp <;> omega))); clear o5 b5)
        | (go_at_call 38; refine (eqPS_any _ O6.out O5.out HW.out HN.out hl).mono ?_; rintro e w6 ⟨rfl, b6⟩; have B6 := Hb.mk (Below.on (B := w.heap.size) (a := w) (by repeat (first | exact B5.out | refine Below.drews ?_ | refine Below.drew ?_ | refine Below.alloc ?_ (by have hq_ := B5.out.size; first | omega | (simp <;> omega)) _ | refine Below.setCell ?_ (by have hq_ := B5.out.size; first | omega | (simp <;> omega)) _)) b6 (by have hq_ := B5.out.size; first | omega | (simp <;> omega))); clear b6))
      go_ret
      exact ⟨rfl, (by repeat (first | with_reducible refine Below.setCell ?_ (by first | omega | (simp <;> omega)) _ | with_reducible refine Below.drews ?_ | with_reducible refine Below.drew ?_ | with_reducible refine Below.alloc ?_ (by first | omega | (simp <;> omega)) _ | with_reducible exact B6.out | with_reducible exact Below.refl _ _))⟩
  · have KZ := Hf.mk (szPS_no (a := a) (cap := cap) (n := n) (by omega) hm)
    go_enter Try.func12, Try.ntmps12
    go_wp2_with (first | (go_at_call 34; refine (KZ.out _).mono ?_; rintro e w' ⟨rfl, n0, rfl⟩))
    go_ret
    exact ⟨rfl, (by repeat (first | with_reducible refine Below.setCell ?_ (by first | omega | (simp <;> omega)) _ | with_reducible refine Below.drews ?_ | with_reducible refine Below.drew ?_ | with_reducible refine Below.alloc ?_ (by first | omega | (simp <;> omega)) _ | with_reducible exact B0.out | with_reducible exact Below.refl _ _))⟩
end Go.Proofs.Ytjjhklfpdllijaa
