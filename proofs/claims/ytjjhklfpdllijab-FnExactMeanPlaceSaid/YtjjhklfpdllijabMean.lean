/-
  MeanPlace, of the program and of its model; its exact law. No condition.
-/
import Derived.Test.YtjjhklfpdllijabPle
import Derived.Test.YtjjhklfpdllijabMid
namespace Go.Proofs.Ytjjhklfpdllijab
open Go Go.RowKit
set_option maxRecDepth 100000

def wX (ys : List Nat) (i : Nat) : Nat := wxC (nW ys i) (eW ys i)
def wY (ys : List Nat) (i : Nat) : Nat := wyC (nW ys i) (eW ys i)
def wZ (ys : List Nat) (i : Nat) : Nat := sineC (nW ys i)
def sumF (f : Nat → Nat) : Nat → Nat
  | 0 => 0
  | m + 1 => fop .add .f32 (sumF f m) (f m)
theorem fo_step4 : ∀ m : Fin 65, val FloatKind.f32.format (rung .f32 (fo (4 * m.val))) + val FloatKind.f32.format (rung .f32 1082130432) ≤ val FloatKind.f32.format (rung .f32 (fo (4 * (m.val + 1)))) ∧ fin .f32 (fo (4 * (m.val + 1))) = true := by decide +kernel
theorem sum_ab4 {f : Nat → Nat} {n : Nat} (h : ∀ i, i < n → Ab .f32 (f i) 1082130432) (h64 : n ≤ 64) : ∀ m, m ≤ n → Ab .f32 (sumF f m) (fo (4 * m)) := by
  intro m
  induction m with
  | zero => intro _; exact fo_zero
  | succ m ih =>
    intro hm
    obtain ⟨h1, h2⟩ := fo_step4 ⟨m, by omega⟩
    exact add_ab (ih (by omega)) (h m (by omega)) h2 h1
theorem sum_fl (f : Nat → Nat) : ∀ m, (Lit.float .f32 (sumF f m)).wf = true := by
  intro m
  cases m with
  | zero => show (Lit.float .f32 0).wf = true; decide +kernel
  | succ m => exact wf_fop _ _ _ _
theorem wb_at {ys : List Nat} {n i : Nat} (hw : Wf ys) (hn : ys.length = 2 * n) (h : ∀ i, i < n → vAt ys i = true) (hi : i < n) : Wb (wX ys i) (wY ys i) (wZ ys i) 1082130432 := by
  obtain ⟨_, _, v⟩ := vEx hw hn hi (h i hi)
  obtain ⟨a1, a2⟩ := turns_of v
  exact Wb.way a1 a2
theorem wb_sum {ys : List Nat} {n : Nat} (hw : Wf ys) (hn : ys.length = 2 * n) (h : ∀ i, i < n → vAt ys i = true) (h64 : n ≤ 64) {m : Nat} (hm : m ≤ n) : Wb (sumF (wX ys) m) (sumF (wY ys) m) (sumF (wZ ys) m) (fo (4 * m)) := by
  have a1 := sum_ab4 (f := wX ys) (fun i hi => (wb_at hw hn h hi).ax) h64 m hm
  have a2 := sum_ab4 (f := wY ys) (fun i hi => (wb_at hw hn h hi).ay) h64 m hm
  have a3 := sum_ab4 (f := wZ ys) (fun i hi => (wb_at hw hn h hi).az) h64 m hm
  exact ⟨a1, a2, a3, Fl.not (fin_notN a1.fin) (sum_fl _ _), Fl.not (fin_notN a2.fin) (sum_fl _ _), Fl.not (fin_notN a3.fin) (sum_fl _ _)⟩
/-- Three cells that may be written: what they hold. -/
structure At3 (w : World) (b x y z : Nat) : Prop where
  a0 : At w ⟨b, 0, none⟩ (.float .f32 x)
  a1 : At w ⟨b, 1, none⟩ (.float .f32 y)
  a2 : At w ⟨b, 2, none⟩ (.float .f32 z)
structure At2 (w : World) (b x y : Nat) : Prop where
  a0 : At w ⟨b, 0, none⟩ (.float .f32 x)
  a1 : At w ⟨b, 1, none⟩ (.float .f32 y)
theorem At3.below {w w' : World} {b x y z : Nat} (h : At3 w b x y z) (hb : Below w.heap.size w w') : At3 w' b x y z := ⟨At.keep hb h.a0.cell h.a0.free, At.keep hb h.a1.cell h.a1.free, At.keep hb h.a2.cell h.a2.free⟩
theorem At3.set {w : World} {b x y z : Nat} (h : At3 w b x y z) (x' y' z' : Nat) : At3 (((w.setCell ⟨b, 0, none⟩ (.float .f32 x')).setCell ⟨b, 1, none⟩ (.float .f32 y')).setCell ⟨b, 2, none⟩ (.float .f32 z')) b x' y' z' := by
  have c0 := h.a0.cell
  have c1 := h.a1.cell
  have c2 := h.a2.cell
  have f0 := h.a0.free
  have f1 := h.a1.free
  have f2 := h.a2.free
  have l := h.a0.lt
  exact ⟨⟨by simp [go_sem, c0], by simp [go_sem, f0], by simp; exact l⟩, ⟨by simp [go_sem, c1], by simp [go_sem, f1], by simp; exact l⟩, ⟨by simp [go_sem, c2], by simp [go_sem, f2], by simp; exact l⟩⟩
theorem At2.set3 {w : World} {b c x y : Nat} (h : At2 w c x y) (hn : c ≠ b) (x' y' z' : Nat) : At2 (((w.setCell ⟨b, 0, none⟩ (.float .f32 x')).setCell ⟨b, 1, none⟩ (.float .f32 y')).setCell ⟨b, 2, none⟩ (.float .f32 z')) c x y := by
  have c0 := h.a0.cell
  have c1 := h.a1.cell
  have f0 := h.a0.free
  have f1 := h.a1.free
  have l := h.a0.lt
  exact ⟨⟨by simp [go_sem, c0, hn], by simp [go_sem, f0], by simp; exact l⟩, ⟨by simp [go_sem, c1, hn], by simp [go_sem, f1], by simp; exact l⟩⟩
theorem At2.below {w w' : World} {b x y : Nat} (h : At2 w b x y) (hb : Below w.heap.size w w') : At2 w' b x y := ⟨At.keep hb h.a0.cell h.a0.free, At.keep hb h.a1.cell h.a1.free⟩
set_option maxHeartbeats 4000000 in
theorem sMean_yes {g n : Nat} {ys : List Nat} (w : World) (hr : FRow w (some ⟨g, 0, none⟩) ys) (hw : Wf ys) (hn : ys.length = 2 * n) (hl : n ≤ 1048576) (ha : arePl ys n = true) {X Y : Nat} {ok : Bool} (KP : Hb (∀ w, Calls Try.prog 39 #[wy (sumF (wX ys) n) (sumF (wY ys) n) (sumF (wZ ys) n)] w (RS (plT X Y ok) w))) : Calls Try.prog 11 #[.slice (some ⟨g, 0, none⟩) n n] w (RS (plT X Y ok) w) := by
  obtain ⟨k1, k64, hv⟩ := arePl_of ha
  have HA := Hb.mk (fun (w' : World) (hr' : FRow w' (some ⟨g, 0, none⟩) ys) => (ha ▸ l02Are_any w' hr' hw hn hl : Calls Try.prog 36 #[.slice (some ⟨g, 0, none⟩) n n] w' (RB true w')))
  have HR := Hf.mk hr
  have HW := Hf.mk hw
  have HN := Hf.mk hn
  have HVV := Hf.mk hv
  clear hr hw hn ha hv
  have B0 := Hb.mk (Below.refl w.heap.size w)
  go_enter Try.func11, Try.ntmps11
  go_wp2_with (first | (go_at_call 36; refine (HA.out _ (HR.out.below (by repeat (first | exact Below.refl _ _ | with_reducible assumption | refine Below.drews ?_ | refine Below.drew ?_ | refine Below.alloc ?_ (by simp <;> omega) _ | refine Below.setCell ?_ (by simp <;> omega) _)))).mono ?_; rintro ex w1 ⟨rfl, n1, rfl⟩))
  generalize hWW : World.alloc (World.drewN (World.alloc w _) n1) _ = W
  have r2 : At2 W w.heap.size 0 0 := by rw [← hWW]; exact ⟨⟨by simp [go_sem], by simp [go_sem], by simp [go_sem]⟩, ⟨by simp [go_sem], by simp [go_sem], by simp [go_sem]⟩⟩
  have r3 : At3 W (w.heap.size + 1) 0 0 0 := by rw [← hWW]; exact ⟨⟨by simp [go_sem], by simp [go_sem], by simp [go_sem]⟩, ⟨by simp [go_sem], by simp [go_sem], by simp [go_sem]⟩, ⟨by simp [go_sem], by simp [go_sem], by simp [go_sem]⟩⟩
  have BW : Below w.heap.size w W := by rw [← hWW]; exact (by repeat (first | exact Below.refl _ _ | with_reducible assumption | refine Below.drews ?_ | refine Below.drew ?_ | refine Below.alloc ?_ (by simp <;> omega) _ | refine Below.setCell ?_ (by simp <;> omega) _))
  have sW := BW.size
  clear hWW
  go_loopw [5] (fun i wr => ∃ m : Nat, m ≤ n ∧ i = .int .i64 m ∧ Hf (Below w.heap.size w wr) ∧ Hf (At2 wr w.heap.size 0 0) ∧ Hf (At3 wr (w.heap.size + 1) (sumF (wX ys) m) (sumF (wY ys) m) (sumF (wZ ys) m))) (fun i _ => n - (intOf i).toNat)
  case atStart => exact ⟨0, by omega, rfl, ⟨BW⟩, ⟨r2⟩, ⟨r3⟩⟩
  case round =>
    obtain ⟨m, hm, rfl, hb, h2, h3⟩ := hrel
    clear r2 r3 BW sW
    have BR := Hb.mk hb.out
    by_cases hlt : m < n
    · obtain ⟨c0, c1⟩ := (HR.out.below hb.out).twoAt HN.out hlt
      obtain ⟨F1, G1, V1⟩ := vEx HW.out HN.out hlt (HVV.out _ hlt)
      obtain ⟨t1, t2⟩ := turns_of V1
      have wb := wb_at HW.out HN.out HVV.out hlt
      have ws := wb_sum HW.out HN.out HVV.out k64 (m := m) (by omega)
      have wt := wb_sum HW.out HN.out HVV.out k64 (m := m + 1) (by omega)
      have KW := Hb.mk (l02Way_any F1 G1 t1 t2)
      change Hb (∀ w, Calls Try.prog 38 #[pl (nW ys m) (eW ys m)] w (RS (wy (wX ys m) (wY ys m) (wZ ys m)) w)) at KW
      have KA := Hb.mk (fun w => exactW (l02Add_any ws.fx ws.fy ws.fz wb.fx wb.fy wb.fz w) wt.ax.fin wt.ay.fin wt.az.fin)
      change Hb (∀ w, Calls Try.prog 37 #[wy (sumF (wX ys) m) (sumF (wY ys) m) (sumF (wZ ys) m), wy (wX ys m) (wY ys m) (wZ ys m)] w (RS (wy (sumF (wX ys) (m + 1)) (sumF (wY ys) (m + 1)) (sumF (wZ ys) (m + 1))) w)) at KA
      clear F1 G1 V1 t1 t2 wb ws wt
      have e0 := h3.out.a0.cell
      have e1 := h3.out.a1.cell
      have e2 := h3.out.a2.cell
      have z0 := h3.out.a0.free
      have z1 := h3.out.a1.free
      have z2 := h3.out.a2.free
      have lN := h3.out.a0.lt
      simp at lN
      generalize hX : sumF (wX ys) (m + 1) = X' at *
      generalize hY : sumF (wY ys) (m + 1) = Y' at *
      generalize hZ : sumF (wZ ys) (m + 1) = Z' at *
      generalize sumF (wX ys) m = X1 at *
      generalize sumF (wY ys) m = Y1 at *
      generalize sumF (wZ ys) m = Z1 at *
      have v1 : m < n := hlt
      go_wp2
      have h2a := h2.out
      have h3a := h3.out
      refine region_keep 7 (by kernel_rfl) (by kernel_rfl) (fun I F hne HB hcl => ?_)
      have p0 := keepF HB c0
      have p1 := keepF HB c1
      have q0 := keepF HB (p := ⟨w.heap.size + 1, 0, none⟩) (v := .float .f32 X1) h3a.a0.cell
      have y0 := keepZ HB (p := ⟨w.heap.size + 1, 0, none⟩) h3a.a0.lt h3a.a0.free
      have q1 := keepF HB (p := ⟨w.heap.size + 1, 1, none⟩) (v := .float .f32 Y1) h3a.a1.cell
      have y1 := keepZ HB (p := ⟨w.heap.size + 1, 1, none⟩) h3a.a1.lt h3a.a1.free
      have q2 := keepF HB (p := ⟨w.heap.size + 1, 2, none⟩) (v := .float .f32 Z1) h3a.a2.cell
      have y2 := keepZ HB (p := ⟨w.heap.size + 1, 2, none⟩) h3a.a2.lt h3a.a2.free
      simp only [List.take_succ_cons, List.take_zero, List.drop_succ_cons, List.drop_zero]
      repeat (quiet_step (first | (go_at_call 38; exact callS hcl (KW.out _)) | (go_at_call 37; exact callS hcl (KA.out _))))
      refine wpQuiet_nil ?_
      intro _ hw'
      obtain ⟨iq, rfl⟩ := hw'
      have E1 := Hb.mk (HB.out iq)
      have h2' := h2a.below (HB.out iq)
      have h3' := h3a.below (HB.out iq)
      have x0 := q0 iq
      have x1 := q1 iq
      have x2 := q2 iq
      have g0 := y0 iq
      have g1 := y1 iq
      have g2 := y2 iq
      have sB := BR.out.size
      clear hcl p0 p1 q0 q1 q2 y0 y1 y2
      go_wp2
      go_roundw
      case rel =>
        refine ⟨m + 1, by omega, i_ext2 (by omega), ⟨(by repeat (first | with_reducible refine Below.setCell ?_ (by first | omega | (simp <;> omega)) _ | with_reducible refine Below.drews ?_ | with_reducible refine Below.drew ?_ | with_reducible refine Below.alloc ?_ (by first | omega | (simp <;> omega)) _ | with_reducible refine Below.on ?_ E1.out (by first | omega | (simp <;> omega)) | with_reducible exact BR.out | with_reducible exact Below.refl _ _))⟩, ⟨h2'.set3 (by omega) _ _ _⟩, ⟨?_⟩⟩
        rw [hX, hY, hZ]
        exact h3'.set X' Y' Z'
      case measure => simp [intOf]; omega
    · obtain rfl : m = n := by omega
      have e0 := h3.out.a0.cell
      have e1 := h3.out.a1.cell
      have e2 := h3.out.a2.cell
      have d0 := h2.out.a0.cell
      have d1 := h2.out.a1.cell
      have u0 := h2.out.a0.free
      have u1 := h2.out.a1.free
      have sB := BR.out.size
      go_wp2_with (first | (go_at_call 39; refine (KP.out _).mono ?_; rintro ex w5 ⟨rfl, b5⟩; have s0 := Hb.mk (At.keep b5 d0 u0); have s1 := Hb.mk (At.keep b5 d1 u1); obtain ⟨s0c, s0z, s0l⟩ := s0.out; obtain ⟨s1c, s1z, s1l⟩ := s1.out; have E5 := Hb.mk b5; clear b5))
      exact bodyPost_ret (v := plT X Y ok) (by simp [results, Try.results11, go_sem, s0c, s1c]) rfl ⟨rfl, (by repeat (first | with_reducible refine Below.setCell ?_ (by first | omega | (simp <;> omega)) _ | with_reducible refine Below.drews ?_ | with_reducible refine Below.drew ?_ | with_reducible refine Below.alloc ?_ (by first | omega | (simp <;> omega)) _ | with_reducible refine Below.on ?_ E5.out (by first | omega | (simp <;> omega)) | with_reducible exact BR.out | with_reducible exact Below.refl _ _))⟩
theorem sMean_no {g n : Nat} {ys : List Nat} (w : World) (hr : FRow w (some ⟨g, 0, none⟩) ys) (hw : Wf ys) (hn : ys.length = 2 * n) (hl : n ≤ 1048576) (ha : arePl ys n = false) : Calls Try.prog 11 #[.slice (some ⟨g, 0, none⟩) n n] w (RS (plT 0 0 false) w) := by
  have HA := Hb.mk (fun (w' : World) (hr' : FRow w' (some ⟨g, 0, none⟩) ys) => (ha ▸ l02Are_any w' hr' hw hn hl : Calls Try.prog 36 #[.slice (some ⟨g, 0, none⟩) n n] w' (RB false w')))
  have HR := Hf.mk hr
  clear hr hw hn ha
  have B0 := Hb.mk (Below.refl w.heap.size w)
  go_enter Try.func11, Try.ntmps11
  go_wp2_with (first | (go_at_call 36; refine (HA.out _ (HR.out.below (by repeat (first | exact Below.refl _ _ | with_reducible assumption | refine Below.drews ?_ | refine Below.drew ?_ | refine Below.alloc ?_ (by simp <;> omega) _ | refine Below.setCell ?_ (by simp <;> omega) _)))).mono ?_; rintro ex w1 ⟨rfl, n1, rfl⟩))
  exact bodyPost_ret (v := plT 0 0 false) (by simp [results, Try.results11, go_sem]) rfl ⟨rfl, (by repeat (first | with_reducible refine Below.setCell ?_ (by first | omega | (simp <;> omega)) _ | with_reducible refine Below.drews ?_ | with_reducible refine Below.drew ?_ | with_reducible refine Below.alloc ?_ (by first | omega | (simp <;> omega)) _ | with_reducible exact B0.out | with_reducible exact Below.refl _ _))⟩
set_option maxHeartbeats 4000000 in
theorem iMean_yes {g n : Nat} {ys : List Nat} (w : World) (hr : FRow w (some ⟨g, 0, none⟩) ys) (hw : Wf ys) (hn : ys.length = 2 * n) (hl : n ≤ 1048576) (ha : arePl ys n = true) {X Y : Nat} {ok : Bool} (KP : Hb (∀ w, Calls Try.prog 43 #[wy (sumF (wX ys) n) (sumF (wY ys) n) (sumF (wZ ys) n)] w (RS (plT X Y ok) w))) : Calls Try.prog 13 #[.slice (some ⟨g, 0, none⟩) n n] w (RS (plT X Y ok) w) := by
  obtain ⟨k1, k64, hv⟩ := arePl_of ha
  have HA := Hb.mk (fun (w' : World) (hr' : FRow w' (some ⟨g, 0, none⟩) ys) => (ha ▸ iArePl_any w' hr' hw hn hl : Calls Try.prog 40 #[.slice (some ⟨g, 0, none⟩) n n] w' (RS (.bool true) w')))
  have HR := Hf.mk hr
  have HW := Hf.mk hw
  have HN := Hf.mk hn
  have HVV := Hf.mk hv
  clear hr hw hn ha hv
  have B0 := Hb.mk (Below.refl w.heap.size w)
  go_enter Try.func13, Try.ntmps13
  go_wp2_with (first | (go_at_call 40; refine (HA.out _ (HR.out.below (by repeat (first | exact Below.refl _ _ | with_reducible assumption | refine Below.drews ?_ | refine Below.drew ?_ | refine Below.alloc ?_ (by simp <;> omega) _ | refine Below.setCell ?_ (by simp <;> omega) _)))).mono ?_; rintro ex w1 ⟨rfl, b1⟩; have R1 := Hb.mk (At2.below (b := w.heap.size) (x := 0) (y := 0) ⟨⟨by simp [go_sem], by simp [go_sem], by simp [go_sem]⟩, ⟨by simp [go_sem], by simp [go_sem], by simp [go_sem]⟩⟩ b1); have B1 := Hb.mk (Below.on (B := w.heap.size) (a := w) (by repeat (first | exact B0.out | refine Below.drews ?_ | refine Below.drew ?_ | refine Below.alloc ?_ (by have hq_ := B0.out.size; first | omega | (simp <;> omega)) _ | refine Below.setCell ?_ (by have hq_ := B0.out.size; first | omega | (simp <;> omega)) _)) b1 (by have hq_ := B0.out.size; first | omega | (simp <;> omega))); clear b1))
  generalize hWW : World.alloc w1 _ = W
  have r2 : At2 W w.heap.size 0 0 := by rw [← hWW]; exact R1.out.below (by repeat (first | exact Below.refl _ _ | with_reducible assumption | refine Below.drews ?_ | refine Below.drew ?_ | refine Below.alloc ?_ (by simp <;> omega) _ | refine Below.setCell ?_ (by simp <;> omega) _))
  have s1 := R1.out.a0.lt
  simp at s1
  have r3 : At3 W w1.heap.size 0 0 0 := by rw [← hWW]; exact ⟨⟨by simp [go_sem], by simp [go_sem], by simp [go_sem]⟩, ⟨by simp [go_sem], by simp [go_sem], by simp [go_sem]⟩, ⟨by simp [go_sem], by simp [go_sem], by simp [go_sem]⟩⟩
  have BW : Below w.heap.size w W := by rw [← hWW]; exact (by repeat (first | with_reducible refine Below.setCell ?_ (by first | omega | (simp <;> omega)) _ | with_reducible refine Below.drews ?_ | with_reducible refine Below.drew ?_ | with_reducible refine Below.alloc ?_ (by first | omega | (simp <;> omega)) _ | with_reducible exact B1.out | with_reducible exact Below.refl _ _))
  have sW := BW.size
  generalize w1.heap.size = N at *
  clear hWW R1
  go_loopw [14] (fun i wr => ∃ m : Nat, m ≤ n ∧ i = .int .i64 m ∧ Hf (Below w.heap.size w wr) ∧ Hf (At2 wr w.heap.size 0 0) ∧ Hf (At3 wr (N) (sumF (wX ys) m) (sumF (wY ys) m) (sumF (wZ ys) m))) (fun i _ => n - (intOf i).toNat)
  case atStart => exact ⟨0, by omega, rfl, ⟨BW⟩, ⟨r2⟩, ⟨r3⟩⟩
  case round =>
    obtain ⟨m, hm, rfl, hb, h2, h3⟩ := hrel
    clear r2 r3 BW sW
    have BR := Hb.mk hb.out
    by_cases hlt : m < n
    · obtain ⟨c0, c1⟩ := (HR.out.below hb.out).twoAt HN.out hlt
      obtain ⟨F1, G1, V1⟩ := vEx HW.out HN.out hlt (HVV.out _ hlt)
      obtain ⟨t1, t2⟩ := turns_of V1
      have wb := wb_at HW.out HN.out HVV.out hlt
      have ws := wb_sum HW.out HN.out HVV.out k64 (m := m) (by omega)
      have wt := wb_sum HW.out HN.out HVV.out k64 (m := m + 1) (by omega)
      have KW := Hb.mk (wayOf_any F1 G1 t1 t2)
      change Hb (∀ w, Calls Try.prog 42 #[pl (nW ys m) (eW ys m)] w (RS (wy (wX ys m) (wY ys m) (wZ ys m)) w)) at KW
      have KA := Hb.mk (fun w => exactW (wayPlus_any ws.fx ws.fy ws.fz wb.fx wb.fy wb.fz w) wt.ax.fin wt.ay.fin wt.az.fin)
      change Hb (∀ w, Calls Try.prog 41 #[wy (sumF (wX ys) m) (sumF (wY ys) m) (sumF (wZ ys) m), wy (wX ys m) (wY ys m) (wZ ys m)] w (RS (wy (sumF (wX ys) (m + 1)) (sumF (wY ys) (m + 1)) (sumF (wZ ys) (m + 1))) w)) at KA
      clear F1 G1 V1 t1 t2 wb ws wt
      have e0 := h3.out.a0.cell
      have e1 := h3.out.a1.cell
      have e2 := h3.out.a2.cell
      have z0 := h3.out.a0.free
      have z1 := h3.out.a1.free
      have z2 := h3.out.a2.free
      have lN := h3.out.a0.lt
      simp at lN
      generalize hX : sumF (wX ys) (m + 1) = X' at *
      generalize hY : sumF (wY ys) (m + 1) = Y' at *
      generalize hZ : sumF (wZ ys) (m + 1) = Z' at *
      generalize sumF (wX ys) m = X1 at *
      generalize sumF (wY ys) m = Y1 at *
      generalize sumF (wZ ys) m = Z1 at *
      have v1 : m < n := hlt
      go_wp2
      obtain ⟨W1, hW1⟩ : ∃ W1, W1 = wr.alloc (.cells #[.float .f32 (nW ys m), .float .f32 (eW ys m)] 26) := ⟨_, rfl⟩
      rw [← hW1]
      have bW1 : Below wr.heap.size wr W1 := by rw [hW1]; exact (by repeat (first | exact Below.refl _ _ | with_reducible assumption | refine Below.drews ?_ | refine Below.drew ?_ | refine Below.alloc ?_ (by simp <;> omega) _ | refine Below.setCell ?_ (by simp <;> omega) _))
      have h2a := h2.out.below bW1
      have h3a := h3.out.below bW1
      have k0 : W1.cell? ⟨wr.heap.size, 0, none⟩ = some (.float .f32 (nW ys m)) := by rw [hW1]; simp
      have k1 : W1.cell? ⟨wr.heap.size, 1, none⟩ = some (.float .f32 (eW ys m)) := by rw [hW1]; simp
      have BR := Hb.mk (Below.on BR.out bW1 BR.out.size)
      have e0 := h3a.a0.cell
      have e1 := h3a.a1.cell
      have e2 := h3a.a2.cell
      clear hW1 bW1
      refine region_keep 4 (by kernel_rfl) (by kernel_rfl) (fun I F hne HB hcl => ?_)
      have p0 := keepF HB (p := ⟨wr.heap.size, 0, none⟩) (v := .float .f32 (nW ys m)) k0
      have p1 := keepF HB (p := ⟨wr.heap.size, 1, none⟩) (v := .float .f32 (eW ys m)) k1
      have q0 := keepF HB (p := ⟨N, 0, none⟩) (v := .float .f32 X1) h3a.a0.cell
      have y0 := keepZ HB (p := ⟨N, 0, none⟩) h3a.a0.lt h3a.a0.free
      have q1 := keepF HB (p := ⟨N, 1, none⟩) (v := .float .f32 Y1) h3a.a1.cell
      have y1 := keepZ HB (p := ⟨N, 1, none⟩) h3a.a1.lt h3a.a1.free
      have q2 := keepF HB (p := ⟨N, 2, none⟩) (v := .float .f32 Z1) h3a.a2.cell
      have y2 := keepZ HB (p := ⟨N, 2, none⟩) h3a.a2.lt h3a.a2.free
      simp only [List.take_succ_cons, List.take_zero, List.drop_succ_cons, List.drop_zero]
      repeat (quiet_step (first | (go_at_call 42; exact callS hcl (KW.out _)) | (go_at_call 41; exact callS hcl (KA.out _))))
      refine wpQuiet_nil ?_
      intro _ hw'
      obtain ⟨iq, rfl⟩ := hw'
      have E1 := Hb.mk (HB.out iq)
      have h2' := h2a.below (HB.out iq)
      have h3' := h3a.below (HB.out iq)
      have x0 := q0 iq
      have x1 := q1 iq
      have x2 := q2 iq
      have g0 := y0 iq
      have g1 := y1 iq
      have g2 := y2 iq
      have sB := BR.out.size
      clear hcl p0 p1 q0 q1 q2 y0 y1 y2
      go_wp2
      go_roundw
      case rel =>
        refine ⟨m + 1, by omega, i_ext2 (by omega), ⟨(by repeat (first | with_reducible refine Below.setCell ?_ (by first | omega | (simp <;> omega)) _ | with_reducible refine Below.drews ?_ | with_reducible refine Below.drew ?_ | with_reducible refine Below.alloc ?_ (by first | omega | (simp <;> omega)) _ | with_reducible refine Below.on ?_ E1.out (by first | omega | (simp <;> omega)) | with_reducible exact BR.out | with_reducible exact Below.refl _ _))⟩, ⟨h2'.set3 (by omega) _ _ _⟩, ⟨?_⟩⟩
        rw [hX, hY, hZ]
        exact h3'.set X' Y' Z'
      case measure => simp [intOf]; omega
    · obtain rfl : m = n := by omega
      have e0 := h3.out.a0.cell
      have e1 := h3.out.a1.cell
      have e2 := h3.out.a2.cell
      have d0 := h2.out.a0.cell
      have d1 := h2.out.a1.cell
      have u0 := h2.out.a0.free
      have u1 := h2.out.a1.free
      have sB := BR.out.size
      go_wp2_with (first | (go_at_call 43; refine (KP.out _).mono ?_; rintro ex w5 ⟨rfl, b5⟩; have s0 := Hb.mk (At.keep b5 d0 u0); have s1 := Hb.mk (At.keep b5 d1 u1); obtain ⟨s0c, s0z, s0l⟩ := s0.out; obtain ⟨s1c, s1z, s1l⟩ := s1.out; have E5 := Hb.mk b5; clear b5))
      exact bodyPost_ret (v := plT X Y ok) (by simp [results, Try.results13, go_sem, s0c, s1c]) rfl ⟨rfl, (by repeat (first | with_reducible refine Below.setCell ?_ (by first | omega | (simp <;> omega)) _ | with_reducible refine Below.drews ?_ | with_reducible refine Below.drew ?_ | with_reducible refine Below.alloc ?_ (by first | omega | (simp <;> omega)) _ | with_reducible refine Below.on ?_ E5.out (by first | omega | (simp <;> omega)) | with_reducible exact BR.out | with_reducible exact Below.refl _ _))⟩
theorem iMean_no {g n : Nat} {ys : List Nat} (w : World) (hr : FRow w (some ⟨g, 0, none⟩) ys) (hw : Wf ys) (hn : ys.length = 2 * n) (hl : n ≤ 1048576) (ha : arePl ys n = false) : Calls Try.prog 13 #[.slice (some ⟨g, 0, none⟩) n n] w (RS (plT 0 0 false) w) := by
  have HA := Hb.mk (fun (w' : World) (hr' : FRow w' (some ⟨g, 0, none⟩) ys) => (ha ▸ iArePl_any w' hr' hw hn hl : Calls Try.prog 40 #[.slice (some ⟨g, 0, none⟩) n n] w' (RS (.bool false) w')))
  have HR := Hf.mk hr
  clear hr hw hn ha
  have B0 := Hb.mk (Below.refl w.heap.size w)
  go_enter Try.func13, Try.ntmps13
  go_wp2_with (first | (go_at_call 40; refine (HA.out _ (HR.out.below (by repeat (first | exact Below.refl _ _ | with_reducible assumption | refine Below.drews ?_ | refine Below.drew ?_ | refine Below.alloc ?_ (by simp <;> omega) _ | refine Below.setCell ?_ (by simp <;> omega) _)))).mono ?_; rintro ex w1 ⟨rfl, b1⟩; have B1 := Hb.mk (Below.on (B := w.heap.size) (a := w) (by repeat (first | exact B0.out | refine Below.drews ?_ | refine Below.drew ?_ | refine Below.alloc ?_ (by have hq_ := B0.out.size; first | omega | (simp <;> omega)) _ | refine Below.setCell ?_ (by have hq_ := B0.out.size; first | omega | (simp <;> omega)) _)) b1 (by have hq_ := B0.out.size; first | omega | (simp <;> omega))); have r0 := Hb.mk (At.keep b1 (p := ⟨w.heap.size, 0, none⟩) (v := .float .f32 0) (by simp [go_sem]) (by simp [go_sem])); obtain ⟨r0c, r0z, r0l⟩ := r0.out; have r1 := Hb.mk (At.keep b1 (p := ⟨w.heap.size, 1, none⟩) (v := .float .f32 0) (by simp [go_sem]) (by simp [go_sem])); obtain ⟨r1c, r1z, r1l⟩ := r1.out; clear b1))
  exact bodyPost_ret (v := plT 0 0 false) (by simp [results, Try.results13, go_sem, r0c, r1c]) rfl ⟨rfl, (by repeat (first | with_reducible refine Below.setCell ?_ (by first | omega | (simp <;> omega)) _ | with_reducible refine Below.drews ?_ | with_reducible refine Below.drew ?_ | with_reducible refine Below.alloc ?_ (by first | omega | (simp <;> omega)) _ | with_reducible exact B1.out | with_reducible exact Below.refl _ _))⟩
theorem pair_MeanPlace {n : Nat} {ys : List Nat} (hw : Wf ys) (hn : ys.length = 2 * n) (hl : n ≤ 1048576) : ∃ X Y ok, Hb (∀ (g : Nat) (w : World), FRow w (some ⟨g, 0, none⟩) ys → Calls Try.prog 11 #[.slice (some ⟨g, 0, none⟩) n n] w (RS (plT X Y ok) w)) ∧ Hb (∀ (g : Nat) (w : World), FRow w (some ⟨g, 0, none⟩) ys → Calls Try.prog 13 #[.slice (some ⟨g, 0, none⟩) n n] w (RS (plT X Y ok) w)) ∧ Fl .f32 X X ∧ Fl .f32 Y Y := by
  cases ha : arePl ys n
  · exact ⟨_, _, _, ⟨fun g w hr => sMean_no w hr hw hn hl ha⟩, ⟨fun g w hr => iMean_no w hr hw hn hl ha⟩, fl0, fl0⟩
  · obtain ⟨k1, k64, hv⟩ := arePl_of ha
    have hs := wb_sum hw hn hv k64 (m := n) (Nat.le_refl _)
    cases hk : placeOk (sumF (wX ys) n) (sumF (wY ys) n) (sumF (wZ ys) n)
    · exact ⟨_, _, _, ⟨fun g w hr => sMean_yes w hr hw hn hl ha ⟨l02From_no hs.fx hs.fy hs.fz hk⟩⟩, ⟨fun g w hr => iMean_yes w hr hw hn hl ha ⟨iPlaceOfWay_no hs.fx hs.fy hs.fz hk⟩⟩, fl0, fl0⟩
    · obtain ⟨g1, g2⟩ := place_fls hk
      exact ⟨_, _, _, ⟨fun g w hr => sMean_yes w hr hw hn hl ha ⟨l02From_yes hs.fx hs.fy hs.fz hk⟩⟩, ⟨fun g w hr => iMean_yes w hr hw hn hl ha ⟨iPlaceOfWay_yes hs.fx hs.fy hs.fz hk⟩⟩, g1, g2⟩
set_option maxHeartbeats 2000000 in
theorem law_MeanPlace {a : Option Addr} {cap n : Nat} {ys : List Nat} (w : World) (hr : FRow w a ys) (hw : Wf ys) (hn : ys.length = 2 * n) (hm : n ≤ 9223372036854775807) : Calls Try.prog 3 #[.slice a n cap] w (RS (.bool true) w) := by
  have HR := Hf.mk hr
  have HW := Hf.mk hw
  have HN := Hf.mk hn
  have B0 := Hb.mk (Below.refl w.heap.size w)
  by_cases hl : n ≤ 1048576
  · have KZ := Hf.mk (szPS_yes (a := a) (cap := cap) hl)
    obtain ⟨X, Y, ok, KS, KG, hf, hg⟩ := pair_MeanPlace hw hn hl
    have KE := Hf.mk (eqPlace_any hf hg hf hg)
    clear hr hw hn hf hg
    cases ok
    all_goals
      go_enter Try.func3, Try.ntmps3
      have tk_a : True := trivial; have tk_b : True := trivial; have tk_c : True := trivial
      go_wp2_with (first
        | (go_at_call 10; refine (KZ.out _).mono ?_; rintro e w' ⟨rfl, n0, rfl⟩)
        | (go_at_call 12; clear tk_a; refine (toPS_any _ (HR.out.drew _) HN.out hl).mono ?_; rintro e w1 ⟨rfl, o1, b1⟩; have O1 := Hf.mk o1; have B1 := Hb.mk (Below.on (B := w.heap.size) (a := w) (by repeat (first | exact B0.out | refine Below.drews ?_ | refine Below.drew ?_ | refine Below.alloc ?_ (by have hq_ := B0.out.size; first | omega | (simp <;> omega)) _ | refine Below.setCell ?_ (by have hq_ := B0.out.size; first | omega | (simp <;> omega)) _)) b1 (by have hq_ := B0.out.size; first | omega | (simp <;> omega))); clear o1 b1)
        | (go_at_call 11; refine (KS.out _ _ O1.out).mono ?_; rintro e w2 ⟨rfl, b2⟩; have B2 := Hb.mk (Below.on (B := w.heap.size) (a := w) (by repeat (first | exact B1.out | refine Below.drews ?_ | refine Below.drew ?_ | refine Below.alloc ?_ (by have hq_ := B1.out.size; first | omega | (simp <;> omega)) _ | refine Below.setCell ?_ (by have hq_ := B1.out.size; first | omega | (simp <;> omega)) _)) b2 (by have hq_ := B1.out.size; first | omega | (simp <;> omega))); clear b2)
        | (go_at_call 12; clear tk_b; refine (toPS_any _ (HR.out.below (Below.on B2.out (by repeat (first | exact Below.refl _ _ | with_reducible assumption | refine Below.drews ?_ | refine Below.drew ?_ | refine Below.alloc ?_ (by simp <;> omega) _ | refine Below.setCell ?_ (by simp <;> omega) _)) B2.out.size)) HN.out hl).mono ?_; rintro e w3 ⟨rfl, o3, b3⟩; have O3 := Hf.mk (show FRow w3 (some ⟨w2.heap.size + 1, 0, none⟩) ys by simpa using o3); have B3 := Hb.mk (Below.on (B := w.heap.size) (a := w) (by repeat (first | exact B2.out | refine Below.drews ?_ | refine Below.drew ?_ | refine Below.alloc ?_ (by have hq_ := B2.out.size; first | omega | (simp <;> omega)) _ | refine Below.setCell ?_ (by have hq_ := B2.out.size; first | omega | (simp <;> omega)) _)) b3 (by have hq_ := B2.out.size; first | omega | (simp <;> omega))); have p0 := Hb.mk (At.keep b3 (p := ⟨w2.heap.size, 0, none⟩) (v := .float .f32 X) (by simp [go_sem]) (by simp [go_sem])); obtain ⟨p0c, p0z, p0l⟩ := p0.out; have p1 := Hb.mk (At.keep b3 (p := ⟨w2.heap.size, 1, none⟩) (v := .float .f32 Y) (by simp [go_sem]) (by simp [go_sem])); obtain ⟨p1c, p1z, p1l⟩ := p1.out; clear o3 b3)
        | (go_at_call 13; refine (KG.out _ _ O3.out).mono ?_; rintro e w4 ⟨rfl, b4⟩; have O4 := Hf.mk (O3.out.below b4); have B4 := Hb.mk (Below.on (B := w.heap.size) (a := w) (by repeat (first | exact B3.out | refine Below.drews ?_ | refine Below.drew ?_ | refine Below.alloc ?_ (by have hq_ := B3.out.size; first | omega | (simp <;> omega)) _ | refine Below.setCell ?_ (by have hq_ := B3.out.size; first | omega | (simp <;> omega)) _)) b4 (by have hq_ := B3.out.size; first | omega | (simp <;> omega))); have p0 := Hb.mk (At.re p0.out b4 (by first | exact p0c | simp [go_sem, p0c, p0l]) (by first | exact p0z | simp [go_sem, p0z, p0l])); obtain ⟨p0c, p0z, p0l⟩ := p0.out; have p1 := Hb.mk (At.re p1.out b4 (by first | exact p1c | simp [go_sem, p1c, p1l]) (by first | exact p1z | simp [go_sem, p1z, p1l])); obtain ⟨p1c, p1z, p1l⟩ := p1.out; clear b4)
        | (go_at_call 14; refine (KE.out _).mono ?_; rintro e w5 ⟨rfl, b5⟩; have O4b := Hf.mk ((O4.out.below (by repeat (first | exact Below.refl _ _ | with_reducible assumption | refine Below.drews ?_ | refine Below.drew ?_ | refine Below.alloc ?_ (by simp <;> omega) _ | refine Below.setCell ?_ (by simp <;> omega) _))).below b5); have B5 := Hb.mk (Below.on (B := w.heap.size) (a := w) (by repeat (first | exact B4.out | refine Below.drews ?_ | refine Below.drew ?_ | refine Below.alloc ?_ (by have hq_ := B4.out.size; first | omega | (simp <;> omega)) _ | refine Below.setCell ?_ (by have hq_ := B4.out.size; first | omega | (simp <;> omega)) _)) b5 (by have hq_ := B4.out.size; first | omega | (simp <;> omega))); clear b5)
        | (go_at_call 12; clear tk_c; refine (toPS_any _ (HR.out.below B5.out) HN.out hl).mono ?_; rintro e w6 ⟨rfl, o6, b6⟩; have O6 := Hf.mk o6; have O7 := Hf.mk (O4b.out.below b6); have B6 := Hb.mk (Below.on (B := w.heap.size) (a := w) (by repeat (first | exact B5.out | refine Below.drews ?_ | refine Below.drew ?_ | refine Below.alloc ?_ (by have hq_ := B5.out.size; first | omega | (simp <;> omega)) _ | refine Below.setCell ?_ (by have hq_ := B5.out.size; first | omega | (simp <;> omega)) _)) b6 (by have hq_ := B5.out.size; first | omega | (simp <;> omega))); clear o6 b6)
        | (go_at_call 15; refine (eqPS_any _ O7.out O6.out HW.out HN.out hl).mono ?_; rintro e w7 ⟨rfl, b7⟩; have B7 := Hb.mk (Below.on (B := w.heap.size) (a := w) (by repeat (first | exact B6.out | refine Below.drews ?_ | refine Below.drew ?_ | refine Below.alloc ?_ (by have hq_ := B6.out.size; first | omega | (simp <;> omega)) _ | refine Below.setCell ?_ (by have hq_ := B6.out.size; first | omega | (simp <;> omega)) _)) b7 (by have hq_ := B6.out.size; first | omega | (simp <;> omega))); clear b7))
      go_ret
      exact ⟨rfl, (by repeat (first | with_reducible refine Below.setCell ?_ (by first | omega | (simp <;> omega)) _ | with_reducible refine Below.drews ?_ | with_reducible refine Below.drew ?_ | with_reducible refine Below.alloc ?_ (by first | omega | (simp <;> omega)) _ | with_reducible exact B7.out | with_reducible exact Below.refl _ _))⟩
  · have KZ := Hf.mk (szPS_no (a := a) (cap := cap) (n := n) (by omega) hm)
    go_enter Try.func3, Try.ntmps3
    go_wp2_with (first | (go_at_call 10; refine (KZ.out _).mono ?_; rintro e w' ⟨rfl, n0, rfl⟩))
    go_ret
    exact ⟨rfl, (by repeat (first | with_reducible refine Below.setCell ?_ (by first | omega | (simp <;> omega)) _ | with_reducible refine Below.drews ?_ | with_reducible refine Below.drew ?_ | with_reducible refine Below.alloc ?_ (by first | omega | (simp <;> omega)) _ | with_reducible exact B0.out | with_reducible exact Below.refl _ _))⟩
end Go.Proofs.Ytjjhklfpdllijab
