/-
  NearestPlace, of the program and of its model; its exact law. No condition.
-/
import Derived.Test.YtjjhklfpdllijabPle
import Derived.Test.YtjjhklfpdllijabApt
import Derived.WalkMore
namespace Go.Proofs.Ytjjhklfpdllijab
open Go Go.RowKit
set_option maxRecDepth 100000

def near (f : Nat → Nat) : Nat → Nat × Nat
  | 0 => (0, f 0)
  | m + 1 => if fcmp .lss .f32 (f (m + 1)) (near f m).2 = true then (m + 1, f (m + 1)) else near f m
def nearS (f : Nat → Nat) : Nat → Nat × Nat
  | 0 => (0, 0)
  | m + 1 => near f m
theorem near_lt {f : Nat → Nat} {m : Nat} (h : fcmp .lss .f32 (f (m + 1)) (near f m).2 = true) : near f (m + 1) = (m + 1, f (m + 1)) := by show (if _ then _ else _) = _; rw [if_pos h]
theorem near_ge {f : Nat → Nat} {m : Nat} (h : fcmp .lss .f32 (f (m + 1)) (near f m).2 = false) : near f (m + 1) = near f m := by show (if _ then _ else _) = _; rw [if_neg (by rw [h]; decide)]
/-- no not-a-number, and no sign -/
structure Pos (c : Nat) : Prop where
  fin : fin .f32 c = true
  sg : sgn .f32 c = false
  fl : Fl .f32 c c
theorem near_pos {f : Nat → Nat} {n : Nat} (h : ∀ i, i < n → Pos (f i)) : ∀ m, m < n → Pos (near f m).2 := by
  intro m
  induction m with
  | zero => intro hm; exact h 0 hm
  | succ m ih =>
    intro hm
    cases hc : fcmp .lss .f32 (f (m + 1)) (near f m).2
    · rw [near_ge hc]; exact ih (by omega)
    · rw [near_lt hc]; exact h _ hm
theorem pos_ge {c d : Nat} (hc : Pos c) (hd : Pos d) (hz : fcmp .eql .f32 d 0 = true) : fcmp .lss .f32 c d = false := by
  rw [eql_zero hd.fin, decide_eq_true_eq] at hz
  rw [(fcmp_fin hc.fin hd.fin).1, decide_eq_false_iff_not]
  rw [sv_pos hc.sg, sv_pos hd.sg, hz]
  have := val_le (f := FloatKind.f32.format) (Nat.zero_le (rung .f32 c))
  omega
theorem near_stop {f : Nat → Nat} {n m : Nat} (h : ∀ i, i < n → Pos (f i)) (hm : m < n) (hz : fcmp .eql .f32 (near f m).2 0 = true) : ∀ k, m ≤ k → k < n → near f k = near f m := by
  intro k
  induction k with
  | zero => intro h1 _; rw [show m = 0 by omega]
  | succ k ih =>
    intro h1 h2
    by_cases he : m = k + 1
    · rw [he]
    · have e := ih (by omega) (by omega)
      rw [near_ge, e]
      rw [e]
      exact pos_ge (h _ h2) (near_pos h m hm) hz
def aptAt (ys : List Nat) (pn pe i : Nat) : Nat := aptC (wxC (nW ys i) (eW ys i)) (wyC (nW ys i) (eW ys i)) (sineC (nW ys i)) (wxC pn pe) (wyC pn pe) (sineC pn)
theorem apt_pos {a b c x y z : Nat} (h : Wb a b c 1082130432) (g : Wb x y z 1082130432) : Pos (aptC a b c x y z) := by
  have ha := Apt.of h g
  exact ⟨ha.ap.fin, (angle_ab ha.lf ha.d.fin).2.2 ha.lz, ha.fa⟩
theorem aptAt_pos {ys : List Nat} {n pn pe : Nat} (hw : Wf ys) (hn : ys.length = 2 * n) (h : ∀ i, i < n → vAt ys i = true) (hp : validC pn pe = true) : ∀ i, i < n → Pos (aptAt ys pn pe i) := by
  intro i hi
  obtain ⟨_, _, v⟩ := vEx hw hn hi (h i hi)
  obtain ⟨a1, a2⟩ := turns_of v
  obtain ⟨b1, b2⟩ := turns_of hp
  exact apt_pos (Wb.way a1 a2) (Wb.way b1 b2)
/-- an index, a number, and whether there is one -/
abbrev neT (i c : Nat) (b : Bool) : Value := .tuple #[.int .i64 (i : Int), .float .f32 c, .bool b]
set_option maxHeartbeats 4000000 in
theorem sNear_yes {g n pn pe : Nat} {ys : List Nat} (w : World) (hr : FRow w (some ⟨g, 0, none⟩) ys) (hw : Wf ys) (hn : ys.length = 2 * n) (hl : n ≤ 1048576) (ha : arePl ys n = true) (p1 : Fl .f32 pn pn) (p2 : Fl .f32 pe pe) (hp : validC pn pe = true) : Calls Try.prog 16 #[.slice (some ⟨g, 0, none⟩) n n, pl pn pe] w (RS (neT (near (aptAt ys pn pe) (n - 1)).1 (near (aptAt ys pn pe) (n - 1)).2 true) w) := by
  obtain ⟨k1, k64, hv⟩ := arePl_of ha
  have HP := Hf.mk (aptAt_pos hw hn hv hp)
  obtain ⟨q1, q2⟩ := turns_of hp
  have HA := Hb.mk (fun (w' : World) (hr' : FRow w' (some ⟨g, 0, none⟩) ys) => (ha ▸ l02Are_any w' hr' hw hn hl : Calls Try.prog 36 #[.slice (some ⟨g, 0, none⟩) n n] w' (RB true w')))
  have HI := Hb.mk hp
  have HR := Hf.mk hr
  have HW := Hf.mk hw
  have HN := Hf.mk hn
  have HVV := Hf.mk hv
  clear hr hw hn ha hv hp
  have B0 := Hb.mk (Below.refl w.heap.size w)
  go_enter Try.func16, Try.ntmps16
  go_wp2_with (first | (go_at_call 36; refine (HA.out _ (HR.out.below (by repeat (first | exact Below.refl _ _ | with_reducible assumption | refine Below.drews ?_ | refine Below.drew ?_ | refine Below.alloc ?_ (by simp <;> omega) _ | refine Below.setCell ?_ (by simp <;> omega) _)))).mono ?_; rintro ex w1 ⟨rfl, n1, rfl⟩) | (go_at_call 44; refine (l02Is_any p1 p2 _ (by simp) (by simp)).mono ?_; rw [HI.out]; rintro ex w2 ⟨rfl, n2, rfl⟩))
  obtain ⟨F0, G0, V0⟩ := vEx HW.out HN.out (by omega : 0 < n) (HVV.out 0 (by omega))
  obtain ⟨a1, a2⟩ := turns_of V0
  have KT0 := Hb.mk (l02Apart_any F0 G0 p1 p2 a1 a2 q1 q2)
  change Hb (∀ w, Calls Try.prog 45 #[pl (nW ys 0) (eW ys 0), pl pn pe] w (RS (.float .f32 (aptAt ys pn pe 0)) w)) at KT0
  have BX : Below w.heap.size w ((World.alloc w (.cells #[.float .f32 pn, .float .f32 pe] 26)).drewN (n1 + n2)) := (by repeat (first | exact Below.refl _ _ | with_reducible assumption | refine Below.drews ?_ | refine Below.drew ?_ | refine Below.alloc ?_ (by simp <;> omega) _ | refine Below.setCell ?_ (by simp <;> omega) _))
  obtain ⟨c0, c1⟩ := (HR.out.below BX).twoAt HN.out (by omega : 0 < n)
  simp only [Nat.zero_mul, Nat.zero_add] at c0 c1
  refine region_all (by kernel_rfl) (by kernel_rfl) (fun I F hne HB hcl => ?_)
  have v0 : 0 < n := by omega
  have r0 := keepF HB (p := ⟨g, 0, none⟩) (v := .float .f32 (nW ys 0)) (by first | exact c0 | simpa using c0)
  have r1 := keepF HB (p := ⟨g, 1, none⟩) (v := .float .f32 (eW ys 0)) (by first | exact c1 | simpa using c1)
  have r2 := keepF HB (p := ⟨w.heap.size, 0, none⟩) (v := .float .f32 pn) (by simp)
  have r3 := keepF HB (p := ⟨w.heap.size, 1, none⟩) (v := .float .f32 pe) (by simp)
  have rz0 := keepZ HB (p := ⟨w.heap.size, 0, none⟩) (by simp) (by simp)
  repeat (quiet_step (first | (go_at_call 45; exact callS hcl (KT0.out _))))
  refine wpQuiet_nil ?_
  intro _ hw'
  obtain ⟨i0, rfl⟩ := hw'
  have BW := Hb.mk (Below.on BX (HB.out i0) BX.size)
  have d0 := r2 i0
  have d1 := r3 i0
  clear hcl r0 r1 r2 r3 rz0 c0 c1 BX
  generalize F i0 = W at *
  go_wp2
  go_loopw [7, 8, 9] (fun b s i wr => ∃ m : Nat, m < n ∧ b = .int .i64 ((near (aptAt ys pn pe) m).1 : Int) ∧ s = .float .f32 (near (aptAt ys pn pe) m).2 ∧ i = .int .i64 ((m : Int) + 1) ∧ Hf (Below W.heap.size W wr)) (fun _ _ i _ => n - (intOf i).toNat)
  case atStart => exact ⟨0, by omega, rfl, rfl, rfl, ⟨Below.refl _ _⟩⟩
  case round =>
    obtain ⟨m, hm, rfl, rfl, rfl, hb⟩ := hrel
    by_cases hlt : m + 1 < n
    · have hBB := Below.on BW.out hb.out BW.out.size
      obtain ⟨c2, c3⟩ := (HR.out.below hBB).twoAt HN.out hlt
      obtain ⟨F1, G1, V1⟩ := vEx HW.out HN.out hlt (HVV.out _ hlt)
      obtain ⟨b1, b2⟩ := turns_of V1
      have KT := Hb.mk (l02Apart_any F1 G1 p1 p2 b1 b2 q1 q2)
      change Hb (∀ w, Calls Try.prog 45 #[pl (nW ys (m + 1)) (eW ys (m + 1)), pl pn pe] w (RS (.float .f32 (aptAt ys pn pe (m + 1))) w)) at KT
      have d2 := Below.keep hb.out d0
      have d3 := Below.keep hb.out d1
      have f1 := (HP.out (m + 1) hlt).fl
      have f2 := (near_pos HP.out m hm).fl
      have BR := Hb.mk hb.out
      clear F1 G1 V1 b1 b2 hBB
      go_wp2
      refine region_all (by kernel_rfl) (by kernel_rfl) (fun I1 F1 hne1 HB1 hcl1 => ?_)
      have w0 := keepF HB1 c2
      have w1 := keepF HB1 c3
      have w2 := keepF HB1 d2
      have w3 := keepF HB1 d3
      have v0 : m + 1 < n := hlt
      have i1 : (m : Int) + 1 < (n : Int) := by omega
      have j1 : (0 : Int) ≤ (m : Int) + 1 := by omega
      have t1 : ((m : Int) + 1).toNat = m + 1 := by omega
      repeat (quiet_step (first | (go_at_call 45; exact callS hcl1 (KT.out _))))
      refine wpQuiet_nil ?_
      intro _ hw'
      obtain ⟨iq, rfl⟩ := hw'
      clear hcl1 w0 w1 w2 w3 v0 i1 j1 t1
      have E1 := Hb.mk (HB1.out iq)
      have sB := BR.out.size
      cases hc : fcmp .lss .f32 (aptAt ys pn pe (m + 1)) (near (aptAt ys pn pe) m).2
      · have hN := Hb.mk (near_ge hc)
        go_wp2_with (first | (refine wpList_fcmp rfl rfl rfl rfl rfl (by first | (with_reducible assumption) | (with_reducible exact Fl.ofInt _ _) | exact Fl.not (by decide +kernel) (by decide +kernel)) (by first | (with_reducible assumption) | (with_reducible exact Fl.ofInt _ _) | exact Fl.not (by decide +kernel) (by decide +kernel)) ?_; simp only [Act.put, List.setIfInBounds_toArray, List.set_cons_succ, List.set_cons_zero, hc]))
        go_roundw
        case rel => exact ⟨m + 1, by omega, by rw [hN.out], by rw [hN.out], i_ext2 (by omega), ⟨(by repeat (first | with_reducible refine Below.setCell ?_ (by first | omega | (simp <;> omega)) _ | with_reducible refine Below.drews ?_ | with_reducible refine Below.drew ?_ | with_reducible refine Below.alloc ?_ (by first | omega | (simp <;> omega)) _ | with_reducible refine Below.on ?_ E1.out (by first | omega | (simp <;> omega)) | with_reducible exact BR.out | with_reducible exact Below.refl _ _))⟩⟩
        case measure => simp [intOf]; omega
      · have hN := Hb.mk (near_lt hc)
        go_wp2_with (first | (refine wpList_fcmp rfl rfl rfl rfl rfl (by first | (with_reducible assumption) | (with_reducible exact Fl.ofInt _ _) | exact Fl.not (by decide +kernel) (by decide +kernel)) (by first | (with_reducible assumption) | (with_reducible exact Fl.ofInt _ _) | exact Fl.not (by decide +kernel) (by decide +kernel)) ?_; simp only [Act.put, List.setIfInBounds_toArray, List.set_cons_succ, List.set_cons_zero, hc]))
        go_roundw
        case rel => exact ⟨m + 1, by omega, by rw [hN.out]; exact i_ext2 (by omega), by rw [hN.out], i_ext2 (by omega), ⟨(by repeat (first | with_reducible refine Below.setCell ?_ (by first | omega | (simp <;> omega)) _ | with_reducible refine Below.drews ?_ | with_reducible refine Below.drew ?_ | with_reducible refine Below.alloc ?_ (by first | omega | (simp <;> omega)) _ | with_reducible refine Below.on ?_ E1.out (by first | omega | (simp <;> omega)) | with_reducible exact BR.out | with_reducible exact Below.refl _ _))⟩⟩
        case measure => simp [intOf]; omega
    · have hmn : n - 1 = m := by omega
      have E1 := Hb.mk hb.out
      have sB := BW.out.size
      go_wp2
      go_ret3
      rw [hmn]
      exact ⟨rfl, (by repeat (first | with_reducible refine Below.setCell ?_ (by first | omega | (simp <;> omega)) _ | with_reducible refine Below.drews ?_ | with_reducible refine Below.drew ?_ | with_reducible refine Below.alloc ?_ (by first | omega | (simp <;> omega)) _ | with_reducible refine Below.on ?_ E1.out (by first | omega | (simp <;> omega)) | with_reducible exact BW.out | with_reducible exact Below.refl _ _))⟩
theorem sNear_no0 {g n : Nat} {ys : List Nat} (w : World) (hr : FRow w (some ⟨g, 0, none⟩) ys) (hw : Wf ys) (hn : ys.length = 2 * n) (hl : n ≤ 1048576) {rn re : Nat} (ha : arePl ys n = false) : Calls Try.prog 16 #[.slice (some ⟨g, 0, none⟩) n n, pl rn re] w (RS (neT 0 0 false) w) := by
  have HA := Hb.mk (fun (w' : World) (hr' : FRow w' (some ⟨g, 0, none⟩) ys) => (ha ▸ l02Are_any w' hr' hw hn hl : Calls Try.prog 36 #[.slice (some ⟨g, 0, none⟩) n n] w' (RB false w')))
  have HR := Hf.mk hr
  clear hr hw hn ha
  have B0 := Hb.mk (Below.refl w.heap.size w)
  go_enter Try.func16, Try.ntmps16
  go_wp2_with (first | (go_at_call 36; refine (HA.out _ (HR.out.below (by repeat (first | exact Below.refl _ _ | with_reducible assumption | refine Below.drews ?_ | refine Below.drew ?_ | refine Below.alloc ?_ (by simp <;> omega) _ | refine Below.setCell ?_ (by simp <;> omega) _)))).mono ?_; rintro ex w1 ⟨rfl, n1, rfl⟩))
  go_ret3
  exact ⟨rfl, (by repeat (first | with_reducible refine Below.setCell ?_ (by first | omega | (simp <;> omega)) _ | with_reducible refine Below.drews ?_ | with_reducible refine Below.drew ?_ | with_reducible refine Below.alloc ?_ (by first | omega | (simp <;> omega)) _ | with_reducible exact B0.out | with_reducible exact Below.refl _ _))⟩
theorem sNear_no1 {g n pn pe : Nat} {ys : List Nat} (w : World) (hr : FRow w (some ⟨g, 0, none⟩) ys) (hw : Wf ys) (hn : ys.length = 2 * n) (hl : n ≤ 1048576) {rn re : Nat} (ha : arePl ys n = true) (p1 : Fl .f32 pn rn) (p2 : Fl .f32 pe re) (hp : validC pn pe = false) : Calls Try.prog 16 #[.slice (some ⟨g, 0, none⟩) n n, pl rn re] w (RS (neT 0 0 false) w) := by
  have HA := Hb.mk (fun (w' : World) (hr' : FRow w' (some ⟨g, 0, none⟩) ys) => (ha ▸ l02Are_any w' hr' hw hn hl : Calls Try.prog 36 #[.slice (some ⟨g, 0, none⟩) n n] w' (RB true w')))
  have HI := Hb.mk hp
  have HR := Hf.mk hr
  clear hr hw hn ha hp
  have B0 := Hb.mk (Below.refl w.heap.size w)
  go_enter Try.func16, Try.ntmps16
  go_wp2_with (first | (go_at_call 36; refine (HA.out _ (HR.out.below (by repeat (first | exact Below.refl _ _ | with_reducible assumption | refine Below.drews ?_ | refine Below.drew ?_ | refine Below.alloc ?_ (by simp <;> omega) _ | refine Below.setCell ?_ (by simp <;> omega) _)))).mono ?_; rintro ex w1 ⟨rfl, n1, rfl⟩) | (go_at_call 44; refine (l02Is_any p1 p2 _ (by simp) (by simp)).mono ?_; rw [HI.out]; rintro ex w2 ⟨rfl, n2, rfl⟩))
  go_ret3
  exact ⟨rfl, (by repeat (first | with_reducible refine Below.setCell ?_ (by first | omega | (simp <;> omega)) _ | with_reducible refine Below.drews ?_ | with_reducible refine Below.drew ?_ | with_reducible refine Below.alloc ?_ (by first | omega | (simp <;> omega)) _ | with_reducible exact B0.out | with_reducible exact Below.refl _ _))⟩
theorem iNear_no0 {g n : Nat} {ys : List Nat} (w : World) (hr : FRow w (some ⟨g, 0, none⟩) ys) (hw : Wf ys) (hn : ys.length = 2 * n) (hl : n ≤ 1048576) {rn re : Nat} (ha : arePl ys n = false) : Calls Try.prog 18 #[.slice (some ⟨g, 0, none⟩) n n, pl rn re] w (RS (neT 0 0 false) w) := by
  have HA := Hb.mk (fun (w' : World) (hr' : FRow w' (some ⟨g, 0, none⟩) ys) => (ha ▸ iArePl_any w' hr' hw hn hl : Calls Try.prog 40 #[.slice (some ⟨g, 0, none⟩) n n] w' (RS (.bool false) w')))
  have HR := Hf.mk hr
  clear hr hw hn ha
  have B0 := Hb.mk (Below.refl w.heap.size w)
  go_enter Try.func18, Try.ntmps18
  go_wp2
  go_step3
  go_wp2_with (first | (go_at_call 40; refine (HA.out _ (HR.out.below (by repeat (first | exact Below.refl _ _ | with_reducible assumption | refine Below.drews ?_ | refine Below.drew ?_ | refine Below.alloc ?_ (by simp <;> omega) _ | refine Below.setCell ?_ (by simp <;> omega) _)))).mono ?_; rintro ex w1 ⟨rfl, b1⟩; have B1 := Hb.mk (Below.on (B := w.heap.size) (a := w) (by repeat (first | exact B0.out | refine Below.drews ?_ | refine Below.drew ?_ | refine Below.alloc ?_ (by have hq_ := B0.out.size; first | omega | (simp <;> omega)) _ | refine Below.setCell ?_ (by have hq_ := B0.out.size; first | omega | (simp <;> omega)) _)) b1 (by have hq_ := B0.out.size; first | omega | (simp <;> omega))); have p0 := Hb.mk (At.keep b1 (p := ⟨w.heap.size, 0, none⟩) (v := .float .f32 rn) (by simp [go_sem]) (by simp [go_sem])); obtain ⟨p0c, p0z, p0l⟩ := p0.out; have p1 := Hb.mk (At.keep b1 (p := ⟨w.heap.size, 1, none⟩) (v := .float .f32 re) (by simp [go_sem]) (by simp [go_sem])); obtain ⟨p1c, p1z, p1l⟩ := p1.out; clear b1))
  rw [Exit.noGoto_ret]
  go_ret3
  exact ⟨rfl, (by repeat (first | with_reducible refine Below.setCell ?_ (by first | omega | (simp <;> omega)) _ | with_reducible refine Below.drews ?_ | with_reducible refine Below.drew ?_ | with_reducible refine Below.alloc ?_ (by first | omega | (simp <;> omega)) _ | with_reducible exact B1.out | with_reducible exact Below.refl _ _))⟩
theorem iNear_no1 {g n pn pe : Nat} {ys : List Nat} (w : World) (hr : FRow w (some ⟨g, 0, none⟩) ys) (hw : Wf ys) (hn : ys.length = 2 * n) (hl : n ≤ 1048576) {rn re : Nat} (ha : arePl ys n = true) (p1 : Fl .f32 pn rn) (p2 : Fl .f32 pe re) (hp : validC pn pe = false) : Calls Try.prog 18 #[.slice (some ⟨g, 0, none⟩) n n, pl rn re] w (RS (neT 0 0 false) w) := by
  have HA := Hb.mk (fun (w' : World) (hr' : FRow w' (some ⟨g, 0, none⟩) ys) => (ha ▸ iArePl_any w' hr' hw hn hl : Calls Try.prog 40 #[.slice (some ⟨g, 0, none⟩) n n] w' (RS (.bool true) w')))
  have KV := iValidPlace_any p1 p2
  rw [hp] at KV
  have HI := Hb.mk KV
  clear KV
  have HR := Hf.mk hr
  clear hr hw hn ha hp
  have B0 := Hb.mk (Below.refl w.heap.size w)
  go_enter Try.func18, Try.ntmps18
  go_wp2
  go_step3
  go_wp2_with (first | (go_at_call 40; refine (HA.out _ (HR.out.below (by repeat (first | exact Below.refl _ _ | with_reducible assumption | refine Below.drews ?_ | refine Below.drew ?_ | refine Below.alloc ?_ (by simp <;> omega) _ | refine Below.setCell ?_ (by simp <;> omega) _)))).mono ?_; rintro ex w1 ⟨rfl, b1⟩; have B1 := Hb.mk (Below.on (B := w.heap.size) (a := w) (by repeat (first | exact B0.out | refine Below.drews ?_ | refine Below.drew ?_ | refine Below.alloc ?_ (by have hq_ := B0.out.size; first | omega | (simp <;> omega)) _ | refine Below.setCell ?_ (by have hq_ := B0.out.size; first | omega | (simp <;> omega)) _)) b1 (by have hq_ := B0.out.size; first | omega | (simp <;> omega))); have p0 := Hb.mk (At.keep b1 (p := ⟨w.heap.size, 0, none⟩) (v := .float .f32 rn) (by simp [go_sem]) (by simp [go_sem])); obtain ⟨p0c, p0z, p0l⟩ := p0.out; have p1 := Hb.mk (At.keep b1 (p := ⟨w.heap.size, 1, none⟩) (v := .float .f32 re) (by simp [go_sem]) (by simp [go_sem])); obtain ⟨p1c, p1z, p1l⟩ := p1.out; clear b1) | (go_at_call 46; refine (HI.out _).mono ?_; rintro ex w2 ⟨rfl, b2⟩; have B2 := Hb.mk (Below.on (B := w.heap.size) (a := w) (by repeat (first | exact B1.out | refine Below.drews ?_ | refine Below.drew ?_ | refine Below.alloc ?_ (by have hq_ := B1.out.size; first | omega | (simp <;> omega)) _ | refine Below.setCell ?_ (by have hq_ := B1.out.size; first | omega | (simp <;> omega)) _)) b2 (by have hq_ := B1.out.size; first | omega | (simp <;> omega))); clear b2))
  rw [Exit.noGoto_ret]
  go_ret3
  exact ⟨rfl, (by repeat (first | with_reducible refine Below.setCell ?_ (by first | omega | (simp <;> omega)) _ | with_reducible refine Below.drews ?_ | with_reducible refine Below.drew ?_ | with_reducible refine Below.alloc ?_ (by first | omega | (simp <;> omega)) _ | with_reducible exact B2.out | with_reducible exact Below.refl _ _))⟩
set_option maxHeartbeats 4000000 in
theorem iNear_yes {g n pn pe : Nat} {ys : List Nat} (w : World) (hr : FRow w (some ⟨g, 0, none⟩) ys) (hw : Wf ys) (hn : ys.length = 2 * n) (hl : n ≤ 1048576) (ha : arePl ys n = true) (p1 : Fl .f32 pn pn) (p2 : Fl .f32 pe pe) (hp : validC pn pe = true) : Calls Try.prog 18 #[.slice (some ⟨g, 0, none⟩) n n, pl pn pe] w (RS (neT (near (aptAt ys pn pe) (n - 1)).1 (near (aptAt ys pn pe) (n - 1)).2 true) w) := by
  obtain ⟨k1, k64, hv⟩ := arePl_of ha
  have HP := Hf.mk (aptAt_pos hw hn hv hp)
  obtain ⟨q1, q2⟩ := turns_of hp
  have HA := Hb.mk (fun (w' : World) (hr' : FRow w' (some ⟨g, 0, none⟩) ys) => (ha ▸ iArePl_any w' hr' hw hn hl : Calls Try.prog 40 #[.slice (some ⟨g, 0, none⟩) n n] w' (RS (.bool true) w')))
  have KV := iValidPlace_any p1 p2
  rw [hp] at KV
  have HI := Hb.mk KV
  have KPW := Hb.mk (wayOf_any p1 p2 q1 q2)
  have WP := Hb.mk (Wb.way q1 q2)
  have HR := Hf.mk hr
  have HW := Hf.mk hw
  have HN := Hf.mk hn
  have HVV := Hf.mk hv
  obtain ⟨px, hpx⟩ : ∃ x, wxC pn pe = x := ⟨_, rfl⟩
  obtain ⟨py, hpy⟩ : ∃ x, wyC pn pe = x := ⟨_, rfl⟩
  obtain ⟨pz, hpz⟩ : ∃ x, sineC pn = x := ⟨_, rfl⟩
  rw [hpx, hpy, hpz] at KPW WP
  have hxyz := Hb.mk (And.intro hpx (And.intro hpy hpz))
  clear KV hr hw hn ha hv hp hpx hpy hpz
  have B0 := Hb.mk (Below.refl w.heap.size w)
  go_enter Try.func18, Try.ntmps18
  go_wp2
  go_step3
  go_wp2_with (first
    | (go_at_call 40; refine (HA.out _ (HR.out.below (by repeat (first | exact Below.refl _ _ | with_reducible assumption | refine Below.drews ?_ | refine Below.drew ?_ | refine Below.alloc ?_ (by simp <;> omega) _ | refine Below.setCell ?_ (by simp <;> omega) _)))).mono ?_; rintro ex w1 ⟨rfl, b1⟩; have B1 := Hb.mk (Below.on (B := w.heap.size) (a := w) (by repeat (first | exact B0.out | refine Below.drews ?_ | refine Below.drew ?_ | refine Below.alloc ?_ (by have hq_ := B0.out.size; first | omega | (simp <;> omega)) _ | refine Below.setCell ?_ (by have hq_ := B0.out.size; first | omega | (simp <;> omega)) _)) b1 (by have hq_ := B0.out.size; first | omega | (simp <;> omega))); have p0 := Hb.mk (At.keep b1 (p := ⟨w.heap.size, 0, none⟩) (v := .float .f32 pn) (by simp [go_sem]) (by simp [go_sem])); obtain ⟨p0c, p0z, p0l⟩ := p0.out; have p1 := Hb.mk (At.keep b1 (p := ⟨w.heap.size, 1, none⟩) (v := .float .f32 pe) (by simp [go_sem]) (by simp [go_sem])); obtain ⟨p1c, p1z, p1l⟩ := p1.out; clear b1)
    | (go_at_call 46; refine (HI.out _).mono ?_; rintro ex w2 ⟨rfl, b2⟩; have B2 := Hb.mk (Below.on (B := w.heap.size) (a := w) (by repeat (first | exact B1.out | refine Below.drews ?_ | refine Below.drew ?_ | refine Below.alloc ?_ (by have hq_ := B1.out.size; first | omega | (simp <;> omega)) _ | refine Below.setCell ?_ (by have hq_ := B1.out.size; first | omega | (simp <;> omega)) _)) b2 (by have hq_ := B1.out.size; first | omega | (simp <;> omega))); have p0 := Hb.mk (At.re p0.out b2 (by first | exact p0c | simp [go_sem, p0c, p0l]) (by first | exact p0z | simp [go_sem, p0z, p0l])); obtain ⟨p0c, p0z, p0l⟩ := p0.out; have p1 := Hb.mk (At.re p1.out b2 (by first | exact p1c | simp [go_sem, p1c, p1l]) (by first | exact p1z | simp [go_sem, p1z, p1l])); obtain ⟨p1c, p1z, p1l⟩ := p1.out; clear b2)
    | (go_at_call 42; refine (KPW.out _).mono ?_; rintro ex w3 ⟨rfl, b3⟩; have B3 := Hb.mk (Below.on (B := w.heap.size) (a := w) (by repeat (first | exact B2.out | refine Below.drews ?_ | refine Below.drew ?_ | refine Below.alloc ?_ (by have hq_ := B2.out.size; first | omega | (simp <;> omega)) _ | refine Below.setCell ?_ (by have hq_ := B2.out.size; first | omega | (simp <;> omega)) _)) b3 (by have hq_ := B2.out.size; first | omega | (simp <;> omega))); clear b3))
  generalize hWW : World.alloc w3 _ = W
  have d0 : W.cell? ⟨w3.heap.size, 0, none⟩ = some (.float .f32 px) := by rw [← hWW]; simp
  have d1 : W.cell? ⟨w3.heap.size, 1, none⟩ = some (.float .f32 py) := by rw [← hWW]; simp
  have d2 : W.cell? ⟨w3.heap.size, 2, none⟩ = some (.float .f32 pz) := by rw [← hWW]; simp
  have s3 := B3.out.size
  have BW := Hb.mk (show Below w.heap.size w W by rw [← hWW]; exact (by repeat (first | with_reducible refine Below.setCell ?_ (by first | omega | (simp <;> omega)) _ | with_reducible refine Below.drews ?_ | with_reducible refine Below.drew ?_ | with_reducible refine Below.alloc ?_ (by first | omega | (simp <;> omega)) _ | with_reducible exact B3.out | with_reducible exact Below.refl _ _)))
  clear hWW
  generalize w3.heap.size = N at *
  go_step3
  go_wp2
  go_loopw [8, 9, 25] (fun b s i wr => ∃ m : Nat, m ≤ n ∧ b = .int .i64 ((nearS (aptAt ys pn pe) m).1 : Int) ∧ s = .float .f32 (nearS (aptAt ys pn pe) m).2 ∧ i = .int .i64 m ∧ Hf (Below W.heap.size W wr)) (fun _ _ i _ => n - (intOf i).toNat)
  case atStart => exact ⟨0, by omega, rfl, rfl, rfl, ⟨Below.refl _ _⟩⟩
  case round =>
    obtain ⟨m, hm, rfl, rfl, rfl, hb⟩ := hrel
    by_cases hlt : m < n
    · have hBB := Below.on BW.out hb.out BW.out.size
      obtain ⟨c2, c3⟩ := (HR.out.below hBB).twoAt HN.out hlt
      obtain ⟨F1, G1, V1⟩ := vEx HW.out HN.out hlt (HVV.out _ hlt)
      obtain ⟨b1, b2⟩ := turns_of V1
      have KW := Hb.mk (wayOf_any F1 G1 b1 b2)
      have KT := Hb.mk (wayApart_any (Wb.way b1 b2) WP.out)
      have eT : aptC (wxC (nW ys m) (eW ys m)) (wyC (nW ys m) (eW ys m)) (sineC (nW ys m)) px py pz = aptAt ys pn pe m := by unfold aptAt; rw [hxyz.out.1, hxyz.out.2.1, hxyz.out.2.2]
      rw [eT] at KT
      clear eT
      generalize wxC (nW ys m) (eW ys m) = x1 at *
      generalize wyC (nW ys m) (eW ys m) = y1 at *
      generalize sineC (nW ys m) = z1 at *
      have f1 := (HP.out m hlt).fl
      have d3 := Below.keep hb.out d0
      have d4 := Below.keep hb.out d1
      have d5 := Below.keep hb.out d2
      have BR := Hb.mk hb.out
      clear F1 G1 V1 b1 b2 hBB
      go_wp2
      obtain ⟨W1, hW1⟩ : ∃ W1, W1 = wr.alloc (.cells #[.float .f32 (nW ys m), .float .f32 (eW ys m)] 26) := ⟨_, rfl⟩
      rw [← hW1]
      have bW1 : Below wr.heap.size wr W1 := by rw [hW1]; exact (by repeat (first | exact Below.refl _ _ | with_reducible assumption | refine Below.drews ?_ | refine Below.drew ?_ | refine Below.alloc ?_ (by simp <;> omega) _ | refine Below.setCell ?_ (by simp <;> omega) _))
      have k0 : W1.cell? ⟨wr.heap.size, 0, none⟩ = some (.float .f32 (nW ys m)) := by rw [hW1]; simp
      have k2 : W1.cell? ⟨wr.heap.size, 1, none⟩ = some (.float .f32 (eW ys m)) := by rw [hW1]; simp
      have BR2 := Hb.mk (Below.on BR.out bW1 BR.out.size)
      have d6 := Below.keep bW1 d3
      have d7 := Below.keep bW1 d4
      have d8 := Below.keep bW1 d5
      clear hW1 bW1
      refine region_all (by kernel_rfl) (by kernel_rfl) (fun I1 F1 hne1 HB1 hcl1 => ?_)
      have u0 := keepF HB1 k0
      have u1 := keepF HB1 k2
      have u2 := keepF HB1 d6
      have u3 := keepF HB1 d7
      have u4 := keepF HB1 d8
      repeat (quiet_step (first | (go_at_call 42; exact callS hcl1 (KW.out _)) | (go_at_call 47; exact callS hcl1 (KT.out _))))
      refine wpQuiet_nil ?_
      intro _ hw'
      obtain ⟨iq, rfl⟩ := hw'
      clear hcl1 u0 u1 u2 u3 u4
      have E1 := Hb.mk (HB1.out iq)
      have sB := BR2.out.size
      have sR := BR.out.size
      have sW := BW.out.size
      cases m with
      | zero =>
        go_wp2
        go_roundw
        case rel => exact ⟨1, by omega, rfl, rfl, i_ext2 (by omega), ⟨(by repeat (first | with_reducible refine Below.setCell ?_ (by first | omega | (simp <;> omega)) _ | with_reducible refine Below.drews ?_ | with_reducible refine Below.drew ?_ | with_reducible refine Below.alloc ?_ (by first | omega | (simp <;> omega)) _ | with_reducible refine Below.on ?_ E1.out (by first | omega | (simp <;> omega)) | with_reducible exact BR2.out | with_reducible exact Below.refl _ _))⟩⟩
        case measure => simp [intOf]; omega
      | succ k =>
        have f2 := (near_pos HP.out k (by omega)).fl
        have hk0 : (((k + 1 : Nat) : Int) == 0) = false := by rw [beq_eq_false_iff_ne]; omega
        have hk0' : (((k : Nat) : Int) + 1 == 0) = false := by rw [beq_eq_false_iff_ne]; omega
        change Hf (Below W.heap.size W wr) at hb
        have hS : nearS (aptAt ys pn pe) (k + 1) = near (aptAt ys pn pe) k := rfl
        simp only [hS]
        cases hc : fcmp .lss .f32 (aptAt ys pn pe (k + 1)) (near (aptAt ys pn pe) k).2
        · have hN := Hb.mk (near_ge hc)
          cases hz : fcmp .eql .f32 (near (aptAt ys pn pe) k).2 0
          · go_wp2_with (first | (refine wpList_fcmp rfl rfl rfl rfl rfl (by first | (with_reducible assumption) | (with_reducible exact Fl.ofInt _ _) | exact Fl.not (by decide +kernel) (by decide +kernel)) (by first | (with_reducible assumption) | (with_reducible exact Fl.ofInt _ _) | exact Fl.not (by decide +kernel) (by decide +kernel)) ?_; simp only [Act.put, List.setIfInBounds_toArray, List.set_cons_succ, List.set_cons_zero, hz]) | (refine wpList_fcmp_g rfl rfl rfl rfl rfl (by first | (with_reducible assumption) | (with_reducible exact Fl.ofInt _ _) | exact Fl.not (by decide +kernel) (by decide +kernel)) (by first | (with_reducible assumption) | (with_reducible exact Fl.ofInt _ _) | exact Fl.not (by decide +kernel) (by decide +kernel)) ?_; simp only [Act.put, List.setIfInBounds_toArray, List.set_cons_succ, List.set_cons_zero, hc]))
            go_roundw
            case rel => exact ⟨k + 2, by omega, by show _ = Value.int .i64 ((near (aptAt ys pn pe) (k + 1)).1 : Int); rw [hN.out], by show _ = Value.float .f32 (near (aptAt ys pn pe) (k + 1)).2; rw [hN.out], i_ext2 (by omega), ⟨(by repeat (first | with_reducible refine Below.setCell ?_ (by first | omega | (simp <;> omega)) _ | with_reducible refine Below.drews ?_ | with_reducible refine Below.drew ?_ | with_reducible refine Below.alloc ?_ (by first | omega | (simp <;> omega)) _ | with_reducible refine Below.on ?_ E1.out (by first | omega | (simp <;> omega)) | with_reducible exact BR2.out | with_reducible exact Below.refl _ _))⟩⟩
            case measure => simp [intOf]; omega
          · have hst := Hb.mk (near_stop HP.out (by omega : k < n) hz (n - 1) (by omega) (by omega))
            go_wp2_with (first | (refine wpList_fcmp rfl rfl rfl rfl rfl (by first | (with_reducible assumption) | (with_reducible exact Fl.ofInt _ _) | exact Fl.not (by decide +kernel) (by decide +kernel)) (by first | (with_reducible assumption) | (with_reducible exact Fl.ofInt _ _) | exact Fl.not (by decide +kernel) (by decide +kernel)) ?_; simp only [Act.put, List.setIfInBounds_toArray, List.set_cons_succ, List.set_cons_zero, hz]) | (refine wpList_fcmp_g rfl rfl rfl rfl rfl (by first | (with_reducible assumption) | (with_reducible exact Fl.ofInt _ _) | exact Fl.not (by decide +kernel) (by decide +kernel)) (by first | (with_reducible assumption) | (with_reducible exact Fl.ofInt _ _) | exact Fl.not (by decide +kernel) (by decide +kernel)) ?_; simp only [Act.put, List.setIfInBounds_toArray, List.set_cons_succ, List.set_cons_zero, hc]))
            rw [Exit.noGoto_ret]
            go_ret3
            rw [hst.out]
            exact ⟨rfl, Below.on BW.out (by repeat (first | with_reducible refine Below.setCell ?_ (by first | omega | (simp <;> omega)) _ | with_reducible refine Below.drews ?_ | with_reducible refine Below.drew ?_ | with_reducible refine Below.alloc ?_ (by first | omega | (simp <;> omega)) _ | with_reducible refine Below.on ?_ E1.out (by first | omega | (simp <;> omega)) | with_reducible exact BR2.out | with_reducible exact Below.refl _ _)) sW⟩
        · have hN := Hb.mk (near_lt hc)
          go_wp2_with (first | (refine wpList_fcmp_g rfl rfl rfl rfl rfl (by first | (with_reducible assumption) | (with_reducible exact Fl.ofInt _ _) | exact Fl.not (by decide +kernel) (by decide +kernel)) (by first | (with_reducible assumption) | (with_reducible exact Fl.ofInt _ _) | exact Fl.not (by decide +kernel) (by decide +kernel)) ?_; simp only [Act.put, List.setIfInBounds_toArray, List.set_cons_succ, List.set_cons_zero, hc]))
          go_roundw
          case rel => exact ⟨k + 2, by omega, by show _ = Value.int .i64 ((near (aptAt ys pn pe) (k + 1)).1 : Int); rw [hN.out], by show _ = Value.float .f32 (near (aptAt ys pn pe) (k + 1)).2; rw [hN.out], i_ext2 (by omega), ⟨(by repeat (first | with_reducible refine Below.setCell ?_ (by first | omega | (simp <;> omega)) _ | with_reducible refine Below.drews ?_ | with_reducible refine Below.drew ?_ | with_reducible refine Below.alloc ?_ (by first | omega | (simp <;> omega)) _ | with_reducible refine Below.on ?_ E1.out (by first | omega | (simp <;> omega)) | with_reducible exact BR2.out | with_reducible exact Below.refl _ _))⟩⟩
          case measure => simp [intOf]; omega
    · obtain rfl : m = n := by omega
      have hmn : nearS (aptAt ys pn pe) m = near (aptAt ys pn pe) (m - 1) := by
        obtain ⟨k, rfl⟩ : ∃ k, m = k + 1 := ⟨m - 1, by omega⟩
        rfl
      have E1 := Hb.mk hb.out
      have sB := BW.out.size
      go_wp2
      rw [Exit.noGoto_ret]
      go_ret3
      rw [hmn]
      exact ⟨rfl, (by repeat (first | with_reducible refine Below.setCell ?_ (by first | omega | (simp <;> omega)) _ | with_reducible refine Below.drews ?_ | with_reducible refine Below.drew ?_ | with_reducible refine Below.alloc ?_ (by first | omega | (simp <;> omega)) _ | with_reducible refine Below.on ?_ E1.out (by first | omega | (simp <;> omega)) | with_reducible exact BW.out | with_reducible exact Below.refl _ _))⟩
theorem pair_NearestPlace {n c0 c1 : Nat} {ys : List Nat} (hw : Wf ys) (hn : ys.length = 2 * n) (hl : n ≤ 1048576) (w0 : (Lit.float .f32 c0).wf = true) (w1 : (Lit.float .f32 c1).wf = true) : ∃ I X ok, Hb (∀ (g : Nat) (w : World), FRow w (some ⟨g, 0, none⟩) ys → Calls Try.prog 16 #[.slice (some ⟨g, 0, none⟩) n n, pl c0 c1] w (RS (neT I X ok) w)) ∧ Hb (∀ (g : Nat) (w : World), FRow w (some ⟨g, 0, none⟩) ys → Calls Try.prog 18 #[.slice (some ⟨g, 0, none⟩) n n, pl c0 c1] w (RS (neT I X ok) w)) ∧ Fl .f32 X X := by
  have h1 := Fl.own w0
  have h2 := Fl.own w1
  cases ha : arePl ys n
  · exact ⟨_, _, _, ⟨fun g w hr => sNear_no0 w hr hw hn hl ha⟩, ⟨fun g w hr => iNear_no0 w hr hw hn hl ha⟩, fl0⟩
  · cases hv : validC (nrm .f32 c0) (nrm .f32 c1)
    · exact ⟨_, _, _, ⟨fun g w hr => sNear_no1 w hr hw hn hl ha h1 h2 hv⟩, ⟨fun g w hr => iNear_no1 w hr hw hn hl ha h1 h2 hv⟩, fl0⟩
    · obtain ⟨t1, t2⟩ := turns_of hv
      have x1 := t1.word h1
      have x2 := t2.word h2
      rw [← x1] at h1 hv
      rw [← x2] at h2 hv
      obtain ⟨k1, k64, hvv⟩ := arePl_of ha
      exact ⟨_, _, _, ⟨fun g w hr => sNear_yes w hr hw hn hl ha h1 h2 hv⟩, ⟨fun g w hr => iNear_yes w hr hw hn hl ha h1 h2 hv⟩, (near_pos (aptAt_pos hw hn hvv hv) (n - 1) (by omega)).fl⟩
set_option maxHeartbeats 4000000 in
theorem law_NearestPlace {a : Option Addr} {cap n c0 c1 : Nat} {ys : List Nat} (w : World) (hr : FRow w a ys) (hw : Wf ys) (hn : ys.length = 2 * n) (hm : n ≤ 9223372036854775807) (w0 : (Lit.float .f32 c0).wf = true) (w1 : (Lit.float .f32 c1).wf = true) : Calls Try.prog 4 #[.slice a n cap, pl c0 c1] w (RS (.bool true) w) := by
  have HR := Hf.mk hr
  have HW := Hf.mk hw
  have HN := Hf.mk hn
  have B0 := Hb.mk (Below.refl w.heap.size w)
  by_cases hl : n ≤ 1048576
  · have KZ := Hf.mk (szPS_yes (a := a) (cap := cap) hl)
    obtain ⟨J, X, ok, KS, KG, hf⟩ := pair_NearestPlace hw hn hl w0 w1
    have HFL := Hf.mk hf
    have KT := Hf.mk (fun (W : World) (hR : FRow W a ys) => toPS_any (cap := cap) W hR hn hl)
    clear hr hw hn hf w0 w1
    cases ok
    all_goals
      go_enter Try.func4, Try.ntmps4
      go_wp2_with (first | (go_at_call 10; refine (KZ.out _).mono ?_; rintro e w' ⟨rfl, n0, rfl⟩))
      obtain ⟨W0, hW0⟩ : ∃ W0, W0 = (World.alloc w (.cells #[.float .f32 c0, .float .f32 c1] 34)).drewN n0 := ⟨_, rfl⟩
      rw [← hW0]
      have BW0 := Hb.mk (show Below w.heap.size w W0 by rw [hW0]; exact (by repeat (first | exact Below.refl _ _ | with_reducible assumption | refine Below.drews ?_ | refine Below.drew ?_ | refine Below.alloc ?_ (by simp <;> omega) _ | refine Below.setCell ?_ (by simp <;> omega) _)))
      have e0 : W0.cell? ⟨w.heap.size, 0, none⟩ = some (.float .f32 c0) := by rw [hW0]; simp
      have e1 : W0.cell? ⟨w.heap.size, 1, none⟩ = some (.float .f32 c1) := by rw [hW0]; simp
      have R0 := Hf.mk (HR.out.below BW0.out)
      clear hW0
      have sW := BW0.out.size
      go_region_with (first
        | (go_at_call 12; refine (KT.out _ (by first | exact R0.out | exact R0.out.drew _)).mono ?_; rintro e w1 ⟨rfl, o1, b1⟩; have O1 := Hf.mk o1; have E1 := Hb.mk b1; have e2 := Below.keep b1 (p := ⟨w.heap.size, 0, none⟩) (v := .float .f32 c0) (by first | exact e0 | simpa using e0); have e3 := Below.keep b1 (p := ⟨w.heap.size, 1, none⟩) (v := .float .f32 c1) (by first | exact e1 | simpa using e1); have s1 := b1.size; (try simp at s1); clear o1 b1)
        | (go_at_call 17; refine (toPlace_any _ _ _).mono ?_; rintro e w2 ⟨rfl, b2⟩; have E2 := Hb.mk b2; have e4 := Below.keep b2 (p := ⟨w.heap.size, 0, none⟩) (v := .float .f32 c0) (by first | exact e2 | simpa using e2); have e5 := Below.keep b2 (p := ⟨w.heap.size, 1, none⟩) (v := .float .f32 c1) (by first | exact e3 | simpa using e3); have s2 := b2.size; (try simp at s2); clear b2)
        | (go_at_call 16; refine (KS.out _ _ (O1.out.below E2.out)).mono ?_; rintro e w3 ⟨rfl, b3⟩; have E3 := Hb.mk b3; have e6 := Below.keep b3 (p := ⟨w.heap.size, 0, none⟩) (v := .float .f32 c0) (by first | exact e4 | simpa using e4); have e7 := Below.keep b3 (p := ⟨w.heap.size, 1, none⟩) (v := .float .f32 c1) (by first | exact e5 | simpa using e5); have s3 := b3.size; (try simp at s3); clear b3))
      all_goals
        have BA := Hb.mk (show Below w.heap.size w w3 from (by repeat (first | with_reducible refine Below.setCell ?_ (by first | omega | (simp <;> omega)) _ | with_reducible refine Below.drews ?_ | with_reducible refine Below.drew ?_ | with_reducible refine Below.alloc ?_ (by first | omega | (simp <;> omega)) _ | with_reducible refine Below.on ?_ E3.out (by first | omega | (simp <;> omega)) | with_reducible refine Below.on ?_ E2.out (by first | omega | (simp <;> omega)) | with_reducible refine Below.on ?_ E1.out (by first | omega | (simp <;> omega)) | with_reducible exact BW0.out | with_reducible exact Below.refl _ _)))
        have hV := HFL.out
        clear e0 e1 e2 e3 e4 e5 s1 s2 s3 E1 E2 E3 O1
        have tk_a : True := trivial; have tk_b : True := trivial
        go_wp2_with (first
          | (go_at_call 12; clear tk_a; refine (KT.out _ (by first | exact HR.out.below BA.out | exact (HR.out.below BA.out).drew _)).mono ?_; rintro e w4 ⟨rfl, o4, b4⟩; have O4 := Hf.mk o4; have B4 := Hb.mk (Below.on (B := w.heap.size) (a := w) (by repeat (first | exact BA.out | refine Below.drews ?_ | refine Below.drew ?_ | refine Below.alloc ?_ (by have hq_ := BA.out.size; first | omega | (simp <;> omega)) _ | refine Below.setCell ?_ (by have hq_ := BA.out.size; first | omega | (simp <;> omega)) _)) b4 (by have hq_ := BA.out.size; first | omega | (simp <;> omega))); have g0 := Below.keep b4 (p := ⟨w.heap.size, 0, none⟩) (v := .float .f32 c0) (by first | exact e6 | simpa using e6); have g1 := Below.keep b4 (p := ⟨w.heap.size, 1, none⟩) (v := .float .f32 c1) (by first | exact e7 | simpa using e7); clear o4 b4)
          | (go_at_call 17; refine (toPlace_any _ _ _).mono ?_; rintro e w5 ⟨rfl, b5⟩; have O5 := Hf.mk (O4.out.below b5); have B5 := Hb.mk (Below.on (B := w.heap.size) (a := w) (by repeat (first | exact B4.out | refine Below.drews ?_ | refine Below.drew ?_ | refine Below.alloc ?_ (by have hq_ := B4.out.size; first | omega | (simp <;> omega)) _ | refine Below.setCell ?_ (by have hq_ := B4.out.size; first | omega | (simp <;> omega)) _)) b5 (by have hq_ := B4.out.size; first | omega | (simp <;> omega))); clear b5)
          | (go_at_call 18; refine (KG.out _ _ O5.out).mono ?_; rintro e w6 ⟨rfl, b6⟩; have O6 := Hf.mk (O5.out.below b6); have B6 := Hb.mk (Below.on (B := w.heap.size) (a := w) (by repeat (first | exact B5.out | refine Below.drews ?_ | refine Below.drew ?_ | refine Below.alloc ?_ (by have hq_ := B5.out.size; first | omega | (simp <;> omega)) _ | refine Below.setCell ?_ (by have hq_ := B5.out.size; first | omega | (simp <;> omega)) _)) b6 (by have hq_ := B5.out.size; first | omega | (simp <;> omega))); clear b6)
          | (refine wpList_fcv_g rfl rfl rfl (by kernel_rfl) Try.underlying39 (by decide) (by first | (with_reducible assumption) | (with_reducible exact Fl.ofInt _ _) | exact Fl.not (by decide +kernel) (by decide +kernel)) (fits_wide _) ?_; intro r n hr; simp only [Act.put, List.setIfInBounds_toArray, List.set_cons_succ, List.set_cons_zero]) | (go_at_call 19; refine (sameFloat_any (by assumption) (by assumption) _).mono ?_; rintro e w' ⟨rfl, n, rfl⟩)
          | (go_at_call 12; clear tk_b; refine (KT.out _ ((HR.out.below B6.out).drews (by repeat (first | exact Drew.refl _ | refine Drew.more ?_)))).mono ?_; rintro e w7 ⟨rfl, o7, b7⟩; have O7 := Hf.mk o7; have O8 := Hf.mk ((O6.out.drews (by repeat (first | exact Drew.refl _ | refine Drew.more ?_))).below b7); have B7 := Hb.mk (Below.on (B := w.heap.size) (a := w) (by repeat (first | exact B6.out | refine Below.drews ?_ | refine Below.drew ?_ | refine Below.alloc ?_ (by have hq_ := B6.out.size; first | omega | (simp <;> omega)) _ | refine Below.setCell ?_ (by have hq_ := B6.out.size; first | omega | (simp <;> omega)) _)) b7 (by have hq_ := B6.out.size; first | omega | (simp <;> omega))); clear o7 b7)
          | (go_at_call 15; refine (eqPS_any _ O8.out O7.out HW.out HN.out hl).mono ?_; rintro e w8 ⟨rfl, b8⟩; have B8 := Hb.mk (Below.on (B := w.heap.size) (a := w) (by repeat (first | exact B7.out | refine Below.drews ?_ | refine Below.drew ?_ | refine Below.alloc ?_ (by have hq_ := B7.out.size; first | omega | (simp <;> omega)) _ | refine Below.setCell ?_ (by have hq_ := B7.out.size; first | omega | (simp <;> omega)) _)) b8 (by have hq_ := B7.out.size; first | omega | (simp <;> omega))); clear b8))
        go_ret
        exact ⟨rfl, (by repeat (first | with_reducible refine Below.setCell ?_ (by first | omega | (simp <;> omega)) _ | with_reducible refine Below.drews ?_ | with_reducible refine Below.drew ?_ | with_reducible refine Below.alloc ?_ (by first | omega | (simp <;> omega)) _ | with_reducible exact B8.out | with_reducible exact Below.refl _ _))⟩
  · have KZ := Hf.mk (szPS_no (a := a) (cap := cap) (n := n) (by omega) hm)
    go_enter Try.func4, Try.ntmps4
    go_wp2_with (first | (go_at_call 10; refine (KZ.out _).mono ?_; rintro e w' ⟨rfl, n0, rfl⟩))
    go_ret
    exact ⟨rfl, (by repeat (first | with_reducible refine Below.setCell ?_ (by first | omega | (simp <;> omega)) _ | with_reducible refine Below.drews ?_ | with_reducible refine Below.drew ?_ | with_reducible refine Below.alloc ?_ (by first | omega | (simp <;> omega)) _ | with_reducible exact B0.out | with_reducible exact Below.refl _ _))⟩
end Go.Proofs.Ytjjhklfpdllijab
