/-
  FlatGrid, of the program and of the model. No premise beyond those named.
-/
import Derived.Test.YtcgmffpddahgoaaGof
import Derived.Laws.AppendOwn
namespace Go.Proofs.Ytcgmffpddahgoaa
open Go Go.RowKit
set_option maxRecDepth 100000

theorem own_ne {w : World} {base : Nat} {e : TypeId} {size n b : Nat} {v : Value} {xs : List Value} (h : w.ownsRow base e size v n xs) (hb : b < base) : some b ≠ v.ownBlock := by
  rcases h.2 with ⟨h1, _⟩ | ⟨g, cap, cur, hv, hg, _⟩
  · rw [h1]; simp [Value.ownBlock]
  · rw [hv]; simp [Value.ownBlock]; omega
theorem own_ge {w : World} {base : Nat} {e : TypeId} {size n k : Nat} {v : Value} {xs : List Value} (h : w.ownsRow base e size v n xs) (hb : v.ownBlock = some k) : base ≤ k := by
  rcases h.2 with ⟨h1, _⟩ | ⟨g, cap, cur, hv, hg, _⟩
  · rw [h1] at hb; simp [Value.ownBlock] at hb
  · rw [hv] at hb; simp [Value.ownBlock] at hb; omega
theorem At.gb {w w' : World} {row : Option Nat} {p : Addr} {v : Value} (h : At w p v) (hg : w.grownBy w' row) (hne : some p.block ≠ row) : At w' p v := by
  have e := hg.block p.block h.lt hne
  refine ⟨?_, ?_, Nat.lt_of_lt_of_le h.lt hg.size⟩
  · rw [World.cell?_of_block (w := w) e]; exact h.cell
  · rw [World.frozen?_of_block (w := w) e]; exact h.free
theorem At.alloc {w : World} {p : Addr} {v : Value} (h : At w p v) (o : Obj) : At (w.alloc o) p v := h.re ((Below.refl _ _).alloc (Nat.le_refl _) _) h.cell h.free
theorem At.drews {w : World} {p : Addr} {v : Value} (h : At w p v) (q : Nat) : At (w.drewN q) p v := ⟨h.cell, h.free, h.lt⟩
theorem At.other {w : World} {b o b2 o2 : Nat} {v : Value} (h : At w ⟨b, o, none⟩ v) (hne : b ≠ b2 ∨ o ≠ o2) (u : Value) : At (w.setCell ⟨b2, o2, none⟩ u) ⟨b, o, none⟩ v := by
  refine ⟨?_, ?_, by simpa using h.lt⟩
  · have := h.cell
    rw [World.cell?_setCell_other]
    · exact this
    · intro he
      injection he with h1 h2
      omega
  · have := h.free
    simpa using this
/-- the cells of a grid that may be written -/
structure Cs (w : World) (b : Nat) (x y z : Value) : Prop where
  x0 : At w ⟨b, 0, none⟩ x
  x1 : At w ⟨b, 1, none⟩ y
  x2 : At w ⟨b, 2, none⟩ z
theorem Cs.gb {w w' : World} {row : Option Nat} {b : Nat} {x y z : Value} (h : Cs w b x y z) (hg : w.grownBy w' row) (hne : some b ≠ row) : Cs w' b x y z := ⟨h.x0.gb hg hne, h.x1.gb hg hne, h.x2.gb hg hne⟩
theorem Cs.alloc {w : World} {b : Nat} {x y z : Value} (h : Cs w b x y z) (o : Obj) : Cs (w.alloc o) b x y z := ⟨h.x0.alloc o, h.x1.alloc o, h.x2.alloc o⟩
theorem Cs.drews {w : World} {b : Nat} {x y z : Value} (h : Cs w b x y z) (q : Nat) : Cs (w.drewN q) b x y z := ⟨h.x0.drews q, h.x1.drews q, h.x2.drews q⟩
theorem Cs.other {w : World} {b b2 o2 : Nat} {x y z : Value} (h : Cs w b x y z) (hne : b ≠ b2) (u : Value) : Cs (w.setCell ⟨b2, o2, none⟩ u) b x y z := ⟨h.x0.other (.inl hne) u, h.x1.other (.inl hne) u, h.x2.other (.inl hne) u⟩
theorem Cs.below {w w' : World} {b : Nat} {x y z : Value} (h : Cs w b x y z) (k : Below w.heap.size w w') : Cs w' b x y z := ⟨h.x0.re k h.x0.cell h.x0.free, h.x1.re k h.x1.cell h.x1.free, h.x2.re k h.x2.cell h.x2.free⟩
theorem Cs.set2 {w : World} {b : Nat} {x y z : Value} (h : Cs w b x y z) (u : Value) : Cs (w.setCell ⟨b, 2, none⟩ u) b x y u :=
  ⟨h.x0.other (.inr (by omega)) u, h.x1.other (.inr (by omega)) u, ⟨World.cell?_setCell_same' w _ _ (by rw [h.x2.cell]; rfl), by have := h.x2.free; simpa using this, by have := h.x2.lt; simpa using this⟩⟩
theorem fls_rep {m r : Nat} : fls (List.replicate m r) ++ [.float .f32 r] = fls (List.replicate (m + 1) r) := by
  unfold fls
  rw [List.replicate_succ']
  simp
theorem own_al {w : World} {base : Nat} {e : TypeId} {size : Nat} {v : Value} {n : Nat} {xs : List Value} (h : w.ownsRow base e size v n xs) (o : Obj) : (w.alloc o).ownsRow base e size v n xs := iown_below h ((Below.refl _ _).alloc (Nat.le_refl _) _)
theorem l06Give_any {g n k : Nat} {wd hg : Int} {f : Nat → Nat} (w : World) (h : Told w g n f) (hl : n ≤ 1048576) : Calls Try.prog 88 #[gd wd hg (sl g n k)] w (RS (if gridB wd hg n f then .tuple #[gd wd hg (sl g n k), .bool true] else .tuple #[gd 0 0 (.slice none 0 0), .bool false]) w) := by
  have H := Hf.mk h
  clear h
  have B0 := Hb.mk (Below.refl w.heap.size w)
  cases hb : gridB wd hg n f
  · have H1 := Hf.mk hb
    clear hb
    go_enter Try.func88, Try.ntmps88
    go_wp2_with (first | (go_at_call 82; refine (l06Is_any (k := k) (wd := wd) (hg := hg) _ (by simp) (by simp) (by simp) (H.out.below (by repeat (first | exact Below.refl _ _ | with_reducible assumption | refine Below.drews ?_ | refine Below.drew ?_ | refine Below.alloc ?_ (by simp <;> omega) _ | refine Below.setCell ?_ (by simp <;> omega) _))) hl).mono ?_; rw [H1.out]; rintro e w' ⟨rfl, q0, rfl⟩))
    exact bodyPost_ret (v := .tuple #[gd 0 0 (.slice none 0 0), .bool false]) (by simp [results, Try.results88, go_sem]) rfl ⟨rfl, (by repeat (first | with_reducible refine Below.setCell ?_ (by first | omega | (simp <;> omega)) _ | with_reducible refine Below.drews ?_ | with_reducible refine Below.drew ?_ | with_reducible refine Below.alloc ?_ (by first | omega | (simp <;> omega)) _ | with_reducible exact B0.out | with_reducible exact Below.refl _ _))⟩
  · have H1 := Hf.mk hb
    clear hb
    go_enter Try.func88, Try.ntmps88
    go_wp2_with (first | (go_at_call 82; refine (l06Is_any (k := k) (wd := wd) (hg := hg) _ (by simp) (by simp) (by simp) (H.out.below (by repeat (first | exact Below.refl _ _ | with_reducible assumption | refine Below.drews ?_ | refine Below.drew ?_ | refine Below.alloc ?_ (by simp <;> omega) _ | refine Below.setCell ?_ (by simp <;> omega) _))) hl).mono ?_; rw [H1.out]; rintro e w' ⟨rfl, q0, rfl⟩))
    exact bodyPost_ret (v := .tuple #[gd wd hg (sl g n k), .bool true]) (by simp [results, Try.results88, go_sem]) rfl ⟨rfl, (by repeat (first | with_reducible refine Below.setCell ?_ (by first | omega | (simp <;> omega)) _ | with_reducible refine Below.drews ?_ | with_reducible refine Below.drew ?_ | with_reducible refine Below.alloc ?_ (by first | omega | (simp <;> omega)) _ | with_reducible exact B0.out | with_reducible exact Below.refl _ _))⟩
theorem flat1_any {bc c r : Nat} (hr : Fl .f32 c r) (j : Int) (w : World) (hc : w.cell? ⟨bc, 0, none⟩ = some (.float .f32 r)) : Calls Try.prog 58 #[.int .i64 j, .pointer (some ⟨bc, 0, none⟩)] w (RF .f32 c w) := by
  go_enter Try.func58, Try.ntmps58
  go_wp2
  go_ret
  exact RF.of0 hr
set_option maxHeartbeats 1000000 in
theorem iFlat_any {wd hg : Int} {c r : Nat} (hr : Fl .f32 c r) (w : World) : Calls Try.prog 17 #[.int .i64 wd, .int .i64 hg, .float .f32 r] w (RG 29 (sideB wd hg && finB (wd * hg).toNat (fun _ => c)) wd hg (wd * hg).toNat (fun _ => c) w) := by
  have B0 := Hb.mk (Below.refl w.heap.size w)
  cases hb : (sideB wd hg && finB (wd * hg).toNat (fun _ => c))
  · have HB := Hf.mk hb
    clear hb
    go_enter Try.func17, Try.ntmps17
    go_wp2_with (first | (go_at_call 57; refine (gridOf_flat (bc := w.heap.size) (c := c) _ (fun W hW j _ _ _ => flat1_any hr j W (Below.keep hW (by simp)))).mono ?_; rw [HB.out]; intro e w1 hre; obtain ⟨rfl, b1⟩ := hre.f; have B1 := Hb.mk (Below.on (B := w.heap.size) (a := w) (by repeat (first | exact B0.out | refine Below.drews ?_ | refine Below.drew ?_ | refine Below.alloc ?_ (by have hq_ := B0.out.size; first | omega | (simp <;> omega)) _ | refine Below.setCell ?_ (by have hq_ := B0.out.size; first | omega | (simp <;> omega)) _)) b1 (by have hq_ := B0.out.size; first | omega | (simp <;> omega))); have q0 := Hb.mk (At.keep b1 (p := ⟨(w.heap.size + 1), 0, none⟩) (v := .int .i64 0) (by simp [go_sem]) (by simp [go_sem])); obtain ⟨q0c, q0z, q0l⟩ := q0.out; have q1 := Hb.mk (At.keep b1 (p := ⟨(w.heap.size + 1), 1, none⟩) (v := .int .i64 0) (by simp [go_sem]) (by simp [go_sem])); obtain ⟨q1c, q1z, q1l⟩ := q1.out; have q2 := Hb.mk (At.keep b1 (p := ⟨(w.heap.size + 1), 2, none⟩) (v := .slice none 0 0) (by simp [go_sem]) (by simp [go_sem])); obtain ⟨q2c, q2z, q2l⟩ := q2.out; clear b1 hre))
    exact bodyPost_ret (v := .tuple #[gd 0 0 (.slice none 0 0), .bool false]) (by simp [results, Try.results17, go_sem, q0c, q1c, q2c]) rfl (RG.no rfl (by repeat (first | with_reducible refine Below.setCell ?_ (by first | omega | (simp <;> omega)) _ | with_reducible refine Below.drews ?_ | with_reducible refine Below.drew ?_ | with_reducible refine Below.alloc ?_ (by first | omega | (simp <;> omega)) _ | with_reducible exact B1.out | with_reducible exact Below.refl _ _)))
  · have HB := Hf.mk hb
    clear hb
    go_enter Try.func17, Try.ntmps17
    go_wp2_with (first | (go_at_call 57; refine (gridOf_flat (bc := w.heap.size) (c := c) _ (fun W hW j _ _ _ => flat1_any hr j W (Below.keep hW (by simp)))).mono ?_; rw [HB.out]; intro e w1 hre; obtain ⟨⟨g, cap, rfl, o1⟩, b1⟩ := hre.t; have O1 := Hf.mk o1; have B1 := Hb.mk (Below.on (B := w.heap.size) (a := w) (by repeat (first | exact B0.out | refine Below.drews ?_ | refine Below.drew ?_ | refine Below.alloc ?_ (by have hq_ := B0.out.size; first | omega | (simp <;> omega)) _ | refine Below.setCell ?_ (by have hq_ := B0.out.size; first | omega | (simp <;> omega)) _)) b1 (by have hq_ := B0.out.size; first | omega | (simp <;> omega))); have q0 := Hb.mk (At.keep b1 (p := ⟨(w.heap.size + 1), 0, none⟩) (v := .int .i64 0) (by simp [go_sem]) (by simp [go_sem])); obtain ⟨q0c, q0z, q0l⟩ := q0.out; have q1 := Hb.mk (At.keep b1 (p := ⟨(w.heap.size + 1), 1, none⟩) (v := .int .i64 0) (by simp [go_sem]) (by simp [go_sem])); obtain ⟨q1c, q1z, q1l⟩ := q1.out; have q2 := Hb.mk (At.keep b1 (p := ⟨(w.heap.size + 1), 2, none⟩) (v := .slice none 0 0) (by simp [go_sem]) (by simp [go_sem])); obtain ⟨q2c, q2z, q2l⟩ := q2.out; clear b1 hre o1))
    have l1 := O1.out.lt
    simp at l1
    refine bodyPost_ret (v := .tuple #[gd wd hg (sl g (wd * hg).toNat cap), .bool true]) (by simp [results, Try.results17, go_sem, q0c, q1c, q2c]) rfl (.inl ⟨rfl, ⟨_, _, rfl, ?_⟩, (by repeat (first | with_reducible refine Below.setCell ?_ (by first | omega | (simp <;> omega)) _ | with_reducible refine Below.drews ?_ | with_reducible refine Below.drew ?_ | with_reducible refine Below.alloc ?_ (by first | omega | (simp <;> omega)) _ | with_reducible exact B1.out | with_reducible exact Below.refl _ _))⟩)
    exact (((O1.out.mono (by simp; omega) (fun _ _ => rfl)).other (by simp; omega) _).other (by simp; omega) _).other (by simp; omega) _
set_option maxHeartbeats 4000000 in
theorem sFlat_any {wd hg : Int} {c r : Nat} (hr : Fl .f32 c r) (w : World) : Calls Try.prog 35 #[.int .i64 wd, .int .i64 hg, .float .f32 r] w (RG 29 (sideB wd hg && finB (wd * hg).toNat (fun _ => c)) wd hg (wd * hg).toNat (fun _ => c) w) := by
  obtain ⟨i0, hi, hz0, hz1, hz2⟩ := info_parts (P := Try.prog) (e := 29) (z := .float .f32 0) (size := 1) (bytes := 4) (by kernel_rfl)
  have B0 := Hb.mk (Below.refl w.heap.size w)
  cases h1 : sideB wd hg
  · have H1 := Hf.mk h1
    clear h1
    go_enter Try.func35, Try.ntmps35
    go_wp2_with (first | (go_at_call 87; refine (l06Sides_any _ _ _).mono ?_; rw [H1.out]; rintro e w' ⟨rfl, q0, rfl⟩))
    exact bodyPost_ret (v := .tuple #[gd 0 0 (.slice none 0 0), .bool false]) (by simp [results, Try.results35, go_sem]) rfl (RG.no (by rfl) (by repeat (first | with_reducible refine Below.setCell ?_ (by first | omega | (simp <;> omega)) _ | with_reducible refine Below.drews ?_ | with_reducible refine Below.drew ?_ | with_reducible refine Below.alloc ?_ (by first | omega | (simp <;> omega)) _ | with_reducible exact B0.out | with_reducible exact Below.refl _ _)))
  · have h2 := h1
    unfold sideB at h2
    rw [decide_eq_true_iff] at h2
    obtain ⟨s1, s2, s3, s4⟩ := h2
    have H1 := Hf.mk h1
    have b0 : 4 ≤ wd * hg := by have := Int.mul_le_mul s1 s3 (by omega) (by omega); simpa using this
    have b1 : wd * hg ≤ 256 := by have := Int.mul_le_mul s2 s4 (by omega) (by omega); simpa using this
    obtain ⟨n, hn⟩ : ∃ n : Nat, n = (wd * hg).toNat := ⟨_, rfl⟩
    have hp : wd * hg = (n : Int) := by omega
    rw [← hn]
    rw [hp] at b0 b1
    have KV := Keep.mk (show (true && finB n (fun _ => c)) = finB n (fun _ => c) from Bool.true_and _)
    have KG := Keep.mk (show gridB wd hg n (fun _ => c) = finB n (fun _ => c) by unfold gridB; rw [h1, hp]; simp)
    clear hn h1
    go_enter Try.func35, Try.ntmps35
    go_wp2_with (first | (go_at_call 87; refine (l06Sides_any _ _ _).mono ?_; rw [H1.out]; rintro e w' ⟨rfl, q0, rfl⟩))
    go_loopw [9] (fun i wr => ∃ (m : Nat) (v : Value), m ≤ n ∧ i = .int .i64 ((n : Int) - (m : Int)) ∧ Hf (wr.ownsRow (w.heap.size + 2) 29 1 v m (fls (List.replicate m r))) ∧ Hf (Cs wr w.heap.size (.int .i64 0) (.int .i64 0) (.slice none 0 0)) ∧ Hf (Cs wr (w.heap.size + 1) (.int .i64 wd) (.int .i64 hg) v) ∧ Hf (Below w.heap.size w wr)) (fun i _ => (intOf i).toNat)
    case atStart =>
      refine ⟨0, .slice none 0 0, by omega, by simp, ⟨World.ownsRow_nil _ _ _ _⟩, ⟨⟨?_, ?_, ?_⟩⟩, ⟨⟨?_, ?_, ?_⟩⟩, ⟨(by repeat (first | with_reducible refine Below.setCell ?_ (by first | omega | (simp <;> omega)) _ | with_reducible refine Below.drews ?_ | with_reducible refine Below.drew ?_ | with_reducible refine Below.alloc ?_ (by first | omega | (simp <;> omega)) _ | with_reducible exact B0.out | with_reducible exact Below.refl _ _))⟩⟩
      all_goals exact ⟨by simp [go_sem], by simp [go_sem], by first | (simp; done) | (simp; omega)⟩
    case round =>
      obtain ⟨m, v, hm, rfl, hown, hca, hcb, hbel⟩ := hrel
      obtain ⟨W1, hW1⟩ : ∃ W1, W1 = wr := ⟨_, rfl⟩
      subst hW1
      have a0 := hca.out.x0.cell
      have a1 := hca.out.x1.cell
      have a2 := hca.out.x2.cell
      have e0 := hca.out.x0.free
      have e1 := hca.out.x1.free
      have e2 := hca.out.x2.free
      have d0 := hcb.out.x0.cell
      have d1 := hcb.out.x1.cell
      have d2 := hcb.out.x2.cell
      have z0 := hcb.out.x0.free
      have z1 := hcb.out.x1.free
      have z2 := hcb.out.x2.free
      have l1 : w.heap.size + 1 < W1.heap.size := hcb.out.x0.lt
      by_cases hlt : m < n
      · go_wp2_with (at_builtin; refine wpList_append_own _ rfl _ _ 24 rfl (w.heap.size + 2) 29 i0 (.float .f32 0) 1 4 Try.underlying24 hi hz0 hz1 hz2 rfl (by decide) _ m (fls (List.replicate m r)) rfl (own_al hown.out _) ⟨W1.heap.size, 0, none⟩ 1 1 [.float .f32 r] rfl rfl (cell_one _ _ _) flt_one (by unfold maxLen; omega) (by omega) (by simp; omega) ?_; intro v' w3 o3 hgrow3 _; obtain ⟨gx, cx, rfl, hgx, lgx⟩ := own_shf o3 (by omega); have G3 := Hf.mk hgrow3; have O3 := Hf.mk o3; have CA := Hf.mk ((hca.out.alloc _).gb hgrow3 (own_ne hown.out (by omega))); have CB := Hf.mk ((hcb.out.alloc _).gb hgrow3 (own_ne hown.out (by omega))); have k0 := CB.out.x2.cell; have k1 := CB.out.x2.free; clear hgrow3 o3)
        go_roundw
        case rel =>
          have hne := own_ne hown.out (show w.heap.size < w.heap.size + 2 by omega)
          have o4 := O3.out
          rw [fls_rep] at o4
          exact ⟨m + 1, _, by omega, i_ext2 (by omega), ⟨own_other o4 (by simp; omega) _⟩, ⟨CA.out.other (by omega) _⟩, ⟨CB.out.set2 _⟩, ⟨Below.setCell (Below.grown (Below.alloc hbel.out (by omega) _) G3.out (by simp; omega) (fun k h => by have := own_ge hown.out h; omega)) (by simp) _⟩⟩
        case measure => simp [intOf]; omega
      · obtain rfl : m = n := by omega
        obtain ⟨gx, cx, rfl, hgx, lgx⟩ := own_shf hown.out (by omega)
        have OW : Hf (Own W1 (w.heap.size + 2) 29 gx cx m (fun _ => c)) := ⟨⟨List.replicate m r, hown.out, fun j hj => by simp [List.getD, hj]; exact hr⟩⟩
        have KN := Hf.mk (fun W (h : Told W gx m (fun _ => c)) => l06Give_any (k := cx) (wd := wd) (hg := hg) W h (by omega))
        rw [KG.out] at KN
        cases hv : finB m (fun _ => c)
        · have HV := Hf.mk hv
          rw [hv] at KN
          clear hv
          simp only [if_false, Bool.false_eq_true] at KN
          go_wp2_with (first | (go_at_call 88; refine (KN.out _ OW.out.told).mono ?_; rintro e w5 ⟨rfl, b5⟩; have B5 := Hb.mk (Below.on hbel.out b5 (by omega)); have C5 := (hca.out.below b5); have q0c := C5.x0.cell; have q1c := C5.x1.cell; have q2c := C5.x2.cell; have q0z := C5.x0.free; have q1z := C5.x1.free; have q2z := C5.x2.free; clear b5 C5))
          exact bodyPost_ret (v := .tuple #[gd 0 0 (.slice none 0 0), .bool false]) (by simp [results, Try.results35, go_sem, q0c, q1c, q2c]) rfl (RG.no (by rw [KV.out]; exact HV.out) (by repeat (first | with_reducible refine Below.setCell ?_ (by first | omega | (simp <;> omega)) _ | with_reducible refine Below.drews ?_ | with_reducible refine Below.drew ?_ | with_reducible refine Below.alloc ?_ (by first | omega | (simp <;> omega)) _ | with_reducible exact B5.out | with_reducible exact Below.refl _ _)))
        · have HV := Hf.mk hv
          rw [hv] at KN
          clear hv
          simp only [if_true] at KN
          go_wp2_with (first | (go_at_call 88; refine (KN.out _ OW.out.told).mono ?_; rintro e w5 ⟨rfl, b5⟩; have B5 := Hb.mk (Below.on hbel.out b5 (by omega)); have C5 := (hca.out.below b5); have q0c := C5.x0.cell; have q1c := C5.x1.cell; have q2c := C5.x2.cell; have q0z := C5.x0.free; have q1z := C5.x1.free; have q2z := C5.x2.free; have O5 := Hf.mk (OW.out.below b5); clear b5 C5))
          refine bodyPost_ret (v := .tuple #[gd wd hg (sl gx m cx), .bool true]) (by simp [results, Try.results35, go_sem, q0c, q1c, q2c]) rfl (.inl ⟨by rw [KV.out]; exact HV.out, ⟨_, _, rfl, ?_⟩, (by repeat (first | with_reducible refine Below.setCell ?_ (by first | omega | (simp <;> omega)) _ | with_reducible refine Below.drews ?_ | with_reducible refine Below.drew ?_ | with_reducible refine Below.alloc ?_ (by first | omega | (simp <;> omega)) _ | with_reducible exact B5.out | with_reducible exact Below.refl _ _))⟩)
          exact (((O5.out.mono (by omega) (fun _ _ => rfl)).other (by simp; omega) _).other (by simp; omega) _).other (by simp; omega) _
end Go.Proofs.Ytcgmffpddahgoaa
