/-
  BoxOfPlaces, of the program and of its model; its exact law. No condition.
-/
import Derived.Test.YtfmhbmehidlhiaaBoxI
namespace Go.Proofs.Ytfmhbmehidlhiaa
open Go Go.RowKit
set_option maxRecDepth 100000
set_option maxHeartbeats 8000000 in
theorem iBox_one {g : Nat} {ys : List Nat} (w : World) (hr : FRow w (some ⟨g, 0, none⟩) ys) (hw : Wf ys) (hn : ys.length = 2 * 1) (ha : arePl ys 1 = true) : Calls Try.prog 26 #[.slice (some ⟨g, 0, none⟩) 1 1] w (RS (boT (loN ys (0)) (loE ys (0)) (hiN ys (0)) (hiE ys (0)) true) w) := by
  obtain ⟨_, _, hv⟩ := arePl_of ha
  have HA := Hb.mk (fun (w' : World) (hr' : FRow w' (some ⟨g, 0, none⟩) ys) => (ha ▸ iArePl_any w' hr' hw hn (by decide) : Calls Try.prog 59 #[.slice (some ⟨g, 0, none⟩) 1 1] w' (RS (.bool true) w')))
  have HR := Hf.mk hr
  have HN := Hf.mk hn
  have FN := Hb.mk (fun i (hi : i < 1) => (vEx hw hn hi (hv i hi)).1)
  have FE := Hb.mk (fun i (hi : i < 1) => (vEx hw hn hi (hv i hi)).2.1)
  clear hr hw hn ha hv
  have v0 : 0 < 1 := by omega
  have lg := block_lt_of_cell (HR.out.twoAt HN.out v0).1
  simp at lg
  go_enter Try.func26, Try.ntmps26
  go_wp2_with (go_at_call 59; fail)
  refine (HA.out _ (HR.out.below (by repeat (first | exact Below.refl _ _ | with_reducible assumption | refine Below.drews ?_ | refine Below.drew ?_ | refine Below.alloc ?_ (by simp <;> omega) _ | refine Below.setCell ?_ (by simp <;> omega) _)))).mono ?_
  rintro ex w1 ⟨rfl, b1⟩
  obtain ⟨sz, bW, z2, z3⟩ := box_zero w 25 b1
  obtain ⟨c0, c1⟩ := (HR.out.below bW).twoAt HN.out v0
  simp only [Nat.zero_mul, Nat.zero_add] at c0 c1
  have lg1 : g < w1.heap.size := by omega
  have BW := Hb.mk bW
  have Z2 := Hb.mk z2
  have Z3 := Hb.mk z3
  have SZ := Hb.mk sz
  clear z2 z3 bW sz b1
  go_wp2
  go_region
  all_goals
    generalize hW2 : World.alloc (World.alloc w1 (.cells #[.float .f32 (nW ys 0), .float .f32 (eW ys 0)] 25)) (.cells #[.float .f32 (nW ys 0), .float .f32 (eW ys 0)] 25) = W2
    obtain ⟨x5, x6, hb2⟩ := box_two Z2.out Z3.out (by omega) 25 hW2
    generalize hw1 : w1.heap.size = s1 at *
    have szw := BW.out.size
    have BW2 := Hb.mk (show Below w.heap.size w W2.drew from (Below.on BW.out (hw1 ▸ hb2) szw).drew)
    have lb5 : w.heap.size ≤ s1 := by omega
    have lb6 : w.heap.size ≤ s1 + 1 := by omega
    clear hb2 hW2 szw c0 c1 lg1 Z2 Z3 BW SZ
    generalize s1 + 1 = s2 at *
    generalize hW3 : World.drew W2 = W3 at *
    have x7 : Bx W3 w.heap.size (w.heap.size + 1) s1 s2 (nW ys 0) (eW ys 0) (nW ys 0) (eW ys 0) := hW3 ▸ x5.below (Below.refl _ _).drew
    have x8 : Bx W3 w.heap.size (w.heap.size + 1) s2 s1 (nW ys 0) (eW ys 0) (nW ys 0) (eW ys 0) := hW3 ▸ x6.below (Below.refl _ _).drew
    clear x5 x6 hW3
    have lr3 : w.heap.size ≤ w.heap.size + 1 := Nat.le_succ _
    generalize w.heap.size + 1 = r3 at *
  · have x2 := x7
    clear x7 x8
    generalize s1 = b5 at *
    generalize s2 = b6 at *
    go_wp2
    go_loopw [23] (fun i wr => i = .int .i64 0 ∧ Hb (Bx wr w.heap.size r3 b5 b6 (loN ys 0) (loE ys 0) (hiN ys 0) (hiE ys 0)) ∧ Hf (Below w.heap.size w wr)) (fun i _ => 0)
    case atStart => exact ⟨rfl, ⟨x2⟩, ⟨BW2.out⟩⟩
    case round =>
      obtain ⟨rfl, hx0, hb⟩ := hrel
      have hx := hx0.out
      have xc0 := hx.lo.a0.cell
      have xc1 := hx.lo.a1.cell
      have xz0 := hx.lo.a0.free
      have xz1 := hx.lo.a1.free
      have yc0 := hx.hi.a0.cell
      have yc1 := hx.hi.a1.cell
      have yz0 := hx.hi.a0.free
      have yz1 := hx.hi.a1.free
      have xl := hx.lo.a0.lt
      have yl := hx.hi.a0.lt
      have n56 := hx.n56
      have n65 := Ne.symm hx.n56
      dsimp only at xl yl
      have xne := Nat.ne_of_lt xl
      have yne := Nat.ne_of_lt yl
      have xen := Ne.symm xne
      have yen := Ne.symm yne
      have q0 := hx.z2.a0.cell
      have q1 := hx.z2.a1.cell
      have q2 := hx.z3.a0.cell
      have q3 := hx.z3.a1.cell
      have q4 := hx.z2.a0.free
      have q5 := hx.z2.a1.free
      have q6 := hx.z3.a0.free
      have q7 := hx.z3.a1.free
      have d1 := hx.n25
      have d2 := hx.n26
      have d3 := hx.n35
      have d4 := hx.n36
      have d5 := hx.n23
      have d6 := Ne.symm d1
      have d7 := Ne.symm d2
      have d8 := Ne.symm d3
      have d9 := Ne.symm d4
      have d10 := Ne.symm d5
      go_wp2
      go_region
      all_goals
        go_wp2
        exact bodyPost_ret (v := boT (loN ys 0) (loE ys 0) (hiN ys 0) (hiE ys 0) true) (by simp [results, Try.results26, go_sem, q0, q1, q2, q3]) rfl ⟨rfl, by with_reducible repeat (first | exact hb.out | refine Below.setCell ?_ (by first | exact Nat.le_refl _ | exact lr3) _ | refine Below.drew ?_)⟩
  · have x2 := x8
    clear x7 x8
    generalize s2 = b5 at *
    generalize s1 = b6 at *
    go_wp2
    go_loopw [23] (fun i wr => i = .int .i64 0 ∧ Hb (Bx wr w.heap.size r3 b5 b6 (loN ys 0) (loE ys 0) (hiN ys 0) (hiE ys 0)) ∧ Hf (Below w.heap.size w wr)) (fun i _ => 0)
    case atStart => exact ⟨rfl, ⟨x2⟩, ⟨BW2.out⟩⟩
    case round =>
      obtain ⟨rfl, hx0, hb⟩ := hrel
      have hx := hx0.out
      have xc0 := hx.lo.a0.cell
      have xc1 := hx.lo.a1.cell
      have xz0 := hx.lo.a0.free
      have xz1 := hx.lo.a1.free
      have yc0 := hx.hi.a0.cell
      have yc1 := hx.hi.a1.cell
      have yz0 := hx.hi.a0.free
      have yz1 := hx.hi.a1.free
      have xl := hx.lo.a0.lt
      have yl := hx.hi.a0.lt
      have n56 := hx.n56
      have n65 := Ne.symm hx.n56
      dsimp only at xl yl
      have xne := Nat.ne_of_lt xl
      have yne := Nat.ne_of_lt yl
      have xen := Ne.symm xne
      have yen := Ne.symm yne
      have q0 := hx.z2.a0.cell
      have q1 := hx.z2.a1.cell
      have q2 := hx.z3.a0.cell
      have q3 := hx.z3.a1.cell
      have q4 := hx.z2.a0.free
      have q5 := hx.z2.a1.free
      have q6 := hx.z3.a0.free
      have q7 := hx.z3.a1.free
      have d1 := hx.n25
      have d2 := hx.n26
      have d3 := hx.n35
      have d4 := hx.n36
      have d5 := hx.n23
      have d6 := Ne.symm d1
      have d7 := Ne.symm d2
      have d8 := Ne.symm d3
      have d9 := Ne.symm d4
      have d10 := Ne.symm d5
      go_wp2
      go_region
      all_goals
        go_wp2
        exact bodyPost_ret (v := boT (loN ys 0) (loE ys 0) (hiN ys 0) (hiE ys 0) true) (by simp [results, Try.results26, go_sem, q0, q1, q2, q3]) rfl ⟨rfl, by with_reducible repeat (first | exact hb.out | refine Below.setCell ?_ (by first | exact Nat.le_refl _ | exact lr3) _ | refine Below.drew ?_)⟩
theorem iBox_no {g n : Nat} {ys : List Nat} (w : World) (hr : FRow w (some ⟨g, 0, none⟩) ys) (hw : Wf ys) (hn : ys.length = 2 * n) (hl : n ≤ 1048576) (ha : arePl ys n = false) : Calls Try.prog 26 #[.slice (some ⟨g, 0, none⟩) n n] w (RS (boT 0 0 0 0 false) w) := by
  have HA := Hb.mk (fun (w' : World) (hr' : FRow w' (some ⟨g, 0, none⟩) ys) => (ha ▸ iArePl_any w' hr' hw hn hl : Calls Try.prog 59 #[.slice (some ⟨g, 0, none⟩) n n] w' (RS (.bool false) w')))
  have HR := Hf.mk hr
  clear hr hw hn ha
  go_enter Try.func26, Try.ntmps26
  go_wp2_with (go_at_call 59; fail)
  refine (HA.out _ (HR.out.below (by repeat (first | exact Below.refl _ _ | with_reducible assumption | refine Below.drews ?_ | refine Below.drew ?_ | refine Below.alloc ?_ (by simp <;> omega) _ | refine Below.setCell ?_ (by simp <;> omega) _)))).mono ?_
  rintro ex w1 ⟨rfl, b1⟩
  obtain ⟨sz, bW, z2, z3⟩ := box_zero w 25 b1
  have q0 := z2.a0.cell
  have q1 := z2.a1.cell
  have q2 := z3.a0.cell
  have q3 := z3.a1.cell
  have q4 := z2.a0.free
  have q5 := z2.a1.free
  have q6 := z3.a0.free
  have q7 := z3.a1.free
  have BW := Hb.mk bW
  clear sz b1 z2 z3 bW
  have lr2 : w.heap.size ≤ w.heap.size := Nat.le_refl _
  have lr3 : w.heap.size ≤ w.heap.size + 1 := Nat.le_succ _
  go_wp2
  exact bodyPost_ret (v := boT 0 0 0 0 false) (by simp [results, Try.results26, go_sem, q0, q1, q2, q3]) rfl ⟨rfl, by with_reducible repeat (first | exact BW.out | refine Below.setCell ?_ (by first | exact lr2 | exact lr3) _)⟩
theorem sBox_no {g n : Nat} {ys : List Nat} (w : World) (hr : FRow w (some ⟨g, 0, none⟩) ys) (hw : Wf ys) (hn : ys.length = 2 * n) (hl : n ≤ 1048576) (ha : arePl ys n = false) : Calls Try.prog 25 #[.slice (some ⟨g, 0, none⟩) n n] w (RS (boT 0 0 0 0 false) w) := by
  have HA := Hb.mk (fun (w' : World) (hr' : FRow w' (some ⟨g, 0, none⟩) ys) => (ha ▸ l02Are_any w' hr' hw hn hl : Calls Try.prog 57 #[.slice (some ⟨g, 0, none⟩) n n] w' (RB false w')))
  have HR := Hf.mk hr
  clear hr hw hn ha
  go_enter Try.func25, Try.ntmps25
  go_wp2_with (go_at_call 57; fail)
  refine (HA.out _ (HR.out.below (by repeat (first | exact Below.refl _ _ | with_reducible assumption | refine Below.drews ?_ | refine Below.drew ?_ | refine Below.alloc ?_ (by simp <;> omega) _ | refine Below.setCell ?_ (by simp <;> omega) _)))).mono ?_
  rintro ex w1 ⟨rfl, n1, rfl⟩
  generalize hW : World.drewN (World.alloc (World.alloc w (.cells #[.float .f32 0, .float .f32 0] 25)) (.cells #[.float .f32 0, .float .f32 0] 25)) n1 = W1
  obtain ⟨sz, bW, z2, z3⟩ := box_start w n1 25 hW
  have q0 := z2.a0.cell
  have q1 := z2.a1.cell
  have q2 := z3.a0.cell
  have q3 := z3.a1.cell
  have q4 := z2.a0.free
  have q5 := z2.a1.free
  have q6 := z3.a0.free
  have q7 := z3.a1.free
  have BW := Hb.mk bW
  clear sz z2 z3 bW hW
  have lr2 : w.heap.size ≤ w.heap.size := Nat.le_refl _
  have lr3 : w.heap.size ≤ w.heap.size + 1 := Nat.le_succ _
  go_wp2
  exact bodyPost_ret (v := boT 0 0 0 0 false) (by simp [results, Try.results25, go_sem, q0, q1, q2, q3]) rfl ⟨rfl, by with_reducible repeat (first | exact BW.out | refine Below.setCell ?_ (by first | exact lr2 | exact lr3) _)⟩
theorem pair_BoxOfPlaces {n : Nat} {ys : List Nat} (hw : Wf ys) (hn : ys.length = 2 * n) (hl : n ≤ 1048576) : ∃ A B C D ok, Hb (∀ (g : Nat) (w : World), FRow w (some ⟨g, 0, none⟩) ys → Calls Try.prog 25 #[.slice (some ⟨g, 0, none⟩) n n] w (RS (boT A B C D ok) w)) ∧ Hb (∀ (g : Nat) (w : World), FRow w (some ⟨g, 0, none⟩) ys → Calls Try.prog 26 #[.slice (some ⟨g, 0, none⟩) n n] w (RS (boT A B C D ok) w)) ∧ Fl .f32 A A ∧ Fl .f32 B B ∧ Fl .f32 C C ∧ Fl .f32 D D := by
  cases ha : arePl ys n
  · exact ⟨_, _, _, _, _, ⟨fun g w hr => sBox_no w hr hw hn hl ha⟩, ⟨fun g w hr => iBox_no w hr hw hn hl ha⟩, fl0, fl0, fl0, fl0⟩
  · obtain ⟨k1, k64, hv⟩ := arePl_of ha
    have FN := fun i (hi : i < n) => (vEx hw hn hi (hv i hi)).1
    have FE := fun i (hi : i < n) => (vEx hw hn hi (hv i hi)).2.1
    refine ⟨_, _, _, _, _, ⟨fun g w hr => sBox_yes w hr hw hn hl ha⟩, ⟨fun g w hr => ?_⟩, (lo_fl FN _ (by omega)).1, (le_fl FE _ (by omega)).1, (lo_fl FN _ (by omega)).2, (le_fl FE _ (by omega)).2⟩
    by_cases h1 : n = 1
    · subst h1; exact iBox_one w hr hw hn ha
    · exact iBox_many w hr hw hn hl h1 ha
set_option maxHeartbeats 2000000 in
theorem law_BoxOfPlaces {a : Option Addr} {cap n : Nat} {ys : List Nat} (w : World) (hr : FRow w a ys) (hw : Wf ys) (hn : ys.length = 2 * n) (hm : n ≤ 9223372036854775807) : Calls Try.prog 8 #[.slice a n cap] w (RS (.bool true) w) := by
  have HR := Hf.mk hr
  have HW := Hf.mk hw
  have HN := Hf.mk hn
  have B0 := Hb.mk (Below.refl w.heap.size w)
  by_cases hl : n ≤ 1048576
  · have KZ := Hf.mk (szPS_yes (a := a) (cap := cap) hl)
    obtain ⟨X, Y, X2, Y2, ok, KS, KG, hf, hg, hf2, hg2⟩ := pair_BoxOfPlaces hw hn hl
    have KE := Hf.mk (eqPlace_any hf hg hf hg)
    have KE2 := Hf.mk (eqPlace_any hf2 hg2 hf2 hg2)
    clear hr hw hn hf hg hf2 hg2
    cases ok
    all_goals
      go_enter Try.func8, Try.ntmps8
      have tk_a : True := trivial; have tk_b : True := trivial; have tk_c : True := trivial; have tk_d : True := trivial; have tk_e : True := trivial
      go_wp2_with (first
        | (go_at_call 20; refine (KZ.out _).mono ?_; rintro e w' ⟨rfl, n0, rfl⟩)
        | (go_at_call 22; clear tk_a; refine (toPS_any _ (HR.out.drew _) HN.out hl).mono ?_; rintro e w1 ⟨rfl, o1, b1⟩; have O1 := Hf.mk o1; have B1 := Hb.mk (Below.on (B := w.heap.size) (a := w) (by repeat (first | exact B0.out | refine Below.drews ?_ | refine Below.drew ?_ | refine Below.alloc ?_ (by have hq_ := B0.out.size; first | omega | (simp <;> omega)) _ | refine Below.setCell ?_ (by have hq_ := B0.out.size; first | omega | (simp <;> omega)) _)) b1 (by have hq_ := B0.out.size; first | omega | (simp <;> omega))); clear o1 b1)
        | (go_at_call 25; refine (KS.out _ _ O1.out).mono ?_; rintro e w2 ⟨rfl, b2⟩; have B2 := Hb.mk (Below.on (B := w.heap.size) (a := w) (by repeat (first | exact B1.out | refine Below.drews ?_ | refine Below.drew ?_ | refine Below.alloc ?_ (by have hq_ := B1.out.size; first | omega | (simp <;> omega)) _ | refine Below.setCell ?_ (by have hq_ := B1.out.size; first | omega | (simp <;> omega)) _)) b2 (by have hq_ := B1.out.size; first | omega | (simp <;> omega))); clear b2)
        | (go_at_call 22; clear tk_b; refine (toPS_any _ (HR.out.below (Below.on B2.out (by repeat (first | exact Below.refl _ _ | with_reducible assumption | refine Below.drews ?_ | refine Below.drew ?_ | refine Below.alloc ?_ (by simp <;> omega) _ | refine Below.setCell ?_ (by simp <;> omega) _)) B2.out.size)) HN.out hl).mono ?_; rintro e w3 ⟨rfl, o3, b3⟩; have O3 := Hf.mk (show FRow w3 (some ⟨w2.heap.size + 2, 0, none⟩) ys by simpa using o3); have B3 := Hb.mk (Below.on (B := w.heap.size) (a := w) (by repeat (first | exact B2.out | refine Below.drews ?_ | refine Below.drew ?_ | refine Below.alloc ?_ (by have hq_ := B2.out.size; first | omega | (simp <;> omega)) _ | refine Below.setCell ?_ (by have hq_ := B2.out.size; first | omega | (simp <;> omega)) _)) b3 (by have hq_ := B2.out.size; first | omega | (simp <;> omega))); have p0 := Hb.mk (At.keep b3 (p := ⟨w2.heap.size, 0, none⟩) (v := .float .f32 X) (by simp [go_sem]) (by simp [go_sem])); obtain ⟨p0c, p0z, p0l⟩ := p0.out; have p1 := Hb.mk (At.keep b3 (p := ⟨w2.heap.size, 1, none⟩) (v := .float .f32 Y) (by simp [go_sem]) (by simp [go_sem])); obtain ⟨p1c, p1z, p1l⟩ := p1.out; have q0 := Hb.mk (At.keep b3 (p := ⟨w2.heap.size + 1, 0, none⟩) (v := .float .f32 X2) (by simp [go_sem]) (by simp [go_sem])); obtain ⟨q0c, q0z, q0l⟩ := q0.out; have q1 := Hb.mk (At.keep b3 (p := ⟨w2.heap.size + 1, 1, none⟩) (v := .float .f32 Y2) (by simp [go_sem]) (by simp [go_sem])); obtain ⟨q1c, q1z, q1l⟩ := q1.out; clear o3 b3)
        | (go_at_call 26; refine (KG.out _ _ O3.out).mono ?_; rintro e w4 ⟨rfl, b4⟩; have O4 := Hf.mk (O3.out.below b4); have B4 := Hb.mk (Below.on (B := w.heap.size) (a := w) (by repeat (first | exact B3.out | refine Below.drews ?_ | refine Below.drew ?_ | refine Below.alloc ?_ (by have hq_ := B3.out.size; first | omega | (simp <;> omega)) _ | refine Below.setCell ?_ (by have hq_ := B3.out.size; first | omega | (simp <;> omega)) _)) b4 (by have hq_ := B3.out.size; first | omega | (simp <;> omega))); have p0 := Hb.mk (At.re p0.out b4 (by first | exact p0c | simp [go_sem, p0c, p0l]) (by first | exact p0z | simp [go_sem, p0z, p0l])); obtain ⟨p0c, p0z, p0l⟩ := p0.out; have p1 := Hb.mk (At.re p1.out b4 (by first | exact p1c | simp [go_sem, p1c, p1l]) (by first | exact p1z | simp [go_sem, p1z, p1l])); obtain ⟨p1c, p1z, p1l⟩ := p1.out; have q0 := Hb.mk (At.re q0.out b4 (by first | exact q0c | simp [go_sem, q0c, q0l]) (by first | exact q0z | simp [go_sem, q0z, q0l])); obtain ⟨q0c, q0z, q0l⟩ := q0.out; have q1 := Hb.mk (At.re q1.out b4 (by first | exact q1c | simp [go_sem, q1c, q1l]) (by first | exact q1z | simp [go_sem, q1z, q1l])); obtain ⟨q1c, q1z, q1l⟩ := q1.out; clear b4)
        | (go_at_call 12; clear tk_d; refine (KE.out _).mono ?_; rintro e w5 ⟨rfl, b5⟩; have O4b := Hf.mk ((O4.out.below (by repeat (first | exact Below.refl _ _ | with_reducible assumption | refine Below.drews ?_ | refine Below.drew ?_ | refine Below.alloc ?_ (by simp <;> omega) _ | refine Below.setCell ?_ (by simp <;> omega) _))).below b5); have B5 := Hb.mk (Below.on (B := w.heap.size) (a := w) (by repeat (first | exact B4.out | refine Below.drews ?_ | refine Below.drew ?_ | refine Below.alloc ?_ (by have hq_ := B4.out.size; first | omega | (simp <;> omega)) _ | refine Below.setCell ?_ (by have hq_ := B4.out.size; first | omega | (simp <;> omega)) _)) b5 (by have hq_ := B4.out.size; first | omega | (simp <;> omega))); have bb := Below.on (B := w4.heap.size) (a := w4) (by repeat (first | exact Below.refl _ _ | with_reducible assumption | refine Below.drews ?_ | refine Below.drew ?_ | refine Below.alloc ?_ (by simp <;> omega) _ | refine Below.setCell ?_ (by simp <;> omega) _)) b5 (by simp <;> omega); have q0 := Hb.mk (At.re q0.out bb (by first | exact q0c | simp [go_sem, q0c, q0l]) (by first | exact q0z | simp [go_sem, q0z, q0l])); obtain ⟨q0c, q0z, q0l⟩ := q0.out; have q1 := Hb.mk (At.re q1.out bb (by first | exact q1c | simp [go_sem, q1c, q1l]) (by first | exact q1z | simp [go_sem, q1z, q1l])); obtain ⟨q1c, q1z, q1l⟩ := q1.out; have s0 := Hb.mk (At.keep b5 (p := ⟨w4.heap.size + 1, 0, none⟩) (v := .float .f32 X2) (by simp [go_sem]) (by simp [go_sem])); obtain ⟨s0c, s0z, s0l⟩ := s0.out; have s1 := Hb.mk (At.keep b5 (p := ⟨w4.heap.size + 1, 1, none⟩) (v := .float .f32 Y2) (by simp [go_sem]) (by simp [go_sem])); obtain ⟨s1c, s1z, s1l⟩ := s1.out; clear b5 bb)
        | (go_at_call 12; clear tk_e; refine (KE2.out _).mono ?_; rintro e w8 ⟨rfl, b8⟩; have O4c := Hf.mk (O4b.out.below b8); have B8 := Hb.mk (Below.on (B := w.heap.size) (a := w) (by repeat (first | exact B5.out | refine Below.drews ?_ | refine Below.drew ?_ | refine Below.alloc ?_ (by have hq_ := B5.out.size; first | omega | (simp <;> omega)) _ | refine Below.setCell ?_ (by have hq_ := B5.out.size; first | omega | (simp <;> omega)) _)) b8 (by have hq_ := B5.out.size; first | omega | (simp <;> omega))); clear b8)
        | (go_at_call 22; clear tk_c; refine (toPS_any _ (HR.out.below B8.out) HN.out hl).mono ?_; rintro e w6 ⟨rfl, o6, b6⟩; have O6 := Hf.mk o6; have O7 := Hf.mk (O4c.out.below b6); have B6 := Hb.mk (Below.on (B := w.heap.size) (a := w) (by repeat (first | exact B8.out | refine Below.drews ?_ | refine Below.drew ?_ | refine Below.alloc ?_ (by have hq_ := B8.out.size; first | omega | (simp <;> omega)) _ | refine Below.setCell ?_ (by have hq_ := B8.out.size; first | omega | (simp <;> omega)) _)) b6 (by have hq_ := B8.out.size; first | omega | (simp <;> omega))); clear o6 b6)
        | (go_at_call 24; refine (eqPS_any _ O7.out O6.out HW.out HN.out hl).mono ?_; rintro e w7 ⟨rfl, b7⟩; have B7 := Hb.mk (Below.on (B := w.heap.size) (a := w) (by repeat (first | exact B6.out | refine Below.drews ?_ | refine Below.drew ?_ | refine Below.alloc ?_ (by have hq_ := B6.out.size; first | omega | (simp <;> omega)) _ | refine Below.setCell ?_ (by have hq_ := B6.out.size; first | omega | (simp <;> omega)) _)) b7 (by have hq_ := B6.out.size; first | omega | (simp <;> omega))); clear b7))
      go_ret
      exact ⟨rfl, (by repeat (first | with_reducible refine Below.setCell ?_ (by first | omega | (simp <;> omega)) _ | with_reducible refine Below.drews ?_ | with_reducible refine Below.drew ?_ | with_reducible refine Below.alloc ?_ (by first | omega | (simp <;> omega)) _ | with_reducible exact B7.out | with_reducible exact Below.refl _ _))⟩
  · have KZ := Hf.mk (szPS_no (a := a) (cap := cap) (n := n) (by omega) hm)
    go_enter Try.func8, Try.ntmps8
    go_wp2_with (first | (go_at_call 20; refine (KZ.out _).mono ?_; rintro e w' ⟨rfl, n0, rfl⟩))
    go_ret
    exact ⟨rfl, (by repeat (first | with_reducible refine Below.setCell ?_ (by first | omega | (simp <;> omega)) _ | with_reducible refine Below.drews ?_ | with_reducible refine Below.drew ?_ | with_reducible refine Below.alloc ?_ (by first | omega | (simp <;> omega)) _ | with_reducible exact B0.out | with_reducible exact Below.refl _ _))⟩
end Go.Proofs.Ytfmhbmehidlhiaa
