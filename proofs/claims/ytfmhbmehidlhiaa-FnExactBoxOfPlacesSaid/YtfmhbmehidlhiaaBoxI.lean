/-
  BoxOfPlaces of the program. No premise beyond those named.
-/
import Derived.Test.YtfmhbmehidlhiaaBox
namespace Go.Proofs.Ytfmhbmehidlhiaa
open Go Go.RowKit
set_option maxRecDepth 100000
set_option maxHeartbeats 8000000 in
theorem iBox_many {g n : Nat} {ys : List Nat} (w : World) (hr : FRow w (some ⟨g, 0, none⟩) ys) (hw : Wf ys) (hn : ys.length = 2 * n) (hl : n ≤ 1048576) (h1 : ¬ n = 1) (ha : arePl ys n = true) : Calls Try.prog 26 #[.slice (some ⟨g, 0, none⟩) n n] w (RS (boT (loN ys (n - 1)) (loE ys (n - 1)) (hiN ys (n - 1)) (hiE ys (n - 1)) true) w) := by
  obtain ⟨k1, k64, hv⟩ := arePl_of ha
  have HA := Hb.mk (fun (w' : World) (hr' : FRow w' (some ⟨g, 0, none⟩) ys) => (ha ▸ iArePl_any w' hr' hw hn hl : Calls Try.prog 59 #[.slice (some ⟨g, 0, none⟩) n n] w' (RS (.bool true) w')))
  have HR := Hf.mk hr
  have HN := Hf.mk hn
  have FN := Hb.mk (fun i (hi : i < n) => (vEx hw hn hi (hv i hi)).1)
  have FE := Hb.mk (fun i (hi : i < n) => (vEx hw hn hi (hv i hi)).2.1)
  clear hr hw hn ha hv
  have v0 : 0 < n := by omega
  have lg := block_lt_of_cell (HR.out.twoAt HN.out v0).1
  simp at lg
  go_enter Try.func26, Try.ntmps26
  go_wp2_with (go_at_call 59; fail)
  refine (HA.out _ (HR.out.below (by repeat (first | exact Below.refl _ _ | with_reducible assumption | refine Below.drews ?_ | refine Below.drew ?_ | refine Below.alloc ?_ (by simp <;> omega) _ | refine Below.setCell ?_ (by simp <;> omega) _)))).mono ?_
  rintro ex w1 ⟨rfl, b1⟩
  obtain ⟨sz, bW, z2, z3⟩ := box_zero w 25 b1
  obtain ⟨c0, c1⟩ := (HR.out.below bW).twoAt HN.out v0
  simp only [Nat.zero_mul, Nat.zero_add] at c0 c1
  have lg1 : g < w1.heap.size := by omega
  have BW := Hb.mk bW
  have Z2 := Hb.mk z2
  have Z3 := Hb.mk z3
  have SZ := Hb.mk sz
  clear z2 z3 bW sz b1
  go_wp2
  have hlen := Int.ofNat_lt.2 v0
  go_region
  all_goals
    generalize hW2 : World.alloc (World.alloc w1 (.cells #[.float .f32 (nW ys 0), .float .f32 (eW ys 0)] 25)) (.cells #[.float .f32 (nW ys 0), .float .f32 (eW ys 0)] 25) = W2
    obtain ⟨x5, x6, hb2⟩ := box_two Z2.out Z3.out (by omega) 25 hW2
    generalize hw1 : w1.heap.size = s1 at *
    have szw := BW.out.size
    have BW2 := Hb.mk (show Below w.heap.size w W2.drew from (Below.on BW.out (hw1 ▸ hb2) szw).drew)
    have lb5 : w.heap.size ≤ s1 := by omega
    have lb6 : w.heap.size ≤ s1 + 1 := by omega
    clear hb2 hW2 szw c0 c1 lg1 Z2 Z3 BW SZ hlen
    generalize s1 + 1 = s2 at *
    generalize hW3 : World.drew W2 = W3 at *
    have x7 : Bx W3 w.heap.size (w.heap.size + 1) s1 s2 (nW ys 0) (eW ys 0) (nW ys 0) (eW ys 0) := hW3 ▸ x5.below (Below.refl _ _).drew
    have x8 : Bx W3 w.heap.size (w.heap.size + 1) s2 s1 (nW ys 0) (eW ys 0) (nW ys 0) (eW ys 0) := hW3 ▸ x6.below (Below.refl _ _).drew
    clear x5 x6 hW3
    have lr3 : w.heap.size ≤ w.heap.size + 1 := Nat.le_succ _
    generalize w.heap.size + 1 = r3 at *
  · have x2 := x7
    clear x7 x8
    generalize s1 = b5 at *
    generalize s2 = b6 at *
    obtain ⟨N1, hN1⟩ : ∃ k, k + 1 = n := ⟨n - 1, by omega⟩
    go_wp2
    rw [show n - 1 = N1 by omega]
    go_loopw [23] (fun i wr => ∃ m : Nat, m ≤ N1 ∧ i = .int .i64 (m : Int) ∧ Hb (Bx wr w.heap.size r3 b5 b6 (loN ys m) (loE ys m) (hiN ys m) (hiE ys m)) ∧ Hf (Below w.heap.size w wr)) (fun i _ => N1 - (intOf i).toNat)
    case atStart => exact ⟨0, by omega, rfl, ⟨x2⟩, ⟨BW2.out⟩⟩
    case round =>
      obtain ⟨m, hm, rfl, hx0, hb⟩ := hrel
      have hx := hx0.out
      by_cases hlt : m < N1
      · have xc0 := hx.lo.a0.cell
        have xc1 := hx.lo.a1.cell
        have xz0 := hx.lo.a0.free
        have xz1 := hx.lo.a1.free
        have yc0 := hx.hi.a0.cell
        have yc1 := hx.hi.a1.cell
        have yz0 := hx.hi.a0.free
        have yz1 := hx.hi.a1.free
        have xl := hx.lo.a0.lt
        have yl := hx.hi.a0.lt
        have n56 := hx.n56
        have n65 := Ne.symm hx.n56
        dsimp only at xl yl
        have xne := Nat.ne_of_lt xl
        have yne := Nat.ne_of_lt yl
        have xen := Ne.symm xne
        have yen := Ne.symm yne
        have hgw : g < wr.heap.size := Nat.lt_of_lt_of_le lg hb.out.size
        obtain ⟨c0, c1⟩ := (HR.out.below hb.out).twoAt HN.out (by omega : m + 1 < n)
        rw [show (m + 1) * 2 = 2 + m * 2 by omega] at c0 c1
        have F1 := FN.out (m + 1) (by omega)
        have F2 := FE.out (m + 1) (by omega)
        have F3 := (lo_fl FN.out m (by omega)).1
        have F4 := (lo_fl FN.out m (by omega)).2
        have F5 := (le_fl FE.out m (by omega)).1
        have F6 := (le_fl FE.out m (by omega)).2
        have iq0 : (m : Int) < (N1 : Int) := by omega
        have iq1 : (0 : Int) ≤ (m : Int) := by omega
        have iq2 : (m : Int).toNat = m := by omega
        cases h1 : fcmp .lss .f32 (nW ys (m + 1)) (loN ys m)
        · cases h2 : fcmp .lss .f32 (eW ys (m + 1)) (loE ys m)
          · cases h3 : fcmp .gtr .f32 (nW ys (m + 1)) (hiN ys m)
            · cases h4 : fcmp .gtr .f32 (eW ys (m + 1)) (hiE ys m)
              · go_wp2_with (first | (refine wpList_fcmp rfl rfl rfl rfl rfl (by first | (with_reducible assumption) | (with_reducible exact Fl.ofInt _ _) | exact Fl.not (by decide +kernel) (by decide +kernel)) (by first | (with_reducible assumption) | (with_reducible exact Fl.ofInt _ _) | exact Fl.not (by decide +kernel) (by decide +kernel)) ?_; simp only [Act.put, List.setIfInBounds_toArray, List.set_cons_succ, List.set_cons_zero, h1, h2, h3, h4]))
                go_roundw
                case rel =>
                  refine ⟨m + 1, by omega, i_ext2 (by omega), ⟨?_⟩, ⟨?_⟩⟩
                  · have e1 : loN ys (m + 1) = loN ys m := pick_no h1
                    have e2 : loE ys (m + 1) = loE ys m := pick_no h2
                    have e3 : hiN ys (m + 1) = hiN ys m := pick_no h3
                    have e4 : hiE ys (m + 1) = hiE ys m := pick_no h4
                    rw [e1, e2, e3, e4]
                    exact (hx).al _
                  · exact (by with_reducible repeat (first | exact hb.out | refine Below.setCell ?_ (by first | exact lb5 | exact lb6) _ | refine Below.alloc ?_ (by first | exact hb.out.size | (simp; exact hb.out.size)) _))
                case measure => simp [intOf]; omega
              · go_wp2_with (first | (refine wpList_fcmp rfl rfl rfl rfl rfl (by first | (with_reducible assumption) | (with_reducible exact Fl.ofInt _ _) | exact Fl.not (by decide +kernel) (by decide +kernel)) (by first | (with_reducible assumption) | (with_reducible exact Fl.ofInt _ _) | exact Fl.not (by decide +kernel) (by decide +kernel)) ?_; simp only [Act.put, List.setIfInBounds_toArray, List.set_cons_succ, List.set_cons_zero, h1, h2, h3, h4]))
                go_roundw
                case rel =>
                  refine ⟨m + 1, by omega, i_ext2 (by omega), ⟨?_⟩, ⟨?_⟩⟩
                  · have e1 : loN ys (m + 1) = loN ys m := pick_no h1
                    have e2 : loE ys (m + 1) = loE ys m := pick_no h2
                    have e3 : hiN ys (m + 1) = hiN ys m := pick_no h3
                    have e4 : hiE ys (m + 1) = eW ys (m + 1) := pick_yes h4
                    rw [e1, e2, e3, e4]
                    exact ((hx).s4 _).al _
                  · exact (by with_reducible repeat (first | exact hb.out | refine Below.setCell ?_ (by first | exact lb5 | exact lb6) _ | refine Below.alloc ?_ (by first | exact hb.out.size | (simp; exact hb.out.size)) _))
                case measure => simp [intOf]; omega
            · cases h4 : fcmp .gtr .f32 (eW ys (m + 1)) (hiE ys m)
              · go_wp2_with (first | (refine wpList_fcmp rfl rfl rfl rfl rfl (by first | (with_reducible assumption) | (with_reducible exact Fl.ofInt _ _) | exact Fl.not (by decide +kernel) (by decide +kernel)) (by first | (with_reducible assumption) | (with_reducible exact Fl.ofInt _ _) | exact Fl.not (by decide +kernel) (by decide +kernel)) ?_; simp only [Act.put, List.setIfInBounds_toArray, List.set_cons_succ, List.set_cons_zero, h1, h2, h3, h4]))
                go_roundw
                case rel =>
                  refine ⟨m + 1, by omega, i_ext2 (by omega), ⟨?_⟩, ⟨?_⟩⟩
                  · have e1 : loN ys (m + 1) = loN ys m := pick_no h1
                    have e2 : loE ys (m + 1) = loE ys m := pick_no h2
                    have e3 : hiN ys (m + 1) = nW ys (m + 1) := pick_yes h3
                    have e4 : hiE ys (m + 1) = hiE ys m := pick_no h4
                    rw [e1, e2, e3, e4]
                    exact ((hx).s3 _).al _
                  · exact (by with_reducible repeat (first | exact hb.out | refine Below.setCell ?_ (by first | exact lb5 | exact lb6) _ | refine Below.alloc ?_ (by first | exact hb.out.size | (simp; exact hb.out.size)) _))
                case measure => simp [intOf]; omega
              · go_wp2_with (first | (refine wpList_fcmp rfl rfl rfl rfl rfl (by first | (with_reducible assumption) | (with_reducible exact Fl.ofInt _ _) | exact Fl.not (by decide +kernel) (by decide +kernel)) (by first | (with_reducible assumption) | (with_reducible exact Fl.ofInt _ _) | exact Fl.not (by decide +kernel) (by decide +kernel)) ?_; simp only [Act.put, List.setIfInBounds_toArray, List.set_cons_succ, List.set_cons_zero, h1, h2, h3, h4]))
                go_roundw
                case rel =>
                  refine ⟨m + 1, by omega, i_ext2 (by omega), ⟨?_⟩, ⟨?_⟩⟩
                  · have e1 : loN ys (m + 1) = loN ys m := pick_no h1
                    have e2 : loE ys (m + 1) = loE ys m := pick_no h2
                    have e3 : hiN ys (m + 1) = nW ys (m + 1) := pick_yes h3
                    have e4 : hiE ys (m + 1) = eW ys (m + 1) := pick_yes h4
                    rw [e1, e2, e3, e4]
                    exact (((hx).s3 _).s4 _).al _
                  · exact (by with_reducible repeat (first | exact hb.out | refine Below.setCell ?_ (by first | exact lb5 | exact lb6) _ | refine Below.alloc ?_ (by first | exact hb.out.size | (simp; exact hb.out.size)) _))
                case measure => simp [intOf]; omega
          · cases h3 : fcmp .gtr .f32 (nW ys (m + 1)) (hiN ys m)
            · cases h4 : fcmp .gtr .f32 (eW ys (m + 1)) (hiE ys m)
              · go_wp2_with (first | (refine wpList_fcmp rfl rfl rfl rfl rfl (by first | (with_reducible assumption) | (with_reducible exact Fl.ofInt _ _) | exact Fl.not (by decide +kernel) (by decide +kernel)) (by first | (with_reducible assumption) | (with_reducible exact Fl.ofInt _ _) | exact Fl.not (by decide +kernel) (by decide +kernel)) ?_; simp only [Act.put, List.setIfInBounds_toArray, List.set_cons_succ, List.set_cons_zero, h1, h2, h3, h4]))
                go_roundw
                case rel =>
                  refine ⟨m + 1, by omega, i_ext2 (by omega), ⟨?_⟩, ⟨?_⟩⟩
                  · have e1 : loN ys (m + 1) = loN ys m := pick_no h1
                    have e2 : loE ys (m + 1) = eW ys (m + 1) := pick_yes h2
                    have e3 : hiN ys (m + 1) = hiN ys m := pick_no h3
                    have e4 : hiE ys (m + 1) = hiE ys m := pick_no h4
                    rw [e1, e2, e3, e4]
                    exact ((hx).s2 _).al _
                  · exact (by with_reducible repeat (first | exact hb.out | refine Below.setCell ?_ (by first | exact lb5 | exact lb6) _ | refine Below.alloc ?_ (by first | exact hb.out.size | (simp; exact hb.out.size)) _))
                case measure => simp [intOf]; omega
              · go_wp2_with (first | (refine wpList_fcmp rfl rfl rfl rfl rfl (by first | (with_reducible assumption) | (with_reducible exact Fl.ofInt _ _) | exact Fl.not (by decide +kernel) (by decide +kernel)) (by first | (with_reducible assumption) | (with_reducible exact Fl.ofInt _ _) | exact Fl.not (by decide +kernel) (by decide +kernel)) ?_; simp only [Act.put, List.setIfInBounds_toArray, List.set_cons_succ, List.set_cons_zero, h1, h2, h3, h4]))
                go_roundw
                case rel =>
                  refine ⟨m + 1, by omega, i_ext2 (by omega), ⟨?_⟩, ⟨?_⟩⟩
                  · have e1 : loN ys (m + 1) = loN ys m := pick_no h1
                    have e2 : loE ys (m + 1) = eW ys (m + 1) := pick_yes h2
                    have e3 : hiN ys (m + 1) = hiN ys m := pick_no h3
                    have e4 : hiE ys (m + 1) = eW ys (m + 1) := pick_yes h4
                    rw [e1, e2, e3, e4]
                    exact (((hx).s2 _).s4 _).al _
                  · exact (by with_reducible repeat (first | exact hb.out | refine Below.setCell ?_ (by first | exact lb5 | exact lb6) _ | refine Below.alloc ?_ (by first | exact hb.out.size | (simp; exact hb.out.size)) _))
                case measure => simp [intOf]; omega
            · cases h4 : fcmp .gtr .f32 (eW ys (m + 1)) (hiE ys m)
              · go_wp2_with (first | (refine wpList_fcmp rfl rfl rfl rfl rfl (by first | (with_reducible assumption) | (with_reducible exact Fl.ofInt _ _) | exact Fl.not (by decide +kernel) (by decide +kernel)) (by first | (with_reducible assumption) | (with_reducible exact Fl.ofInt _ _) | exact Fl.not (by decide +kernel) (by decide +kernel)) ?_; simp only [Act.put, List.setIfInBounds_toArray, List.set_cons_succ, List.set_cons_zero, h1, h2, h3, h4]))
                go_roundw
                case rel =>
                  refine ⟨m + 1, by omega, i_ext2 (by omega), ⟨?_⟩, ⟨?_⟩⟩
                  · have e1 : loN ys (m + 1) = loN ys m := pick_no h1
                    have e2 : loE ys (m + 1) = eW ys (m + 1) := pick_yes h2
                    have e3 : hiN ys (m + 1) = nW ys (m + 1) := pick_yes h3
                    have e4 : hiE ys (m + 1) = hiE ys m := pick_no h4
                    rw [e1, e2, e3, e4]
                    exact (((hx).s2 _).s3 _).al _
                  · exact (by with_reducible repeat (first | exact hb.out | refine Below.setCell ?_ (by first | exact lb5 | exact lb6) _ | refine Below.alloc ?_ (by first | exact hb.out.size | (simp; exact hb.out.size)) _))
                case measure => simp [intOf]; omega
              · go_wp2_with (first | (refine wpList_fcmp rfl rfl rfl rfl rfl (by first | (with_reducible assumption) | (with_reducible exact Fl.ofInt _ _) | exact Fl.not (by decide +kernel) (by decide +kernel)) (by first | (with_reducible assumption) | (with_reducible exact Fl.ofInt _ _) | exact Fl.not (by decide +kernel) (by decide +kernel)) ?_; simp only [Act.put, List.setIfInBounds_toArray, List.set_cons_succ, List.set_cons_zero, h1, h2, h3, h4]))
                go_roundw
                case rel =>
                  refine ⟨m + 1, by omega, i_ext2 (by omega), ⟨?_⟩, ⟨?_⟩⟩
                  · have e1 : loN ys (m + 1) = loN ys m := pick_no h1
                    have e2 : loE ys (m + 1) = eW ys (m + 1) := pick_yes h2
                    have e3 : hiN ys (m + 1) = nW ys (m + 1) := pick_yes h3
                    have e4 : hiE ys (m + 1) = eW ys (m + 1) := pick_yes h4
                    rw [e1, e2, e3, e4]
                    exact ((((hx).s2 _).s3 _).s4 _).al _
                  · exact (by with_reducible repeat (first | exact hb.out | refine Below.setCell ?_ (by first | exact lb5 | exact lb6) _ | refine Below.alloc ?_ (by first | exact hb.out.size | (simp; exact hb.out.size)) _))
                case measure => simp [intOf]; omega
        · cases h2 : fcmp .lss .f32 (eW ys (m + 1)) (loE ys m)
          · cases h3 : fcmp .gtr .f32 (nW ys (m + 1)) (hiN ys m)
            · cases h4 : fcmp .gtr .f32 (eW ys (m + 1)) (hiE ys m)
              · go_wp2_with (first | (refine wpList_fcmp rfl rfl rfl rfl rfl (by first | (with_reducible assumption) | (with_reducible exact Fl.ofInt _ _) | exact Fl.not (by decide +kernel) (by decide +kernel)) (by first | (with_reducible assumption) | (with_reducible exact Fl.ofInt _ _) | exact Fl.not (by decide +kernel) (by decide +kernel)) ?_; simp only [Act.put, List.setIfInBounds_toArray, List.set_cons_succ, List.set_cons_zero, h1, h2, h3, h4]))
                go_roundw
                case rel =>
                  refine ⟨m + 1, by omega, i_ext2 (by omega), ⟨?_⟩, ⟨?_⟩⟩
                  · have e1 : loN ys (m + 1) = nW ys (m + 1) := pick_yes h1
                    have e2 : loE ys (m + 1) = loE ys m := pick_no h2
                    have e3 : hiN ys (m + 1) = hiN ys m := pick_no h3
                    have e4 : hiE ys (m + 1) = hiE ys m := pick_no h4
                    rw [e1, e2, e3, e4]
                    exact ((hx).s1 _).al _
                  · exact (by with_reducible repeat (first | exact hb.out | refine Below.setCell ?_ (by first | exact lb5 | exact lb6) _ | refine Below.alloc ?_ (by first | exact hb.out.size | (simp; exact hb.out.size)) _))
                case measure => simp [intOf]; omega
              · go_wp2_with (first | (refine wpList_fcmp rfl rfl rfl rfl rfl (by first | (with_reducible assumption) | (with_reducible exact Fl.ofInt _ _) | exact Fl.not (by decide +kernel) (by decide +kernel)) (by first | (with_reducible assumption) | (with_reducible exact Fl.ofInt _ _) | exact Fl.not (by decide +kernel) (by decide +kernel)) ?_; simp only [Act.put, List.setIfInBounds_toArray, List.set_cons_succ, List.set_cons_zero, h1, h2, h3, h4]))
                go_roundw
                case rel =>
                  refine ⟨m + 1, by omega, i_ext2 (by omega), ⟨?_⟩, ⟨?_⟩⟩
                  · have e1 : loN ys (m + 1) = nW ys (m + 1) := pick_yes h1
                    have e2 : loE ys (m + 1) = loE ys m := pick_no h2
                    have e3 : hiN ys (m + 1) = hiN ys m := pick_no h3
                    have e4 : hiE ys (m + 1) = eW ys (m + 1) := pick_yes h4
                    rw [e1, e2, e3, e4]
                    exact (((hx).s1 _).s4 _).al _
                  · exact (by with_reducible repeat (first | exact hb.out | refine Below.setCell ?_ (by first | exact lb5 | exact lb6) _ | refine Below.alloc ?_ (by first | exact hb.out.size | (simp; exact hb.out.size)) _))
                case measure => simp [intOf]; omega
            · cases h4 : fcmp .gtr .f32 (eW ys (m + 1)) (hiE ys m)
              · go_wp2_with (first | (refine wpList_fcmp rfl rfl rfl rfl rfl (by first | (with_reducible assumption) | (with_reducible exact Fl.ofInt _ _) | exact Fl.not (by decide +kernel) (by decide +kernel)) (by first | (with_reducible assumption) | (with_reducible exact Fl.ofInt _ _) | exact Fl.not (by decide +kernel) (by decide +kernel)) ?_; simp only [Act.put, List.setIfInBounds_toArray, List.set_cons_succ, List.set_cons_zero, h1, h2, h3, h4]))
                go_roundw
                case rel =>
                  refine ⟨m + 1, by omega, i_ext2 (by omega), ⟨?_⟩, ⟨?_⟩⟩
                  · have e1 : loN ys (m + 1) = nW ys (m + 1) := pick_yes h1
                    have e2 : loE ys (m + 1) = loE ys m := pick_no h2
                    have e3 : hiN ys (m + 1) = nW ys (m + 1) := pick_yes h3
                    have e4 : hiE ys (m + 1) = hiE ys m := pick_no h4
                    rw [e1, e2, e3, e4]
                    exact (((hx).s1 _).s3 _).al _
                  · exact (by with_reducible repeat (first | exact hb.out | refine Below.setCell ?_ (by first | exact lb5 | exact lb6) _ | refine Below.alloc ?_ (by first | exact hb.out.size | (simp; exact hb.out.size)) _))
                case measure => simp [intOf]; omega
              · go_wp2_with (first | (refine wpList_fcmp rfl rfl rfl rfl rfl (by first | (with_reducible assumption) | (with_reducible exact Fl.ofInt _ _) | exact Fl.not (by decide +kernel) (by decide +kernel)) (by first | (with_reducible assumption) | (with_reducible exact Fl.ofInt _ _) | exact Fl.not (by decide +kernel) (by decide +kernel)) ?_; simp only [Act.put, List.setIfInBounds_toArray, List.set_cons_succ, List.set_cons_zero, h1, h2, h3, h4]))
                go_roundw
                case rel =>
                  refine ⟨m + 1, by omega, i_ext2 (by omega), ⟨?_⟩, ⟨?_⟩⟩
                  · have e1 : loN ys (m + 1) = nW ys (m + 1) := pick_yes h1
                    have e2 : loE ys (m + 1) = loE ys m := pick_no h2
                    have e3 : hiN ys (m + 1) = nW ys (m + 1) := pick_yes h3
                    have e4 : hiE ys (m + 1) = eW ys (m + 1) := pick_yes h4
                    rw [e1, e2, e3, e4]
                    exact ((((hx).s1 _).s3 _).s4 _).al _
                  · exact (by with_reducible repeat (first | exact hb.out | refine Below.setCell ?_ (by first | exact lb5 | exact lb6) _ | refine Below.alloc ?_ (by first | exact hb.out.size | (simp; exact hb.out.size)) _))
                case measure => simp [intOf]; omega
          · cases h3 : fcmp .gtr .f32 (nW ys (m + 1)) (hiN ys m)
            · cases h4 : fcmp .gtr .f32 (eW ys (m + 1)) (hiE ys m)
              · go_wp2_with (first | (refine wpList_fcmp rfl rfl rfl rfl rfl (by first | (with_reducible assumption) | (with_reducible exact Fl.ofInt _ _) | exact Fl.not (by decide +kernel) (by decide +kernel)) (by first | (with_reducible assumption) | (with_reducible exact Fl.ofInt _ _) | exact Fl.not (by decide +kernel) (by decide +kernel)) ?_; simp only [Act.put, List.setIfInBounds_toArray, List.set_cons_succ, List.set_cons_zero, h1, h2, h3, h4]))
                go_roundw
                case rel =>
                  refine ⟨m + 1, by omega, i_ext2 (by omega), ⟨?_⟩, ⟨?_⟩⟩
                  · have e1 : loN ys (m + 1) = nW ys (m + 1) := pick_yes h1
                    have e2 : loE ys (m + 1) = eW ys (m + 1) := pick_yes h2
                    have e3 : hiN ys (m + 1) = hiN ys m := pick_no h3
                    have e4 : hiE ys (m + 1) = hiE ys m := pick_no h4
                    rw [e1, e2, e3, e4]
                    exact (((hx).s1 _).s2 _).al _
                  · exact (by with_reducible repeat (first | exact hb.out | refine Below.setCell ?_ (by first | exact lb5 | exact lb6) _ | refine Below.alloc ?_ (by first | exact hb.out.size | (simp; exact hb.out.size)) _))
                case measure => simp [intOf]; omega
              · go_wp2_with (first | (refine wpList_fcmp rfl rfl rfl rfl rfl (by first | (with_reducible assumption) | (with_reducible exact Fl.ofInt _ _) | exact Fl.not (by decide +kernel) (by decide +kernel)) (by first | (with_reducible assumption) | (with_reducible exact Fl.ofInt _ _) | exact Fl.not (by decide +kernel) (by decide +kernel)) ?_; simp only [Act.put, List.setIfInBounds_toArray, List.set_cons_succ, List.set_cons_zero, h1, h2, h3, h4]))
                go_roundw
                case rel =>
                  refine ⟨m + 1, by omega, i_ext2 (by omega), ⟨?_⟩, ⟨?_⟩⟩
                  · have e1 : loN ys (m + 1) = nW ys (m + 1) := pick_yes h1
                    have e2 : loE ys (m + 1) = eW ys (m + 1) := pick_yes h2
                    have e3 : hiN ys (m + 1) = hiN ys m := pick_no h3
                    have e4 : hiE ys (m + 1) = eW ys (m + 1) := pick_yes h4
                    rw [e1, e2, e3, e4]
                    exact ((((hx).s1 _).s2 _).s4 _).al _
                  · exact (by with_reducible repeat (first | exact hb.out | refine Below.setCell ?_ (by first | exact lb5 | exact lb6) _ | refine Below.alloc ?_ (by first | exact hb.out.size | (simp; exact hb.out.size)) _))
                case measure => simp [intOf]; omega
            · cases h4 : fcmp .gtr .f32 (eW ys (m + 1)) (hiE ys m)
              · go_wp2_with (first | (refine wpList_fcmp rfl rfl rfl rfl rfl (by first | (with_reducible assumption) | (with_reducible exact Fl.ofInt _ _) | exact Fl.not (by decide +kernel) (by decide +kernel)) (by first | (with_reducible assumption) | (with_reducible exact Fl.ofInt _ _) | exact Fl.not (by decide +kernel) (by decide +kernel)) ?_; simp only [Act.put, List.setIfInBounds_toArray, List.set_cons_succ, List.set_cons_zero, h1, h2, h3, h4]))
                go_roundw
                case rel =>
                  refine ⟨m + 1, by omega, i_ext2 (by omega), ⟨?_⟩, ⟨?_⟩⟩
                  · have e1 : loN ys (m + 1) = nW ys (m + 1) := pick_yes h1
                    have e2 : loE ys (m + 1) = eW ys (m + 1) := pick_yes h2
                    have e3 : hiN ys (m + 1) = nW ys (m + 1) := pick_yes h3
                    have e4 : hiE ys (m + 1) = hiE ys m := pick_no h4
                    rw [e1, e2, e3, e4]
                    exact ((((hx).s1 _).s2 _).s3 _).al _
                  · exact (by with_reducible repeat (first | exact hb.out | refine Below.setCell ?_ (by first | exact lb5 | exact lb6) _ | refine Below.alloc ?_ (by first | exact hb.out.size | (simp; exact hb.out.size)) _))
                case measure => simp [intOf]; omega
              · go_wp2_with (first | (refine wpList_fcmp rfl rfl rfl rfl rfl (by first | (with_reducible assumption) | (with_reducible exact Fl.ofInt _ _) | exact Fl.not (by decide +kernel) (by decide +kernel)) (by first | (with_reducible assumption) | (with_reducible exact Fl.ofInt _ _) | exact Fl.not (by decide +kernel) (by decide +kernel)) ?_; simp only [Act.put, List.setIfInBounds_toArray, List.set_cons_succ, List.set_cons_zero, h1, h2, h3, h4]))
                go_roundw
                case rel =>
                  refine ⟨m + 1, by omega, i_ext2 (by omega), ⟨?_⟩, ⟨?_⟩⟩
                  · have e1 : loN ys (m + 1) = nW ys (m + 1) := pick_yes h1
                    have e2 : loE ys (m + 1) = eW ys (m + 1) := pick_yes h2
                    have e3 : hiN ys (m + 1) = nW ys (m + 1) := pick_yes h3
                    have e4 : hiE ys (m + 1) = eW ys (m + 1) := pick_yes h4
                    rw [e1, e2, e3, e4]
                    exact (((((hx).s1 _).s2 _).s3 _).s4 _).al _
                  · exact (by with_reducible repeat (first | exact hb.out | refine Below.setCell ?_ (by first | exact lb5 | exact lb6) _ | refine Below.alloc ?_ (by first | exact hb.out.size | (simp; exact hb.out.size)) _))
                case measure => simp [intOf]; omega
      · have hmn : n - 1 = m := by omega
        have xc0 := hx.lo.a0.cell
        have xc1 := hx.lo.a1.cell
        have xz0 := hx.lo.a0.free
        have xz1 := hx.lo.a1.free
        have yc0 := hx.hi.a0.cell
        have yc1 := hx.hi.a1.cell
        have yz0 := hx.hi.a0.free
        have yz1 := hx.hi.a1.free
        have xl := hx.lo.a0.lt
        have yl := hx.hi.a0.lt
        have n56 := hx.n56
        have n65 := Ne.symm hx.n56
        dsimp only at xl yl
        have xne := Nat.ne_of_lt xl
        have yne := Nat.ne_of_lt yl
        have xen := Ne.symm xne
        have yen := Ne.symm yne
        have q0 := hx.z2.a0.cell
        have q1 := hx.z2.a1.cell
        have q2 := hx.z3.a0.cell
        have q3 := hx.z3.a1.cell
        have q4 := hx.z2.a0.free
        have q5 := hx.z2.a1.free
        have q6 := hx.z3.a0.free
        have q7 := hx.z3.a1.free
        have d1 := hx.n25
        have d2 := hx.n26
        have d3 := hx.n35
        have d4 := hx.n36
        have d5 := hx.n23
        have d6 := Ne.symm d1
        have d7 := Ne.symm d2
        have d8 := Ne.symm d3
        have d9 := Ne.symm d4
        have d10 := Ne.symm d5
        go_wp2
        go_region
        all_goals
          go_wp2
          exact bodyPost_ret (v := boT (loN ys m) (loE ys m) (hiN ys m) (hiE ys m) true) (by simp [results, Try.results26, go_sem, q0, q1, q2, q3]) rfl ⟨by rw [hmn], by with_reducible repeat (first | exact hb.out | refine Below.setCell ?_ (by first | exact Nat.le_refl _ | exact lr3) _ | refine Below.drew ?_)⟩
  · have x2 := x8
    clear x7 x8
    generalize s2 = b5 at *
    generalize s1 = b6 at *
    obtain ⟨N1, hN1⟩ : ∃ k, k + 1 = n := ⟨n - 1, by omega⟩
    go_wp2
    rw [show n - 1 = N1 by omega]
    go_loopw [23] (fun i wr => ∃ m : Nat, m ≤ N1 ∧ i = .int .i64 (m : Int) ∧ Hb (Bx wr w.heap.size r3 b5 b6 (loN ys m) (loE ys m) (hiN ys m) (hiE ys m)) ∧ Hf (Below w.heap.size w wr)) (fun i _ => N1 - (intOf i).toNat)
    case atStart => exact ⟨0, by omega, rfl, ⟨x2⟩, ⟨BW2.out⟩⟩
    case round =>
      obtain ⟨m, hm, rfl, hx0, hb⟩ := hrel
      have hx := hx0.out
      by_cases hlt : m < N1
      · have xc0 := hx.lo.a0.cell
        have xc1 := hx.lo.a1.cell
        have xz0 := hx.lo.a0.free
        have xz1 := hx.lo.a1.free
        have yc0 := hx.hi.a0.cell
        have yc1 := hx.hi.a1.cell
        have yz0 := hx.hi.a0.free
        have yz1 := hx.hi.a1.free
        have xl := hx.lo.a0.lt
        have yl := hx.hi.a0.lt
        have n56 := hx.n56
        have n65 := Ne.symm hx.n56
        dsimp only at xl yl
        have xne := Nat.ne_of_lt xl
        have yne := Nat.ne_of_lt yl
        have xen := Ne.symm xne
        have yen := Ne.symm yne
        have hgw : g < wr.heap.size := Nat.lt_of_lt_of_le lg hb.out.size
        obtain ⟨c0, c1⟩ := (HR.out.below hb.out).twoAt HN.out (by omega : m + 1 < n)
        rw [show (m + 1) * 2 = 2 + m * 2 by omega] at c0 c1
        have F1 := FN.out (m + 1) (by omega)
        have F2 := FE.out (m + 1) (by omega)
        have F3 := (lo_fl FN.out m (by omega)).1
        have F4 := (lo_fl FN.out m (by omega)).2
        have F5 := (le_fl FE.out m (by omega)).1
        have F6 := (le_fl FE.out m (by omega)).2
        have iq0 : (m : Int) < (N1 : Int) := by omega
        have iq1 : (0 : Int) ≤ (m : Int) := by omega
        have iq2 : (m : Int).toNat = m := by omega
        cases h1 : fcmp .lss .f32 (nW ys (m + 1)) (loN ys m)
        · cases h2 : fcmp .lss .f32 (eW ys (m + 1)) (loE ys m)
          · cases h3 : fcmp .gtr .f32 (nW ys (m + 1)) (hiN ys m)
            · cases h4 : fcmp .gtr .f32 (eW ys (m + 1)) (hiE ys m)
              · go_wp2_with (first | (refine wpList_fcmp rfl rfl rfl rfl rfl (by first | (with_reducible assumption) | (with_reducible exact Fl.ofInt _ _) | exact Fl.not (by decide +kernel) (by decide +kernel)) (by first | (with_reducible assumption) | (with_reducible exact Fl.ofInt _ _) | exact Fl.not (by decide +kernel) (by decide +kernel)) ?_; simp only [Act.put, List.setIfInBounds_toArray, List.set_cons_succ, List.set_cons_zero, h1, h2, h3, h4]))
                go_roundw
                case rel =>
                  refine ⟨m + 1, by omega, i_ext2 (by omega), ⟨?_⟩, ⟨?_⟩⟩
                  · have e1 : loN ys (m + 1) = loN ys m := pick_no h1
                    have e2 : loE ys (m + 1) = loE ys m := pick_no h2
                    have e3 : hiN ys (m + 1) = hiN ys m := pick_no h3
                    have e4 : hiE ys (m + 1) = hiE ys m := pick_no h4
                    rw [e1, e2, e3, e4]
                    exact (hx).al _
                  · exact (by with_reducible repeat (first | exact hb.out | refine Below.setCell ?_ (by first | exact lb5 | exact lb6) _ | refine Below.alloc ?_ (by first | exact hb.out.size | (simp; exact hb.out.size)) _))
                case measure => simp [intOf]; omega
              · go_wp2_with (first | (refine wpList_fcmp rfl rfl rfl rfl rfl (by first | (with_reducible assumption) | (with_reducible exact Fl.ofInt _ _) | exact Fl.not (by decide +kernel) (by decide +kernel)) (by first | (with_reducible assumption) | (with_reducible exact Fl.ofInt _ _) | exact Fl.not (by decide +kernel) (by decide +kernel)) ?_; simp only [Act.put, List.setIfInBounds_toArray, List.set_cons_succ, List.set_cons_zero, h1, h2, h3, h4]))
                go_roundw
                case rel =>
                  refine ⟨m + 1, by omega, i_ext2 (by omega), ⟨?_⟩, ⟨?_⟩⟩
                  · have e1 : loN ys (m + 1) = loN ys m := pick_no h1
                    have e2 : loE ys (m + 1) = loE ys m := pick_no h2
                    have e3 : hiN ys (m + 1) = hiN ys m := pick_no h3
                    have e4 : hiE ys (m + 1) = eW ys (m + 1) := pick_yes h4
                    rw [e1, e2, e3, e4]
                    exact ((hx).s4 _).al _
                  · exact (by with_reducible repeat (first | exact hb.out | refine Below.setCell ?_ (by first | exact lb5 | exact lb6) _ | refine Below.alloc ?_ (by first | exact hb.out.size | (simp; exact hb.out.size)) _))
                case measure => simp [intOf]; omega
            · cases h4 : fcmp .gtr .f32 (eW ys (m + 1)) (hiE ys m)
              · go_wp2_with (first | (refine wpList_fcmp rfl rfl rfl rfl rfl (by first | (with_reducible assumption) | (with_reducible exact Fl.ofInt _ _) | exact Fl.not (by decide +kernel) (by decide +kernel)) (by first | (with_reducible assumption) | (with_reducible exact Fl.ofInt _ _) | exact Fl.not (by decide +kernel) (by decide +kernel)) ?_; simp only [Act.put, List.setIfInBounds_toArray, List.set_cons_succ, List.set_cons_zero, h1, h2, h3, h4]))
                go_roundw
                case rel =>
                  refine ⟨m + 1, by omega, i_ext2 (by omega), ⟨?_⟩, ⟨?_⟩⟩
                  · have e1 : loN ys (m + 1) = loN ys m := pick_no h1
                    have e2 : loE ys (m + 1) = loE ys m := pick_no h2
                    have e3 : hiN ys (m + 1) = nW ys (m + 1) := pick_yes h3
                    have e4 : hiE ys (m + 1) = hiE ys m := pick_no h4
                    rw [e1, e2, e3, e4]
                    exact ((hx).s3 _).al _
                  · exact (by with_reducible repeat (first | exact hb.out | refine Below.setCell ?_ (by first | exact lb5 | exact lb6) _ | refine Below.alloc ?_ (by first | exact hb.out.size | (simp; exact hb.out.size)) _))
                case measure => simp [intOf]; omega
              · go_wp2_with (first | (refine wpList_fcmp rfl rfl rfl rfl rfl (by first | (with_reducible assumption) | (with_reducible exact Fl.ofInt _ _) | exact Fl.not (by decide +kernel) (by decide +kernel)) (by first | (with_reducible assumption) | (with_reducible exact Fl.ofInt _ _) | exact Fl.not (by decide +kernel) (by decide +kernel)) ?_; simp only [Act.put, List.setIfInBounds_toArray, List.set_cons_succ, List.set_cons_zero, h1, h2, h3, h4]))
                go_roundw
                case rel =>
                  refine ⟨m + 1, by omega, i_ext2 (by omega), ⟨?_⟩, ⟨?_⟩⟩
                  · have e1 : loN ys (m + 1) = loN ys m := pick_no h1
                    have e2 : loE ys (m + 1) = loE ys m := pick_no h2
                    have e3 : hiN ys (m + 1) = nW ys (m + 1) := pick_yes h3
                    have e4 : hiE ys (m + 1) = eW ys (m + 1) := pick_yes h4
                    rw [e1, e2, e3, e4]
                    exact (((hx).s3 _).s4 _).al _
                  · exact (by with_reducible repeat (first | exact hb.out | refine Below.setCell ?_ (by first | exact lb5 | exact lb6) _ | refine Below.alloc ?_ (by first | exact hb.out.size | (simp; exact hb.out.size)) _))
                case measure => simp [intOf]; omega
          · cases h3 : fcmp .gtr .f32 (nW ys (m + 1)) (hiN ys m)
            · cases h4 : fcmp .gtr .f32 (eW ys (m + 1)) (hiE ys m)
              · go_wp2_with (first | (refine wpList_fcmp rfl rfl rfl rfl rfl (by first | (with_reducible assumption) | (with_reducible exact Fl.ofInt _ _) | exact Fl.not (by decide +kernel) (by decide +kernel)) (by first | (with_reducible assumption) | (with_reducible exact Fl.ofInt _ _) | exact Fl.not (by decide +kernel) (by decide +kernel)) ?_; simp only [Act.put, List.setIfInBounds_toArray, List.set_cons_succ, List.set_cons_zero, h1, h2, h3, h4]))
                go_roundw
                case rel =>
                  refine ⟨m + 1, by omega, i_ext2 (by omega), ⟨?_⟩, ⟨?_⟩⟩
                  · have e1 : loN ys (m + 1) = loN ys m := pick_no h1
                    have e2 : loE ys (m + 1) = eW ys (m + 1) := pick_yes h2
                    have e3 : hiN ys (m + 1) = hiN ys m := pick_no h3
                    have e4 : hiE ys (m + 1) = hiE ys m := pick_no h4
                    rw [e1, e2, e3, e4]
                    exact ((hx).s2 _).al _
                  · exact (by with_reducible repeat (first | exact hb.out | refine Below.setCell ?_ (by first | exact lb5 | exact lb6) _ | refine Below.alloc ?_ (by first | exact hb.out.size | (simp; exact hb.out.size)) _))
                case measure => simp [intOf]; omega
              · go_wp2_with (first | (refine wpList_fcmp rfl rfl rfl rfl rfl (by first | (with_reducible assumption) | (with_reducible exact Fl.ofInt _ _) | exact Fl.not (by decide +kernel) (by decide +kernel)) (by first | (with_reducible assumption) | (with_reducible exact Fl.ofInt _ _) | exact Fl.not (by decide +kernel) (by decide +kernel)) ?_; simp only [Act.put, List.setIfInBounds_toArray, List.set_cons_succ, List.set_cons_zero, h1, h2, h3, h4]))
                go_roundw
                case rel =>
                  refine ⟨m + 1, by omega, i_ext2 (by omega), ⟨?_⟩, ⟨?_⟩⟩
                  · have e1 : loN ys (m + 1) = loN ys m := pick_no h1
                    have e2 : loE ys (m + 1) = eW ys (m + 1) := pick_yes h2
                    have e3 : hiN ys (m + 1) = hiN ys m := pick_no h3
                    have e4 : hiE ys (m + 1) = eW ys (m + 1) := pick_yes h4
                    rw [e1, e2, e3, e4]
                    exact (((hx).s2 _).s4 _).al _
                  · exact (by with_reducible repeat (first | exact hb.out | refine Below.setCell ?_ (by first | exact lb5 | exact lb6) _ | refine Below.alloc ?_ (by first | exact hb.out.size | (simp; exact hb.out.size)) _))
                case measure => simp [intOf]; omega
            · cases h4 : fcmp .gtr .f32 (eW ys (m + 1)) (hiE ys m)
              · go_wp2_with (first | (refine wpList_fcmp rfl rfl rfl rfl rfl (by first | (with_reducible assumption) | (with_reducible exact Fl.ofInt _ _) | exact Fl.not (by decide +kernel) (by decide +kernel)) (by first | (with_reducible assumption) | (with_reducible exact Fl.ofInt _ _) | exact Fl.not (by decide +kernel) (by decide +kernel)) ?_; simp only [Act.put, List.setIfInBounds_toArray, List.set_cons_succ, List.set_cons_zero, h1, h2, h3, h4]))
                go_roundw
                case rel =>
                  refine ⟨m + 1, by omega, i_ext2 (by omega), ⟨?_⟩, ⟨?_⟩⟩
                  · have e1 : loN ys (m + 1) = loN ys m := pick_no h1
                    have e2 : loE ys (m + 1) = eW ys (m + 1) := pick_yes h2
                    have e3 : hiN ys (m + 1) = nW ys (m + 1) := pick_yes h3
                    have e4 : hiE ys (m + 1) = hiE ys m := pick_no h4
                    rw [e1, e2, e3, e4]
                    exact (((hx).s2 _).s3 _).al _
                  · exact (by with_reducible repeat (first | exact hb.out | refine Below.setCell ?_ (by first | exact lb5 | exact lb6) _ | refine Below.alloc ?_ (by first | exact hb.out.size | (simp; exact hb.out.size)) _))
                case measure => simp [intOf]; omega
              · go_wp2_with (first | (refine wpList_fcmp rfl rfl rfl rfl rfl (by first | (with_reducible assumption) | (with_reducible exact Fl.ofInt _ _) | exact Fl.not (by decide +kernel) (by decide +kernel)) (by first | (with_reducible assumption) | (with_reducible exact Fl.ofInt _ _) | exact Fl.not (by decide +kernel) (by decide +kernel)) ?_; simp only [Act.put, List.setIfInBounds_toArray, List.set_cons_succ, List.set_cons_zero, h1, h2, h3, h4]))
                go_roundw
                case rel =>
                  refine ⟨m + 1, by omega, i_ext2 (by omega), ⟨?_⟩, ⟨?_⟩⟩
                  · have e1 : loN ys (m + 1) = loN ys m := pick_no h1
                    have e2 : loE ys (m + 1) = eW ys (m + 1) := pick_yes h2
                    have e3 : hiN ys (m + 1) = nW ys (m + 1) := pick_yes h3
                    have e4 : hiE ys (m + 1) = eW ys (m + 1) := pick_yes h4
                    rw [e1, e2, e3, e4]
                    exact ((((hx).s2 _).s3 _).s4 _).al _
                  · exact (by with_reducible repeat (first | exact hb.out | refine Below.setCell ?_ (by first | exact lb5 | exact lb6) _ | refine Below.alloc ?_ (by first | exact hb.out.size | (simp; exact hb.out.size)) _))
                case measure => simp [intOf]; omega
        · cases h2 : fcmp .lss .f32 (eW ys (m + 1)) (loE ys m)
          · cases h3 : fcmp .gtr .f32 (nW ys (m + 1)) (hiN ys m)
            · cases h4 : fcmp .gtr .f32 (eW ys (m + 1)) (hiE ys m)
              · go_wp2_with (first | (refine wpList_fcmp rfl rfl rfl rfl rfl (by first | (with_reducible assumption) | (with_reducible exact Fl.ofInt _ _) | exact Fl.not (by decide +kernel) (by decide +kernel)) (by first | (with_reducible assumption) | (with_reducible exact Fl.ofInt _ _) | exact Fl.not (by decide +kernel) (by decide +kernel)) ?_; simp only [Act.put, List.setIfInBounds_toArray, List.set_cons_succ, List.set_cons_zero, h1, h2, h3, h4]))
                go_roundw
                case rel =>
                  refine ⟨m + 1, by omega, i_ext2 (by omega), ⟨?_⟩, ⟨?_⟩⟩
                  · have e1 : loN ys (m + 1) = nW ys (m + 1) := pick_yes h1
                    have e2 : loE ys (m + 1) = loE ys m := pick_no h2
                    have e3 : hiN ys (m + 1) = hiN ys m := pick_no h3
                    have e4 : hiE ys (m + 1) = hiE ys m := pick_no h4
                    rw [e1, e2, e3, e4]
                    exact ((hx).s1 _).al _
                  · exact (by with_reducible repeat (first | exact hb.out | refine Below.setCell ?_ (by first | exact lb5 | exact lb6) _ | refine Below.alloc ?_ (by first | exact hb.out.size | (simp; exact hb.out.size)) _))
                case measure => simp [intOf]; omega
              · go_wp2_with (first | (refine wpList_fcmp rfl rfl rfl rfl rfl (by first | (with_reducible assumption) | (with_reducible exact Fl.ofInt _ _) | exact Fl.not (by decide +kernel) (by decide +kernel)) (by first | (with_reducible assumption) | (with_reducible exact Fl.ofInt _ _) | exact Fl.not (by decide +kernel) (by decide +kernel)) ?_; simp only [Act.put, List.setIfInBounds_toArray, List.set_cons_succ, List.set_cons_zero, h1, h2, h3, h4]))
                go_roundw
                case rel =>
                  refine ⟨m + 1, by omega, i_ext2 (by omega), ⟨?_⟩, ⟨?_⟩⟩
                  · have e1 : loN ys (m + 1) = nW ys (m + 1) := pick_yes h1
                    have e2 : loE ys (m + 1) = loE ys m := pick_no h2
                    have e3 : hiN ys (m + 1) = hiN ys m := pick_no h3
                    have e4 : hiE ys (m + 1) = eW ys (m + 1) := pick_yes h4
                    rw [e1, e2, e3, e4]
                    exact (((hx).s1 _).s4 _).al _
                  · exact (by with_reducible repeat (first | exact hb.out | refine Below.setCell ?_ (by first | exact lb5 | exact lb6) _ | refine Below.alloc ?_ (by first | exact hb.out.size | (simp; exact hb.out.size)) _))
                case measure => simp [intOf]; omega
            · cases h4 : fcmp .gtr .f32 (eW ys (m + 1)) (hiE ys m)
              · go_wp2_with (first | (refine wpList_fcmp rfl rfl rfl rfl rfl (by first | (with_reducible assumption) | (with_reducible exact Fl.ofInt _ _) | exact Fl.not (by decide +kernel) (by decide +kernel)) (by first | (with_reducible assumption) | (with_reducible exact Fl.ofInt _ _) | exact Fl.not (by decide +kernel) (by decide +kernel)) ?_; simp only [Act.put, List.setIfInBounds_toArray, List.set_cons_succ, List.set_cons_zero, h1, h2, h3, h4]))
                go_roundw
                case rel =>
                  refine ⟨m + 1, by omega, i_ext2 (by omega), ⟨?_⟩, ⟨?_⟩⟩
                  · have e1 : loN ys (m + 1) = nW ys (m + 1) := pick_yes h1
                    have e2 : loE ys (m + 1) = loE ys m := pick_no h2
                    have e3 : hiN ys (m + 1) = nW ys (m + 1) := pick_yes h3
                    have e4 : hiE ys (m + 1) = hiE ys m := pick_no h4
                    rw [e1, e2, e3, e4]
                    exact (((hx).s1 _).s3 _).al _
                  · exact (by with_reducible repeat (first | exact hb.out | refine Below.setCell ?_ (by first | exact lb5 | exact lb6) _ | refine Below.alloc ?_ (by first | exact hb.out.size | (simp; exact hb.out.size)) _))
                case measure => simp [intOf]; omega
              · go_wp2_with (first | (refine wpList_fcmp rfl rfl rfl rfl rfl (by first | (with_reducible assumption) | (with_reducible exact Fl.ofInt _ _) | exact Fl.not (by decide +kernel) (by decide +kernel)) (by first | (with_reducible assumption) | (with_reducible exact Fl.ofInt _ _) | exact Fl.not (by decide +kernel) (by decide +kernel)) ?_; simp only [Act.put, List.setIfInBounds_toArray, List.set_cons_succ, List.set_cons_zero, h1, h2, h3, h4]))
                go_roundw
                case rel =>
                  refine ⟨m + 1, by omega, i_ext2 (by omega), ⟨?_⟩, ⟨?_⟩⟩
                  · have e1 : loN ys (m + 1) = nW ys (m + 1) := pick_yes h1
                    have e2 : loE ys (m + 1) = loE ys m := pick_no h2
                    have e3 : hiN ys (m + 1) = nW ys (m + 1) := pick_yes h3
                    have e4 : hiE ys (m + 1) = eW ys (m + 1) := pick_yes h4
                    rw [e1, e2, e3, e4]
                    exact ((((hx).s1 _).s3 _).s4 _).al _
                  · exact (by with_reducible repeat (first | exact hb.out | refine Below.setCell ?_ (by first | exact lb5 | exact lb6) _ | refine Below.alloc ?_ (by first | exact hb.out.size | (simp; exact hb.out.size)) _))
                case measure => simp [intOf]; omega
          · cases h3 : fcmp .gtr .f32 (nW ys (m + 1)) (hiN ys m)
            · cases h4 : fcmp .gtr .f32 (eW ys (m + 1)) (hiE ys m)
              · go_wp2_with (first | (refine wpList_fcmp rfl rfl rfl rfl rfl (by first | (with_reducible assumption) | (with_reducible exact Fl.ofInt _ _) | exact Fl.not (by decide +kernel) (by decide +kernel)) (by first | (with_reducible assumption) | (with_reducible exact Fl.ofInt _ _) | exact Fl.not (by decide +kernel) (by decide +kernel)) ?_; simp only [Act.put, List.setIfInBounds_toArray, List.set_cons_succ, List.set_cons_zero, h1, h2, h3, h4]))
                go_roundw
                case rel =>
                  refine ⟨m + 1, by omega, i_ext2 (by omega), ⟨?_⟩, ⟨?_⟩⟩
                  · have e1 : loN ys (m + 1) = nW ys (m + 1) := pick_yes h1
                    have e2 : loE ys (m + 1) = eW ys (m + 1) := pick_yes h2
                    have e3 : hiN ys (m + 1) = hiN ys m := pick_no h3
                    have e4 : hiE ys (m + 1) = hiE ys m := pick_no h4
                    rw [e1, e2, e3, e4]
                    exact (((hx).s1 _).s2 _).al _
                  · exact (by with_reducible repeat (first | exact hb.out | refine Below.setCell ?_ (by first | exact lb5 | exact lb6) _ | refine Below.alloc ?_ (by first | exact hb.out.size | (simp; exact hb.out.size)) _))
                case measure => simp [intOf]; omega
              · go_wp2_with (first | (refine wpList_fcmp rfl rfl rfl rfl rfl (by first | (with_reducible assumption) | (with_reducible exact Fl.ofInt _ _) | exact Fl.not (by decide +kernel) (by decide +kernel)) (by first | (with_reducible assumption) | (with_reducible exact Fl.ofInt _ _) | exact Fl.not (by decide +kernel) (by decide +kernel)) ?_; simp only [Act.put, List.setIfInBounds_toArray, List.set_cons_succ, List.set_cons_zero, h1, h2, h3, h4]))
                go_roundw
                case rel =>
                  refine ⟨m + 1, by omega, i_ext2 (by omega), ⟨?_⟩, ⟨?_⟩⟩
                  · have e1 : loN ys (m + 1) = nW ys (m + 1) := pick_yes h1
                    have e2 : loE ys (m + 1) = eW ys (m + 1) := pick_yes h2
                    have e3 : hiN ys (m + 1) = hiN ys m := pick_no h3
                    have e4 : hiE ys (m + 1) = eW ys (m + 1) := pick_yes h4
                    rw [e1, e2, e3, e4]
                    exact ((((hx).s1 _).s2 _).s4 _).al _
                  · exact (by with_reducible repeat (first | exact hb.out | refine Below.setCell ?_ (by first | exact lb5 | exact lb6) _ | refine Below.alloc ?_ (by first | exact hb.out.size | (simp; exact hb.out.size)) _))
                case measure => simp [intOf]; omega
            · cases h4 : fcmp .gtr .f32 (eW ys (m + 1)) (hiE ys m)
              · go_wp2_with (first | (refine wpList_fcmp rfl rfl rfl rfl rfl (by first | (with_reducible assumption) | (with_reducible exact Fl.ofInt _ _) | exact Fl.not (by decide +kernel) (by decide +kernel)) (by first | (with_reducible assumption) | (with_reducible exact Fl.ofInt _ _) | exact Fl.not (by decide +kernel) (by decide +kernel)) ?_; simp only [Act.put, List.setIfInBounds_toArray, List.set_cons_succ, List.set_cons_zero, h1, h2, h3, h4]))
                go_roundw
                case rel =>
                  refine ⟨m + 1, by omega, i_ext2 (by omega), ⟨?_⟩, ⟨?_⟩⟩
                  · have e1 : loN ys (m + 1) = nW ys (m + 1) := pick_yes h1
                    have e2 : loE ys (m + 1) = eW ys (m + 1) := pick_yes h2
                    have e3 : hiN ys (m + 1) = nW ys (m + 1) := pick_yes h3
                    have e4 : hiE ys (m + 1) = hiE ys m := pick_no h4
                    rw [e1, e2, e3, e4]
                    exact ((((hx).s1 _).s2 _).s3 _).al _
                  · exact (by with_reducible repeat (first | exact hb.out | refine Below.setCell ?_ (by first | exact lb5 | exact lb6) _ | refine Below.alloc ?_ (by first | exact hb.out.size | (simp; exact hb.out.size)) _))
                case measure => simp [intOf]; omega
              · go_wp2_with (first | (refine wpList_fcmp rfl rfl rfl rfl rfl (by first | (with_reducible assumption) | (with_reducible exact Fl.ofInt _ _) | exact Fl.not (by decide +kernel) (by decide +kernel)) (by first | (with_reducible assumption) | (with_reducible exact Fl.ofInt _ _) | exact Fl.not (by decide +kernel) (by decide +kernel)) ?_; simp only [Act.put, List.setIfInBounds_toArray, List.set_cons_succ, List.set_cons_zero, h1, h2, h3, h4]))
                go_roundw
                case rel =>
                  refine ⟨m + 1, by omega, i_ext2 (by omega), ⟨?_⟩, ⟨?_⟩⟩
                  · have e1 : loN ys (m + 1) = nW ys (m + 1) := pick_yes h1
                    have e2 : loE ys (m + 1) = eW ys (m + 1) := pick_yes h2
                    have e3 : hiN ys (m + 1) = nW ys (m + 1) := pick_yes h3
                    have e4 : hiE ys (m + 1) = eW ys (m + 1) := pick_yes h4
                    rw [e1, e2, e3, e4]
                    exact (((((hx).s1 _).s2 _).s3 _).s4 _).al _
                  · exact (by with_reducible repeat (first | exact hb.out | refine Below.setCell ?_ (by first | exact lb5 | exact lb6) _ | refine Below.alloc ?_ (by first | exact hb.out.size | (simp; exact hb.out.size)) _))
                case measure => simp [intOf]; omega
      · have hmn : n - 1 = m := by omega
        have xc0 := hx.lo.a0.cell
        have xc1 := hx.lo.a1.cell
        have xz0 := hx.lo.a0.free
        have xz1 := hx.lo.a1.free
        have yc0 := hx.hi.a0.cell
        have yc1 := hx.hi.a1.cell
        have yz0 := hx.hi.a0.free
        have yz1 := hx.hi.a1.free
        have xl := hx.lo.a0.lt
        have yl := hx.hi.a0.lt
        have n56 := hx.n56
        have n65 := Ne.symm hx.n56
        dsimp only at xl yl
        have xne := Nat.ne_of_lt xl
        have yne := Nat.ne_of_lt yl
        have xen := Ne.symm xne
        have yen := Ne.symm yne
        have q0 := hx.z2.a0.cell
        have q1 := hx.z2.a1.cell
        have q2 := hx.z3.a0.cell
        have q3 := hx.z3.a1.cell
        have q4 := hx.z2.a0.free
        have q5 := hx.z2.a1.free
        have q6 := hx.z3.a0.free
        have q7 := hx.z3.a1.free
        have d1 := hx.n25
        have d2 := hx.n26
        have d3 := hx.n35
        have d4 := hx.n36
        have d5 := hx.n23
        have d6 := Ne.symm d1
        have d7 := Ne.symm d2
        have d8 := Ne.symm d3
        have d9 := Ne.symm d4
        have d10 := Ne.symm d5
        go_wp2
        go_region
        all_goals
          go_wp2
          exact bodyPost_ret (v := boT (loN ys m) (loE ys m) (hiN ys m) (hiE ys m) true) (by simp [results, Try.results26, go_sem, q0, q1, q2, q3]) rfl ⟨by rw [hmn], by with_reducible repeat (first | exact hb.out | refine Below.setCell ?_ (by first | exact Nat.le_refl _ | exact lr3) _ | refine Below.drew ?_)⟩
end Go.Proofs.Ytfmhbmehidlhiaa
