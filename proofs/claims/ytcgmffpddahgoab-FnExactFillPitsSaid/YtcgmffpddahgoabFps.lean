/-
  FillPits, of the model. No premise beyond those named.
-/
import Derived.Test.YtcgmffpddahgoabOwg
import Derived.Test.YtcgmffpddahgoabFpm
import Derived.Test.YtcgmffpddahgoabNei
import Derived.Test.YtcgmffpddahgoabLrb
import Derived.Test.YtcgmffpddahgoabLro
import Derived.Deep.QuietTactic
import Derived.Deep.OwnRows
import Derived.Deep.RegionHeld3
import Derived.StillTailTactics
namespace Go.Proofs.Ytcgmffpddahgoab
open Go Go.RowKit
set_option maxRecDepth 100000

set_option maxHeartbeats 2000000 in
theorem l06Edge_any {b : Nat} {W Hh i n : Nat} (hn : n = W * Hh) (hw : 2 ≤ W) (hw2 : W ≤ 16) (hh : 2 ≤ Hh) (hh2 : Hh ≤ 16) (hi : i < n) (w : World) (c0 : w.cell? ⟨b, 0, none⟩ = some (.int .i64 W)) (c1 : w.cell? ⟨b, 1, none⟩ = some (.int .i64 Hh)) : Calls Try.prog 89 #[.pointer (some ⟨b, 0, none⟩), .int .i64 i] w (RB (edgeB W Hh i) w) := by
  have hr : (i : Int).tmod (W : Int) = ((i % W : Nat) : Int) := rfl
  have hr2 : (i : Int) % (W : Int) = ((i % W : Nat) : Int) := rfl
  have hq : (i : Int).tdiv (W : Int) = ((i / W : Nat) : Int) := rfl
  have hq2 : (i : Int) / (W : Int) = ((i / W : Nat) : Int) := rfl
  have hx : i % W < W := Nat.mod_lt _ (by omega)
  have hy : i / W < Hh := by apply Nat.div_lt_of_lt_mul; omega
  have hW0 : ¬ W = 0 := by omega
  have KV := Keep.mk (show edgeB W Hh i = decide (i % W = 0 ∨ i / W = 0 ∨ i % W + 1 = W ∨ i / W + 1 = Hh) from rfl)
  generalize i % W = qx at *
  generalize i / W = qy at *
  have hqw : IntKind.i64.wrap (qy : Int) = (qy : Int) := IntWalk.i64_in _ (by omega)
  clear hn hi
  by_cases h1 : qx = 0
  · have KW := Keep.mk (KV.out.trans (decide_eq_true (.inl h1)))
    have e1 : ((qx : Int) == 0) = true := by rw [beq_iff_eq]; omega
    clear h1
    go_enter Try.func89, Try.ntmps89
    go_wp2
    go_ret
    rw [KW.out]
    exact RB.any rfl (by repeat (first | exact Drew.refl _ | refine Drew.more ?_))
  · have e1 : ((qx : Int) == 0) = false := by rw [beq_eq_false_iff_ne]; omega
    by_cases h2 : qy = 0
    · have KW := Keep.mk (KV.out.trans (decide_eq_true (.inr (.inl h2))))
      have e2 : ((qy : Int) == 0) = true := by rw [beq_iff_eq]; omega
      clear h1 h2
      go_enter Try.func89, Try.ntmps89
      go_wp2
      go_ret
      rw [KW.out]
      exact RB.any rfl (by repeat (first | exact Drew.refl _ | refine Drew.more ?_))
    · have e2 : ((qy : Int) == 0) = false := by rw [beq_eq_false_iff_ne]; omega
      by_cases h3 : qx + 1 = W
      · have KW := Keep.mk (KV.out.trans (decide_eq_true (.inr (.inr (.inl h3)))))
        have e3 : ((qx : Int) == (W : Int) - 1) = true := by rw [beq_iff_eq]; omega
        clear h1 h2 h3
        go_enter Try.func89, Try.ntmps89
        go_wp2
        go_ret
        rw [KW.out]
        exact RB.any rfl (by repeat (first | exact Drew.refl _ | refine Drew.more ?_))
      · have e3 : ((qx : Int) == (W : Int) - 1) = false := by rw [beq_eq_false_iff_ne]; omega
        cases h4 : decide (qy + 1 = Hh)
        · have KW := Keep.mk (KV.out.trans (decide_eq_false (by have := of_decide_eq_false h4; omega)))
          have e4 : ((qy : Int) == (Hh : Int) - 1) = false := by rw [beq_eq_false_iff_ne]; have := of_decide_eq_false h4; omega
          clear h1 h2 h3 h4
          go_enter Try.func89, Try.ntmps89
          go_wp2
          go_ret
          rw [KW.out]
          exact RB.any rfl (by repeat (first | exact Drew.refl _ | refine Drew.more ?_))
        · have KW := Keep.mk (KV.out.trans (decide_eq_true (.inr (.inr (.inr (of_decide_eq_true h4))))))
          have e4 : ((qy : Int) == (Hh : Int) - 1) = true := by rw [beq_iff_eq]; have := of_decide_eq_true h4; omega
          clear h1 h2 h3 h4
          go_enter Try.func89, Try.ntmps89
          go_wp2
          go_ret
          rw [KW.out]
          exact RB.any rfl (by repeat (first | exact Drew.refl _ | refine Drew.more ?_))
theorem upd_lt {m : Nat} {v z : Nat → Value} : ∀ j, (if j = m then v m else if j < m then v j else z j) = if j < m + 1 then v j else z j := by
  intro j
  by_cases e : j = m
  · subst e; rw [if_pos rfl, if_pos (by omega)]
  · by_cases h : j < m
    · rw [if_neg e, if_pos h, if_pos (by omega)]
    · rw [if_neg e, if_neg h, if_neg (by omega)]
theorem Exact.kp {w w' : World} {g n a b c d : Nat} {f : Nat → Nat} (h : Exact w g n f) (k : Kp4 a b c d w w') (h1 : g ≠ a) (h2 : g ≠ b) (h3 : g ≠ c) (h4 : g ≠ d) : Exact w' g n f := fun j hj => k.cell (h j hj) h1 h2 h3 h4
theorem Kp4.wk {a b c d : Nat} {w w' : World} (h : Kp4 a b b b w w') : Kp4 a b c d w w' := ⟨h.os, h.tape, h.output, h.size, fun k hk h1 h2 _ _ => h.block k hk h1 h2 h2 h2⟩
theorem Kp4.on {a b c d B : Nat} {w w1 w2 : World} (k : Kp4 a b c d w1 w2) (h : Below B w w1) (hB : B ≤ w1.heap.size) (h1 : B ≤ a) (h2 : B ≤ b) (h3 : B ≤ c) (h4 : B ≤ d) : Below B w w2 :=
  have e := k.to hB h1 h2 h3 h4
  ⟨e.os.trans h.os, e.tape.trans h.tape, e.output.trans h.output, Nat.le_trans h.size e.size, fun k hk => (e.block k hk).trans (h.block k hk)⟩
theorem own_kp {a b c d : Nat} {w w' : World} {base : Nat} {T : TypeId} {v : Value} {n : Nat} {xs : List Value} (h : w.ownsRow base T 1 v n xs) (k : Kp4 a b c d w w') (h1 : a < base) (h2 : b < base) (h3 : c < base) (h4 : d < base) : w'.ownsRow base T 1 v n xs := by
  obtain ⟨q1, q2 | ⟨g', cap', cs, hv, hb, hg, r⟩⟩ := h
  · exact ⟨q1, .inl q2⟩
  · have hlt : g' < w.heap.size := by
      rcases Nat.lt_or_ge g' w.heap.size with h | h
      · exact h
      · rw [Array.getElem?_eq_none h] at hg; cases hg
    exact ⟨q1, .inr ⟨g', cap', cs, hv, hb, by rw [k.block g' hlt (by omega) (by omega) (by omega) (by omega)]; exact hg, r⟩⟩
theorem irow_of {w : World} {base n : Nat} {e : TypeId} {a : Option Addr} {k : Nat} {xs : List Int} (h : w.ownsRow base e 1 (.slice a n k) n (ils xs)) : IRow w a xs := by
  obtain ⟨a', k', hv, _, hr⟩ := irow_vown h
  obtain ⟨rfl, _, _⟩ := Value.slice.inj hv
  exact hr
theorem fv_same {L : Nat → Nat} {j v n : Nat} (h : v = L j) : ∀ x, x < n → fv L x = fv (fun y => if y = j then v else L y) x := by
  intro x _
  unfold fv
  dsimp only
  by_cases e : x = j
  · rw [if_pos e, e, h]
  · rw [if_neg e]
theorem fv_upd {L : Nat → Nat} {j v n : Nat} : ∀ x, x < n → (if x = j then Value.float .f32 v else fv L x) = fv (fun y => if y = j then v else L y) x := by
  intro x _
  unfold fv
  dsimp only
  by_cases e : x = j
  · rw [if_pos e, if_pos e]
  · rw [if_neg e, if_neg e]
theorem cell_set_ne {w : World} {p a : Addr} {u v : Value} (h : w.cell? p = some v) (hne : p ≠ a) : (w.setCell a u).cell? p = some v := by
  rw [World.cell?_setCell_other]
  · exact h
  · exact fun e => hne e.symm
def isTr : Option Value → Bool
  | some (.bool b) => b
  | _ => false
/-- how many cells say yes -/
def cntW (w : World) (g n : Nat) : Nat := (List.range n).countP (fun j => isTr (w.cell? ⟨g, j, none⟩))
theorem cntW_eq {w : World} {base : Nat} {T : TypeId} {g cap n : Nat} {D : Nat → Bool} (h : OwnV w base T g cap n (bv D)) : cntW w g n = cntD D n := by
  unfold cntW cntD
  refine List.countP_congr (fun x hx => ?_)
  rw [h.cell (List.mem_range.1 hx)]
  exact Iff.rfl
theorem settle_D {s : FS} {i : Nat} {f : Nat → Nat} {a : Nat} {l : List Int} : ((s.settle i).around f a l).D = fun j => if j = i then true else s.D j := by rw [around_D]; rfl
set_option maxHeartbeats 1000000 in
theorem sFill_no {g n k : Nat} {wd hg : Int} {f : Nat → Nat} (w : World) (h : Told w g n f) (hl : n ≤ 1048576) (hb : gridB wd hg n f = false) : Calls Try.prog 47 #[gd wd hg (sl g n k)] w (RGx 25 false 0 0 n f #[.int .i64 0] w) := by
  have H := Hf.mk h
  have H1 := Hf.mk hb
  clear h hb
  go_enter Try.func47, Try.ntmps47
  go_wp2_with (first | (go_at_call 55; refine (l06Is_any (k := k) (wd := wd) (hg := hg) _ (by simp) (by simp) (by simp) (H.out.below (by repeat (first | exact Below.refl _ _ | with_reducible assumption | refine Below.drews ?_ | refine Below.drew ?_ | refine Below.alloc ?_ (by simp <;> omega) _ | refine Below.setCell ?_ (by simp <;> omega) _))) hl).mono ?_; rw [H1.out]; rintro e w' ⟨rfl, q0, rfl⟩))
  exact bodyPost_ret (v := .tuple #[gd 0 0 (.slice none 0 0), .int .i64 0, .bool false]) (by simp [results, Try.results47, go_sem]) rfl ⟨rfl, (by repeat (first | exact Below.refl _ _ | with_reducible assumption | refine Below.drews ?_ | refine Below.drew ?_ | refine Below.alloc ?_ (by simp <;> omega) _ | refine Below.setCell ?_ (by simp <;> omega) _))⟩
set_option maxHeartbeats 32000000 in
theorem sFill_yes {g n k W Hh : Nat} {f : Nat → Nat} (hfl : ∀ j, Fl .f32 (f j) (f j)) (w : World) (hT : Told w g n f) (hb : gridB (W : Int) (Hh : Int) n f = true) (hG : Gr (W : Int) (Hh : Int) n f W Hh) : Calls Try.prog 47 #[gd W Hh (sl g n k)] w (RGx 25 true W Hh n (flL f W Hh n) #[.int .i64 (hiC f (flL f W Hh n) n)] w) := by
  obtain ⟨ib, hib, hzb0, hzb1, hzb2⟩ := info_parts (P := Try.prog) (e := 4) (z := .bool false) (size := 1) (bytes := 1) (by kernel_rfl)
  have n256 := hG.n256
  have n4 := hG.n4
  have h2 := hG.w2
  have h16 := hG.w16
  have g2' := hG.h2
  have g16 := hG.h16
  have hgl := told_lt hT (show 0 < n by omega)
  have HN := Hf.mk hG.nn
  have H1 := Hf.mk hb
  have HT := Hf.mk hT
  have HX := Hf.mk (hT.exact hG.fin)
  have HF := Hf.mk (fun j (hj : j < n) => fin_at hG.fin hj)
  have B0 := Hb.mk (Below.refl w.heap.size w)
  have HFA := Hf.mk (at_fl (W := W) (Hh := Hh) (n := n) hfl)
  clear hb hG hT hfl
  go_enter Try.func47, Try.ntmps47
  have tk_a : True := trivial
  go_wp2_with (first | (go_at_call 55; refine (l06Is_any (k := k) (wd := (W : Int)) (hg := (Hh : Int)) _ (by simp) (by simp) (by simp) (HT.out.below (by repeat (first | exact Below.refl _ _ | with_reducible assumption | refine Below.drews ?_ | refine Below.drew ?_ | refine Below.alloc ?_ (by simp <;> omega) _ | refine Below.setCell ?_ (by simp <;> omega) _))) (by omega)).mono ?_; rw [H1.out]; rintro e w' ⟨rfl, q0, rfl⟩) | (go_at_call 88; refine (l06Own_any (k := k) (g := g) (wd := (W : Int)) (hg := (Hh : Int)) _ (by simp) (by simp) (by simp) (HX.out.below (by repeat (first | exact Below.refl _ _ | with_reducible assumption | refine Below.drews ?_ | refine Below.drew ?_ | refine Below.alloc ?_ (by simp <;> omega) _ | refine Below.setCell ?_ (by simp <;> omega) _))) (by omega) (by omega)).mono ?_; rintro e w1 ⟨g2, k2, rfl, o1, b1⟩; have B1 := Hb.mk (Below.on (B := w.heap.size) (a := w) (by repeat (first | exact B0.out | refine Below.drews ?_ | refine Below.drew ?_ | refine Below.alloc ?_ (by have hq_ := B0.out.size; first | omega | (simp <;> omega)) _ | refine Below.setCell ?_ (by have hq_ := B0.out.size; first | omega | (simp <;> omega)) _)) b1 (by have hq_ := B0.out.size; first | omega | (simp <;> omega))); have r0 := Hb.mk (At.keep b1 (p := ⟨(w.heap.size), 0, none⟩) (v := .int .i64 W) (by simp [go_sem]) (by simp [go_sem])); obtain ⟨r0c, r0z, r0l⟩ := r0.out; have r1 := Hb.mk (At.keep b1 (p := ⟨(w.heap.size), 1, none⟩) (v := .int .i64 Hh) (by simp [go_sem]) (by simp [go_sem])); obtain ⟨r1c, r1z, r1l⟩ := r1.out; have r2 := Hb.mk (At.keep b1 (p := ⟨(w.heap.size), 2, none⟩) (v := sl g n k) (by simp [go_sem]) (by simp [go_sem])); obtain ⟨r2c, r2z, r2l⟩ := r2.out; have q0 := Hb.mk (At.keep b1 (p := ⟨(w.heap.size + 1), 0, none⟩) (v := .int .i64 0) (by simp [go_sem]) (by simp [go_sem])); obtain ⟨q0c, q0z, q0l⟩ := q0.out; have q1 := Hb.mk (At.keep b1 (p := ⟨(w.heap.size + 1), 1, none⟩) (v := .int .i64 0) (by simp [go_sem]) (by simp [go_sem])); obtain ⟨q1c, q1z, q1l⟩ := q1.out; have q2 := Hb.mk (At.keep b1 (p := ⟨(w.heap.size + 1), 2, none⟩) (v := .slice none 0 0) (by simp [go_sem]) (by simp [go_sem])); obtain ⟨q2c, q2z, q2l⟩ := q2.out; have O1 := Hf.mk (o1.lower (base' := w.heap.size) (by simp; omega)); have l1 := o1.lt; have s1 : w.heap.size + 2 ≤ w1.heap.size := (by have := b1.size; simpa using this); clear o1 b1) | (at_make; clear tk_a; refine wpList_make_full _ rfl _ _ 50 rfl w1.heap.size 4 ib _ 1 Try.underlying50 hib hzb0 hzb1 .i64 .i64 _ _ n rfl rfl rfl rfl (by rw [hzb2]; omega) (by unfold maxLen; omega) (by simp) ?_; intro w2 hown2 hgrow2; have b2 := (Below.refl _ _).grown hgrow2 (Nat.le_refl _) (fun k h => by cases h); have r0 := Hb.mk (At.re r0.out b2 (by first | exact r0c | simp [go_sem, r0c, r0l]) (by first | exact r0z | simp [go_sem, r0z, r0l])); obtain ⟨r0c, r0z, r0l⟩ := r0.out; have r1 := Hb.mk (At.re r1.out b2 (by first | exact r1c | simp [go_sem, r1c, r1l]) (by first | exact r1z | simp [go_sem, r1z, r1l])); obtain ⟨r1c, r1z, r1l⟩ := r1.out; have r2 := Hb.mk (At.re r2.out b2 (by first | exact r2c | simp [go_sem, r2c, r2l]) (by first | exact r2z | simp [go_sem, r2z, r2l])); obtain ⟨r2c, r2z, r2l⟩ := r2.out; have q0 := Hb.mk (At.re q0.out b2 (by first | exact q0c | simp [go_sem, q0c, q0l]) (by first | exact q0z | simp [go_sem, q0z, q0l])); obtain ⟨q0c, q0z, q0l⟩ := q0.out; have q1 := Hb.mk (At.re q1.out b2 (by first | exact q1c | simp [go_sem, q1c, q1l]) (by first | exact q1z | simp [go_sem, q1z, q1l])); obtain ⟨q1c, q1z, q1l⟩ := q1.out; have q2 := Hb.mk (At.re q2.out b2 (by first | exact q2c | simp [go_sem, q2c, q2l]) (by first | exact q2z | simp [go_sem, q2z, q2l])); obtain ⟨q2c, q2z, q2l⟩ := q2.out; have c0 := Hb.mk (At.keep b2 (p := ⟨(w1.heap.size), 0, none⟩) (v := .int .i64 W) (by simp [go_sem]) (by simp [go_sem])); obtain ⟨c0c, c0z, c0l⟩ := c0.out; have c1 := Hb.mk (At.keep b2 (p := ⟨(w1.heap.size), 1, none⟩) (v := .int .i64 Hh) (by simp [go_sem]) (by simp [go_sem])); obtain ⟨c1c, c1z, c1l⟩ := c1.out; have c2 := Hb.mk (At.keep b2 (p := ⟨(w1.heap.size), 2, none⟩) (v := sl g2 n k2) (by simp [go_sem]) (by simp [go_sem])); obtain ⟨c2c, c2z, c2l⟩ := c2.out; have O2 := Hf.mk ((O1.out.alloc _).below b2); have s2 : w1.heap.size + 2 ≤ w2.heap.size := (by have := hgrow2.size; have h3 := own_lt hown2; simp at this h3; omega); have X2 := Hf.mk ((HX.out.below B1.out).below (Below.on (B := w1.heap.size) (a := w1) (Below.alloc (Below.refl _ _) (Nat.le_refl _) _) b2 (by simp))); have P2 := Hf.mk (Below.on (B := w.heap.size) (a := w) (Below.alloc B1.out B1.out.size _) b2 (by have := B1.out.size; simp; omega)); simp only [World.size_alloc] at hown2; rw [mades_b] at hown2; have N2 : Hf (OwnV w2 w1.heap.size 4 (w1.heap.size + 1) n n (fun _ => .bool false)) := ⟨hown2⟩; clear b2 hown2 hgrow2))
  simp at l1
  have RC := Hf.mk (Cs.mk r0.out r1.out r2.out)
  have QC := Hf.mk (Cs.mk q0.out q1.out q2.out)
  have CC := Hf.mk (Cs.mk c0.out c1.out c2.out)
  clear r0 r1 r2 q1 q2 c0 c1 c2 r0c r1c r2c r0z r1z r2z r0l r1l r2l q0c q1c q2c q0z q1z q2z q0l q1l q2l c0c c1c c2c c0z c1z c2z c0l c1l c2l
  go_loopw [7] (fun i wr => ∃ m : Nat, m ≤ n ∧ i = .int .i64 m ∧ Hf (OwnV wr w1.heap.size 4 (w1.heap.size + 1) n n (fun j => if j < m then bv (edgeB W Hh) j else .bool false)) ∧ Hf (Kp4 (w1.heap.size + 1) (w1.heap.size + 1) (w1.heap.size + 1) (w1.heap.size + 1) w2 wr)) (fun i _ => n - (intOf i).toNat)
  case atStart => exact ⟨0, by omega, rfl, ⟨N2.out.eq (fun j _ => (if_neg (Nat.not_lt_zero j)).symm)⟩, ⟨Kp4.refl _⟩⟩
  case round =>
    obtain ⟨m, hm, rfl, hown, hkp⟩ := hrel
    obtain ⟨W2, hW2⟩ : ∃ W2, W2 = wr := ⟨_, rfl⟩
    subst hW2
    have RC2b := Hf.mk (hkp.out.cs RC.out (by omega) (by omega) (by omega) (by omega))
    have d0 := RC2b.out.x0.cell
    have d1 := RC2b.out.x1.cell
    have d2 := RC2b.out.x2.cell
    by_cases hlt : m < n
    · have e0 := hown.out.cell hlt
      have z0 := hown.out.free m
      go_wp2_with (first | (go_at_call 89; refine (l06Edge_any HN.out h2 h16 g2' g16 hlt _ d0 d1).mono ?_; rintro e w' ⟨rfl, q0, rfl⟩))
      go_roundw
      case rel => exact ⟨m + 1, by omega, i_ext2 (by omega), ⟨((hown.out.drews q0).set hlt (bv (edgeB W Hh) m)).eq (fun j _ => upd_lt (v := bv (edgeB W Hh)) (z := fun _ => .bool false) (m := m) j)⟩, ⟨(hkp.out.drews q0).set _ (.inl rfl)⟩⟩
      case measure => simp [intOf]; omega
    · obtain rfl : n = m := by omega
      have QC2b := Hf.mk (hkp.out.cs QC.out (by omega) (by omega) (by omega) (by omega))
      have CC2b := Hf.mk (hkp.out.cs CC.out (by omega) (by omega) (by omega) (by omega))
      have X2b := Hf.mk (X2.out.kp hkp.out (by omega) (by omega) (by omega) (by omega))
      have N2b := Hf.mk (hown.out.eq (u := bv (edgeB W Hh)) (fun j hj => if_pos hj))
      have gne : g2 ≠ w1.heap.size + 1 := by have := l1.2; omega
      have O2b := Hf.mk (O2.out.kp hkp.out gne gne gne gne)
      have P2b := Hf.mk (hkp.out.on P2.out P2.out.size (by omega) (by omega) (by omega) (by omega))
      go_wp2_with (first | (at_make; refine wpList_make_full _ rfl _ _ 50 rfl W2.heap.size 4 ib _ 1 Try.underlying50 hib hzb0 hzb1 .i64 .i64 _ _ n rfl rfl rfl rfl (by rw [hzb2]; omega) (by unfold maxLen; omega) (Nat.le_refl _) ?_; intro w3 hown3 hgrow3; have b3 := (Below.refl _ _).grown hgrow3 (Nat.le_refl _) (fun k h => by cases h); have s3 : W2.heap.size < w3.heap.size := (own_lt hown3).2; rw [mades_b] at hown3; have D3 : Hf (OwnV w3 W2.heap.size 4 W2.heap.size n n (bv (fun _ => false))) := ⟨hown3⟩; have N3 := Hf.mk (N2b.out.below b3); have O3 := Hf.mk (O2b.out.below b3); have RC3 := Hf.mk (RC2b.out.below b3); have QC3 := Hf.mk (QC2b.out.below b3); have CC3 := Hf.mk (CC2b.out.below b3); have X3 := Hf.mk (X2b.out.below b3); have P3 := Hf.mk (Below.on P2b.out b3 P2b.out.size); clear b3 hown3 hgrow3))
      have bne : w1.heap.size + 1 < W2.heap.size := hown.out.lt.2
      have gl3 : g2 < w1.heap.size := l1.2
      clear hown hkp N2b O2b RC2b QC2b CC2b X2b P2b d0 d1 d2 RC QC CC N2 O2 X2 P2
      go_loopw [9] (fun _ wr => ∃ t : Nat, Hf (Hd f W Hh n t) ∧ Hf (OwnV wr w.heap.size 25 g2 k2 n (fv (fsAt f W Hh n t).L)) ∧ Hf (OwnV wr w1.heap.size 4 (w1.heap.size + 1) n n (bv (fsAt f W Hh n t).K)) ∧ Hf (OwnV wr W2.heap.size 4 W2.heap.size n n (bv (fsAt f W Hh n t).D)) ∧ Hf (Kp4 g2 (w1.heap.size + 1) W2.heap.size W2.heap.size w3 wr)) (fun _ wr => n - cntW wr W2.heap.size n)
      case atStart => exact ⟨0, ⟨Hd.zero HF.out⟩, O3, N3, D3, ⟨Kp4.refl _⟩⟩
      case round =>
        obtain ⟨t, hHd, hO, hN, hD, hkp⟩ := hrel
        obtain ⟨W3, hW3⟩ : ∃ W3, W3 = wr := ⟨_, rfl⟩
        subst hW3
        have hct := Hf.mk ((cntW_eq hD.out).trans hHd.out.ct)
        have KNX := Hf.mk (fun i hi => hHd.out.next (i := i) HN.out (by omega) HF.out hi)
        have KNA := Hf.mk (fun i hi => next_at (f := f) (W := W) (Hh := Hh) (n := n) (t := t) (i := i) hi)
        have KEN := Hf.mk (fun hi => hHd.out.done hi)
        have KIV := Hf.mk hHd.out.iv
        clear hHd
        have HFL := Hf.mk (HFA.out t)
        generalize fsAt f W Hh n t = s at *
        have HL := Hf.mk (fun j (hj : j < n) => (show fin .f32 (s.L j) = true by obtain ⟨m, iv⟩ := KIV.out; exact iv.fl j hj))
        have RC := Hf.mk (hkp.out.cs RC3.out (by omega) (by omega) (by omega) (by omega))
        have CC := Hf.mk (hkp.out.cs CC3.out (by omega) (by omega) (by omega) (by omega))
        have d2 := RC.out.x2.cell
        have c2 := CC.out.x2.cell
        go_wp2
        go_loopw [9, 10] (fun av iv wr => ∃ m : Nat, m ≤ n ∧ av = .int .i64 (bst s.L s.op m) ∧ iv = .int .i64 m ∧ Drew W3 wr) (fun _ iv _ => n - (intOf iv).toNat)
        case atStart => exact ⟨0, by omega, rfl, rfl, (by repeat (first | exact Drew.refl _ | refine Drew.more ?_))⟩
        case round =>
          obtain ⟨m, hm, rfl, rfl, q3, rfl⟩ := hrel
          have hin := bst_in (L := s.L) (o := s.op) m
          by_cases hlt : m < n
          · have kc := hN.out.cell hlt
            have dc := hD.out.cell hlt
            have oc := hO.out.cell hlt
            unfold bv at kc dc
            unfold fv at oc
            cases hk : s.K m
            · rw [hk] at kc
              have Er := Hf.mk (bst_no (L := s.L) (o := s.op) (m := m) (by unfold FS.op; rw [hk]; rfl))
              clear hk
              generalize bst s.L s.op m = Bm at *
              go_wp2
              go_quiet (fail)
              go_wp2
              go_roundw
              case rel => exact ⟨m + 1, by omega, i_ext2 (by rw [Er.out]), i_ext2 (by omega), (by repeat (first | exact Drew.refl _ | refine Drew.more ?_))⟩
              case measure => simp [intOf]; omega
            · rw [hk] at kc
              cases hd : s.D m
              · rw [hd] at dc
                have ho : s.op m = true := by unfold FS.op; rw [hk, hd]; rfl
                by_cases hb : bst s.L s.op m < 0
                · have Er := Hf.mk (bst_yes ho (by rw [decide_eq_true hb]; rfl))
                  clear hk hd ho
                  generalize bst s.L s.op m = Bm at *
                  go_wp2
                  go_quiet (fail)
                  go_wp2
                  go_roundw
                  case rel => exact ⟨m + 1, by omega, i_ext2 (by rw [Er.out]), i_ext2 (by omega), (by repeat (first | exact Drew.refl _ | refine Drew.more ?_))⟩
                  case measure => simp [intOf]; omega
                · obtain ⟨q, hq⟩ : ∃ q : Nat, bst s.L s.op m = (q : Int) := ⟨(bst s.L s.op m).toNat, by omega⟩
                  have hqn : q < n := by omega
                  have qc := hO.out.cell hqn
                  unfold fv at qc
                  rw [hq]
                  cases hc : fcmp .lss .f32 (s.L m) (s.L q)
                  · have hc' : (FloatKind.f32.format.order (s.L m) (s.L q) == some .lt) = false := hc
                    have Er := Hf.mk (bst_no2 (L := s.L) (o := s.op) (m := m) (by rw [hq, Int.toNat_natCast, hc, decide_eq_false (by omega)]; rfl))
                    rw [hq] at Er
                    clear hk hd ho hb hin hq hc
                    go_wp2
                    go_quiet (fail)
                    go_wp2
                    go_roundw
                    case rel => exact ⟨m + 1, by omega, i_ext2 (by rw [Er.out]), i_ext2 (by omega), (by repeat (first | exact Drew.refl _ | refine Drew.more ?_))⟩
                    case measure => simp [intOf]; omega
                  · have hc' : (FloatKind.f32.format.order (s.L m) (s.L q) == some .lt) = true := hc
                    have Er := Hf.mk (bst_yes ho (by rw [hq, Int.toNat_natCast, hc, Bool.or_true]))
                    clear hk hd ho hb hin hq hc
                    go_wp2
                    go_quiet (fail)
                    go_wp2
                    go_roundw
                    case rel => exact ⟨m + 1, by omega, i_ext2 (by rw [Er.out]), i_ext2 (by omega), (by repeat (first | exact Drew.refl _ | refine Drew.more ?_))⟩
                    case measure => simp [intOf]; omega
              · rw [hd] at dc
                have Er := Hf.mk (bst_no (L := s.L) (o := s.op) (m := m) (by unfold FS.op; rw [hk, hd]; rfl))
                clear hk hd
                generalize bst s.L s.op m = Bm at *
                go_wp2
                go_quiet (fail)
                go_wp2
                go_roundw
                case rel => exact ⟨m + 1, by omega, i_ext2 (by rw [Er.out]), i_ext2 (by omega), (by repeat (first | exact Drew.refl _ | refine Drew.more ?_))⟩
                case measure => simp [intOf]; omega
          · obtain rfl : n = m := by omega
            have hin2 : -1 ≤ s.best n ∧ s.best n < (n : Int) := hin
            clear hin
            obtain ⟨B, hB⟩ : ∃ B, B = s.best n := ⟨_, rfl⟩
            have hB2 : bst s.L s.op n = B := hB.symm
            rw [hB2]
            rw [← hB] at hin2
            have X4 := Hf.mk (X3.out.kp hkp.out (by omega) (by omega) (by omega) (by omega))
            by_cases hb : B < 0
            · have HLf := Hf.mk (KEN.out (by rw [← hB]; exact hb))
              have QC := Hf.mk (hkp.out.cs QC3.out (by omega) (by omega) (by omega) (by omega))
              have q0c := QC.out.x0.cell
              have q1c := QC.out.x1.cell
              have q2c := QC.out.x2.cell
              have q0z := QC.out.x0.free
              have q1z := QC.out.x1.free
              have q2z := QC.out.x2.free
              have c0 := CC.out.x0.cell
              have c1 := CC.out.x1.cell
              have PZ := Hf.mk (hkp.out.on P3.out P3.out.size (by omega) (by omega) (by omega) (by omega))
              clear hB hB2 KNX KNA KEN hct KIV hin2
              go_wp2
              go_loopw [13, 14] (fun cv iv wr => ∃ m : Nat, m ≤ n ∧ cv = .int .i64 (hiC f s.L m) ∧ iv = .int .i64 m ∧ Drew W3 wr) (fun _ iv _ => n - (intOf iv).toNat)
              case atStart => exact ⟨0, by omega, rfl, rfl, (by repeat (first | exact Drew.refl _ | refine Drew.more ?_))⟩
              case round =>
                obtain ⟨m, hm, rfl, rfl, q4, rfl⟩ := hrel
                have hcl := hiC_le (f := f) (L := s.L) (m := m)
                by_cases hlt : m < n
                · have oc := hO.out.cell hlt
                  unfold fv at oc
                  have fc := X4.out m hlt
                  cases hc : fcmp .gtr .f32 (s.L m) (f m)
                  · have hc2 : (FloatKind.f32.format.order (s.L m) (f m) == some .gt) = false := hc
                    have Er := Hf.mk (show hiC f s.L (m + 1) = hiC f s.L m by rw [hiC_succ, hc]; rfl)
                    clear hc
                    go_wp2
                    go_quiet (fail)
                    go_wp2
                    go_roundw
                    case rel => exact ⟨m + 1, by omega, i_ext2 (by rw [Er.out]), i_ext2 (by omega), (by repeat (first | exact Drew.refl _ | refine Drew.more ?_))⟩
                    case measure => simp [intOf]; omega
                  · have hc2 : (FloatKind.f32.format.order (s.L m) (f m) == some .gt) = true := hc
                    have Er := Hf.mk (show hiC f s.L (m + 1) = hiC f s.L m + 1 by rw [hiC_succ, hc]; rfl)
                    clear hc
                    go_wp2
                    go_quiet (fail)
                    go_wp2
                    go_roundw
                    case rel => exact ⟨m + 1, by omega, i_ext2 (by rw [Er.out]; omega), i_ext2 (by omega), (by repeat (first | exact Drew.refl _ | refine Drew.more ?_))⟩
                    case measure => simp [intOf]; omega
                · obtain rfl : n = m := by omega
                  go_wp2
                  refine bodyPost_ret (v := .tuple #[gd W Hh (sl g2 n k2), .int .i64 (hiC f s.L n), .bool true]) (by simp [results, Try.results47, go_sem, q0c, q1c, q2c]) rfl ?_
                  rw [← HLf.out]
                  refine ⟨⟨g2, k2, rfl, OwnV.floats (f := s.L) ?_ (fun j _ => HFL.out j)⟩, ?_⟩
                  · exact (((hO.out.drews q4).other (by omega) _).other (by omega) _).other (by omega) _
                  · exact Below.setCell (Below.setCell (Below.setCell (Below.drews PZ.out) (by simp) _) (by simp) _) (by simp) _
            · obtain ⟨i, rfl⟩ : ∃ i : Nat, B = (i : Int) := ⟨B.toNat, by omega⟩
              have hi := hB.symm
              have hNX := Hf.mk (KNX.out i hi)
              have hNA := Hf.mk (KNA.out i hi)
              have hbest : ∃ m, Iv f n s m ∧ (i < n ∧ s.K i = true ∧ s.D i = false ∧ Iv f n (s.settle i) (sv .f32 (s.L i))) := by
                obtain ⟨m, iv⟩ := KIV.out
                exact ⟨m, iv, iv.best hi⟩
              obtain ⟨m0, iv0, hin3, hKi, hDi, iv2⟩ := hbest
              have IV2 := Hf.mk iv2
              have HKi := Hf.mk hKi
              have HLi := Hf.mk (HL.out i hin3)
              have dc := hD.out.cell hin3
              have dz := hD.out.free i
              clear iv0 iv2 hKi hDi hB hB2 KNX KNA KEN KIV hi hb hin2
              have s3b := hkp.out.size
              go_wp2_with (first | (go_at_call 90; refine (l06Around_any (b := w.heap.size) (Hh := Hh) _ ((show Kp4 g2 (w1.heap.size + 1) W2.heap.size W2.heap.size w3 _ from (by repeat (first | with_reducible exact hkp.out | with_reducible refine Kp4.drews ?_ _ | with_reducible refine Kp4.set ?_ _ (by first | exact .inl rfl | exact .inr (.inl rfl) | exact .inr (.inr (.inl rfl)) | exact .inr (.inr (.inr rfl)))))).cs RC3.out (by omega) (by omega) (by omega) (by omega)).x0.cell ((show Kp4 g2 (w1.heap.size + 1) W2.heap.size W2.heap.size w3 _ from (by repeat (first | with_reducible exact hkp.out | with_reducible refine Kp4.drews ?_ _ | with_reducible refine Kp4.set ?_ _ (by first | exact .inl rfl | exact .inr (.inl rfl) | exact .inr (.inr (.inl rfl)) | exact .inr (.inr (.inr rfl)))))).cs RC3.out (by omega) (by omega) (by omega) (by omega)).x1.cell HN.out h2 h16 g2' g16 hin3).mono ?_; rintro e w5 ⟨⟨v5, rfl, o5⟩, b5⟩; obtain ⟨a5, k5, rfl, hl5, _⟩ := irow_vown o5; have G5 := Hf.mk (own_lower (base' := W3.heap.size) o5 (by simp)); have P5 := Hf.mk ((show Kp4 g2 (w1.heap.size + 1) W2.heap.size W2.heap.size w3 _ from (by repeat (first | with_reducible exact hkp.out | with_reducible refine Kp4.drews ?_ _ | with_reducible refine Kp4.set ?_ _ (by first | exact .inl rfl | exact .inr (.inl rfl) | exact .inr (.inr (.inl rfl)) | exact .inr (.inr (.inr rfl)))))).below b5); have Q5 := Hf.mk ((show Kp4 W2.heap.size W2.heap.size W2.heap.size W2.heap.size W3 _ from (by repeat (first | with_reducible exact Kp4.refl _ | with_reducible refine Kp4.drews ?_ _ | with_reducible refine Kp4.set ?_ _ (.inl rfl)))).below b5); have D5 := Hf.mk ((((hD.out.drews q3).set hin3 (.bool true)).eq upd_bv).below b5); clear o5 b5))
              have HLm := Hf.mk (fun x hx => nbs_mem (i := i) (k := x) HN.out (show 0 < W by omega) hx)
              have hLl := nbs_len W Hh i
              have O5 := Hf.mk (hO.out.kp Q5.out (by omega) (by omega) (by omega) (by omega))
              have N5 := Hf.mk (hN.out.kp Q5.out (by omega) (by omega) (by omega) (by omega))
              have s5 := P5.out.size
              have RC5 := Hf.mk (P5.out.cs RC3.out (by omega) (by omega) (by omega) (by omega))
              have CC5 := Hf.mk (P5.out.cs CC3.out (by omega) (by omega) (by omega) (by omega))
              have X5 := Hf.mk (X3.out.kp P5.out (by omega) (by omega) (by omega) (by omega))
              generalize nbs W Hh i = L at *
              go_loopw [12] (fun kv wr => ∃ c : Nat, c ≤ L.length ∧ kv = .int .i64 c ∧ Hf (OwnV wr w.heap.size 25 g2 k2 n (fv ((s.settle i).around f (s.L i) (L.take c)).L)) ∧ Hf (OwnV wr w1.heap.size 4 (w1.heap.size + 1) n n (bv ((s.settle i).around f (s.L i) (L.take c)).K)) ∧ Hf (Kp4 g2 (w1.heap.size + 1) (w1.heap.size + 1) (w1.heap.size + 1) w5 wr)) (fun kv _ => L.length - (intOf kv).toNat)
              case atStart => exact ⟨0, by omega, rfl, O5, N5, ⟨Kp4.refl _⟩⟩
              case round =>
                obtain ⟨c, hc, rfl, hO6, hN6, hkp6⟩ := hrel
                obtain ⟨W6, hW6⟩ : ∃ W6, W6 = wr := ⟨_, rfl⟩
                subst hW6
                have G6 := Hf.mk (own_kp G5.out hkp6.out (by omega) (by omega) (by omega) (by omega))
                by_cases hlc : c < L.length
                · have IVc := Hf.mk (IV2.out.around (L.take c) (fun x hx => by obtain ⟨y, rfl, hy, _⟩ := HLm.out x (List.mem_of_mem_take hx); rw [Int.toNat_natCast]; exact hy) HF.out HLi.out)
                  have KEc := Hf.mk (around_K (f := f) (a := s.L i) (L.take c) (s := s.settle i) HKi.out)
                  have KTc := Hf.mk (around_take (f := f) (a := s.L i) (s := s.settle i) hlc)
                  obtain ⟨p6, rfl, cc⟩ := irow_of G6.out c hlc
                  obtain ⟨g6, cp6, hv6, hb6, _⟩ := World.ownsRow.form G6.out (show 0 < L.length by omega)
                  obtain ⟨hv7, -, -⟩ := Value.slice.inj hv6
                  obtain rfl := Option.some.inj hv7
                  rw [add_at] at cc
                  clear hv6 hv7
                  have gne1 : w1.heap.size ≠ g2 := by omega
                  have gne2 : g6 ≠ g2 := by omega
                  obtain ⟨j, hj, hjn, _⟩ := HLm.out (L.getD c 0) (by rw [List.getD, List.getElem?_eq_getElem hlc]; exact List.getElem_mem hlc)
                  rw [hj] at cc KTc
                  rw [Int.toNat_natCast] at KTc
                  generalize (s.settle i).around f (s.L i) (L.take c) = sc at *
                  have kc := hN6.out.cell hjn
                  unfold bv at kc
                  cases hk : sc.K j
                  · rw [hk] at kc
                    have hkz := hN6.out.free j
                    have un := Hf.mk (IVc.out.un j hjn hk)
                    have KT2 := Hf.mk (KTc.out.trans (tell_no hk))
                    have N7 := Hf.mk (((hN6.out.set hjn (.bool true)).eq upd_bv))
                    have O7 := Hf.mk (hO6.out.other (b := w1.heap.size + 1) (o := j) (by omega) (.bool true))
                    have P7 := Hf.mk (hkp6.out.set (o := j) (.bool true) (.inr (.inl rfl)))
                    have RC7 := Hf.mk (P7.out.cs RC5.out (by omega) (by omega) (by omega) (by omega))
                    have CC7 := Hf.mk (P7.out.cs CC5.out (by omega) (by omega) (by omega) (by omega))
                    have FJ := (X5.out.kp P7.out (by omega) (by omega) (by omega) (by omega)) j hjn
                    have G7 := Hf.mk (own_kp G5.out P7.out (by omega) (by omega) (by omega) (by omega))
                    have OI := O7.out.cell hin3
                    have OZ := O7.out.free j
                    have OJ := O7.out.cell hjn
                    unfold fv at OI OJ
                    rw [KEc.out.2] at OI
                    have ea : (s.settle i).L i = s.L i := rfl
                    rw [ea] at OI
                    clear ea
                    have d7 := RC7.out.x2.cell
                    have c7 := CC7.out.x2.cell
                    obtain ⟨p7, hp7, cc7⟩ := irow_of G7.out c hlc
                    obtain rfl := Option.some.inj hp7
                    rw [hj, add_at] at cc7
                    have hij : i ≠ j := by rintro rfl; rw [KEc.out.1] at hk; cases hk
                    clear hk hp7
                    cases hg : fcmp .gtr .f32 (s.L i) (f j)
                    · have hg2 : (FloatKind.f32.format.order (s.L i) (f j) == some .gt) = false := hg
                      have EL := Hf.mk (show lvl f (s.L i) j = f j by unfold lvl; rw [hg]; rfl)
                      clear hg
                      go_wp2
                      go_quiet (fail)
                      go_wp2
                      go_roundw
                      case rel => exact ⟨c + 1, by omega, i_ext2 (by omega), ⟨by rw [KT2.out]; exact (O7.out.drews _).eq (fv_same (EL.out.trans un.out.symm))⟩, ⟨by rw [KT2.out]; exact N7.out.drews _⟩, ⟨P7.out.drews _⟩⟩
                      case measure => simp [intOf]; omega
                    · have hg2 : (FloatKind.f32.format.order (s.L i) (f j) == some .gt) = true := hg
                      have EL := Hf.mk (show lvl f (s.L i) j = s.L i by unfold lvl; rw [hg]; rfl)
                      clear hg
                      go_wp2
                      go_quiet (fail)
                      go_wp2
                      go_region_held3 (fun w' => w'.cell? ⟨w1.heap.size, 2, none⟩ = some (sl g2 n k2) ∧ w'.cell? ⟨g6, c, none⟩ = some (.int .i64 j) ∧ w'.cell? ⟨g2, i, none⟩ = some (.float .f32 (s.L i)))
                        (first | exact ⟨cell_set_ne (w := W6.setCell ⟨w1.heap.size + 1, j, none⟩ (.bool true)) (a := ⟨g2, j, none⟩) (u := .float .f32 (s.L i)) c7 (fun e => gne1 (congrArg Addr.block e)), cell_set_ne (w := W6.setCell ⟨w1.heap.size + 1, j, none⟩ (.bool true)) (a := ⟨g2, j, none⟩) (u := .float .f32 (s.L i)) cc7 (fun e => gne2 (congrArg Addr.block e)), cell_set_ne (w := W6.setCell ⟨w1.heap.size + 1, j, none⟩ (.bool true)) (a := ⟨g2, j, none⟩) (u := .float .f32 (s.L i)) OI (fun e => hij (congrArg Addr.off e))⟩ | go_keep) (fail)
                      go_wp2
                      go_roundw
                      case rel => exact ⟨c + 1, by omega, i_ext2 (by omega), ⟨by rw [KT2.out, EL.out]; exact (((O7.out.drews _).set hjn (.float .f32 (s.L i))).eq fv_upd)⟩, ⟨by rw [KT2.out]; exact ((N7.out.drews _).other (by omega) _)⟩, ⟨(P7.out.drews _).set _ (.inl rfl)⟩⟩
                      case measure => simp [intOf]; omega
                  · rw [hk] at kc
                    have KT2 := Hf.mk (KTc.out.trans (tell_yes hk))
                    clear hk
                    go_wp2
                    go_roundw
                    case rel => exact ⟨c + 1, by omega, i_ext2 (by omega), ⟨by rw [KT2.out]; exact hO6.out⟩, ⟨by rw [KT2.out]; exact hN6.out⟩, hkp6⟩
                    case measure => simp [intOf]; omega
                · obtain rfl : c = L.length := by omega
                  rw [List.take_length] at hO6 hN6
                  rw [← hNA.out] at hO6 hN6
                  have D6 := Hf.mk (D5.out.kp hkp6.out (by omega) (by omega) (by omega) (by omega))
                  have D7 : Hf (OwnV W6 W2.heap.size 4 W2.heap.size n n (bv (fsAt f W Hh n (t + 1)).D)) := ⟨by rw [hNA.out, settle_D]; exact D6.out⟩
                  have hc2 := Hf.mk ((cntW_eq D7.out).trans hNX.out.1.ct)
                  have htn := hNX.out.2
                  go_wp2
                  go_roundw
                  case rel => exact ⟨t + 1, ⟨hNX.out.1⟩, hO6, hN6, D7, ⟨P5.out.trans hkp6.out.wk⟩⟩
                  case measure => rw [hc2.out, hct.out]; omega
end Go.Proofs.Ytcgmffpddahgoab
