/-
The program's search for routes: (impl.Net).longsFrom lists how long the shortest ones are. No premise beyond those named.
-/
import Derived.Test.YteclmjknmdlopaaLfn
import Derived.Test.YteclmjknmdlopaaRep
namespace Go.Proofs.Yteclmjknmdlopaa
open Go Go.RowKit
set_option maxRecDepth 100000

def lenV : Option Value → Nat
  | some (.slice _ n _) => n
  | _ => 0
theorem ORow.kp2 {w w' : World} {base a : Nat} {b : Option Nat} {T : TypeId} {g cap n : Nat} {f : Nat → Int} (h : ORow w base T g cap n f) (K : Kp2 a b w w') (h1 : g ≠ a) (h2 : b ≠ some g) (hl : g < w.heap.size) : ORow w' base T g cap n f := by
  obtain ⟨hx, h3⟩ := h
  refine ⟨hx, ?_⟩
  rcases h3 with ⟨h0, _⟩ | ⟨g', cap', cur, hv, hg, hh, hr⟩
  · cases h0
  · cases hv
    exact .inr ⟨g, cap, cur, rfl, hg, (K.block g hl h1 (fun e => h2 e.symm)).trans hh, hr⟩
theorem At.kp2 {w w' : World} {a k o : Nat} {b : Option Nat} {v : Value} (h : At w ⟨k, o, none⟩ v) (K : Kp2 a b w w') (h1 : k ≠ a) (h2 : b ≠ some k) : At w' ⟨k, o, none⟩ v :=
  have hb := K.block k h.lt h1 (fun e => h2 e.symm)
  ⟨(World.cell?_of_block (a := ⟨k, o, none⟩) hb).trans h.cell, (World.frozen?_of_block (a := ⟨k, o, none⟩) hb).trans h.free, Nat.lt_of_lt_of_le h.lt K.size⟩
theorem Below.kp2 {w0 w w' : World} {B a : Nat} {b : Option Nat} (h : Below B w0 w) (K : Kp2 a b w w') (ha : B ≤ a) (hb : ∀ k, b = some k → B ≤ k) (hB : B ≤ w.heap.size) : Below B w0 w' :=
  ⟨K.os.trans h.os, K.tape.trans h.tape, K.output.trans h.output, Nat.le_trans h.size K.size, fun k hk => (K.block k (by omega) (by omega) (fun e => by have := hb k e.symm; omega)).trans (h.block k hk)⟩
theorem meas {w : World} {n g1 hb base N cap c1 : Nat} {T : TypeId} {f : Nat → Int} {a : Option Addr} (h : ORow w base T g1 c1 n f) (c : w.cell? ⟨hb, 0, none⟩ = some (.slice a N cap)) : (n - cnt n (cellF w g1)) * 65 + lenV (w.cell? ⟨hb, 0, none⟩) = (n - cnt n f) * 65 + N := by
  rw [c, cnt_congr (g := f) (fun j hj => by unfold cellF; rw [h.cell hj]; rfl)]
  rfl
/-- What lies in a world of the search. -/
structure Lay (w : World) (b hb g1 g cap N n m g2 : Nat) (G : Nat → Int × Int) (f : Nat → Int) : Prop where
  st : SRow w b 120 g cap N G
  hp : At w ⟨hb, 0, none⟩ (.slice (some ⟨g, 0, none⟩) N cap)
  lo : ORow w b 2 g1 n n f
  bx : At w ⟨b, 1, none⟩ (.slice (some ⟨g2, 0, none⟩) m m)
  gh : g ≠ hb
  gg : g ≠ g1
  gb : b < g
  hg : hb ≠ g1
  hb' : b < hb
  g1b : b < g1
theorem Lay.below {w w' : World} {b hb g1 g cap N n m g2 : Nat} {G : Nat → Int × Int} {f : Nat → Int} (h : Lay w b hb g1 g cap N n m g2 G f) (k : Below w.heap.size w w') : Lay w' b hb g1 g cap N n m g2 G f :=
  ⟨rown_below h.st k, At.keep k h.hp.cell h.hp.free, rown_below h.lo k, At.keep k h.bx.cell h.bx.free, h.gh, h.gg, h.gb, h.hg, h.hb', h.g1b⟩
theorem ORow.lt {w : World} {base : Nat} {T : TypeId} {g cap n : Nat} {f : Nat → Int} (h : ORow w base T g cap n f) : g < w.heap.size := by
  rcases h.2 with ⟨h0, _⟩ | ⟨g', cap', cur, hv, hg, hh, _⟩
  · cases h0
  · cases hv; exact (Array.getElem?_eq_some_iff.1 hh).1
theorem SRow.lt {w : World} {base : Nat} {T : TypeId} {g cap n : Nat} {G : Nat → Int × Int} (h : SRow w base T g cap n G) : g < w.heap.size := by
  rcases h.2 with ⟨h0, _⟩ | ⟨g', cap', cur, hv, hg, hh, _⟩
  · cases h0
  · cases hv; exact (Array.getElem?_eq_some_iff.1 hh).1
theorem Lay.set {w : World} {b hb g1 g cap N n m g2 : Nat} {G : Nat → Int × Int} {f : Nat → Int} (h : Lay w b hb g1 g cap N n m g2 G f) {q : Nat} (hq : q < n) (v : Int) : Lay (w.setCell ⟨g1, q, none⟩ (.int .i64 v)) b hb g1 g cap N n m g2 G (upd f q v) :=
  ⟨rown_other h.st h.gg _, h.hp.ot0 (.inl h.hg) _, h.lo.set hq v, h.bx.ot0 (.inl (by have := h.g1b; omega)) _, h.gh, h.gg, h.gb, h.hg, h.hb', h.g1b⟩
/-- The least stop taken, in the search's words. -/
theorem takeSt {W : Web} {s b hb g1 g cap N m g2 : Nat} {G : Nat → Int × Int} {f : Nat → Int} {t : Int} {c : Nat} (w : World) (ho : W.ok) (hL : Lay w b hb g1 g cap (N + 1) W.n m g2 G f) (hS : Srch W s (N + 1) G f t c) : Calls Try.prog 75 #[.pointer (some ⟨hb, 0, none⟩)] w (fun e w' => ∃ (q : Nat) (t' : Int) (G' : Nat → Int × Int), e = .returned (st2 t' (q : Int)) ∧ q < W.n ∧ 0 ≤ t' ∧ t' ≤ 65000000 ∧ (0 ≤ f q → Srch W s N G' f t' c) ∧ (f q < 0 → Inn W s N G' (upd f q t') t' q 0 ∧ cnt W.n (upd f q t') = cnt W.n f + 1) ∧ Lay w' b hb g1 g cap N W.n m g2 G' f ∧ Kp2 hb (some g) w w') := by
  have hn := hS.cnt0
  have h64 := ho.n64
  refine (take_any w hL.st hL.hp.cell hL.hp.free (by omega) hL.gh hS.heap).mono ?_
  rintro e w' ⟨G', rfl, s', c', h', p', k'⟩
  obtain ⟨q, t', e0, q1, t0, t1, sk, st⟩ := hS.take ho p' h'
  refine ⟨q, t', G', by rw [e0], q1, t0, t1, sk, st, ⟨s', c', hL.lo.kp2 k' (Ne.symm hL.hg) (fun e => hL.gg (Option.some.inj e)) hL.lo.lt, hL.bx.kp2 k' (by have := hL.hb'; omega) (fun e => by have := Option.some.inj e; have := hL.gb; omega), hL.gh, hL.gg, hL.gb, hL.hg, hL.hb', hL.g1b⟩, k'⟩
/-- A stop put, in the search's words. -/
theorem putSt {n b hb g1 g cap N m g2 : Nat} {G : Nat → Int × Int} {f : Nat → Int} {x y : Int} (w : World) (hL : Lay w b hb g1 g cap N n m g2 G f) (hN : N ≤ 10000) (hH : Heap bef N G) : Calls Try.prog 74 #[.pointer (some ⟨hb, 0, none⟩), st2 x y] w (fun e w' => ∃ (g' cap' : Nat) (G' : Nat → Int × Int), e = .returned (.tuple #[]) ∧ Lay w' b hb g1 g' cap' (N + 1) n m g2 G' f ∧ Heap bef (N + 1) G' ∧ (lst (N + 1) G').Perm ((x, y) :: lst N G) ∧ (g' = g ∨ w.heap.size ≤ g') ∧ Kp2 hb (some g) w w') := by
  have hbw : b ≤ w.heap.size := by have := hL.bx.lt; simp only at this; omega
  refine (put_any w hL.st hL.hp.cell hL.hp.free hN hbw (fun k e => by simp [Value.ownBlock] at e; have := hL.gh; omega) hH).mono ?_
  rintro e w' ⟨g', cap', G', rfl, s', c', v', h', p', k'⟩
  have hg1 := hL.lo.lt
  have hg2 : g' ≠ g1 ∧ b < g' ∧ g' ≠ hb := by
    have l1 := hL.hp.lt
    simp only at l1
    have := hL.gg
    have := hL.gb
    have := hL.gh
    have := hL.hb'
    rcases v' with e | e
    · simp [Value.ownBlock] at e; omega
    · omega
  refine ⟨g', cap', G', rfl, ⟨s', c', hL.lo.kp2 k' (Ne.symm hL.hg) (fun e => by simp [Value.ownBlock] at e; have := hL.gg; omega) hg1, hL.bx.kp2 k' (by have := hL.hb'; omega) (fun e => by simp [Value.ownBlock] at e; have := hL.gb; omega), hg2.2.2, hg2.1, hg2.2.1, hL.hg, hL.hb', hL.g1b⟩, h', p', ?_, k'⟩
  rcases v' with e | e
  · simp [Value.ownBlock] at e; omega
  · exact .inr e
set_option maxHeartbeats 1000000 in
theorem longsFrom_any {W : Web} {xs : List Int} {s g0 g2 : Nat} (w : World) (ho : W.ok) (hat : W.At xs) (hlg : ∀ i, i < W.m → W.lg i = raL xs i) (hm : W.m ≤ 64) (hs : s < W.n) (hr : IRow w (some ⟨g2, 0, none⟩) xs) : Calls Try.prog 45 #[nt (some ⟨g0, 0, none⟩) W.n W.n (some ⟨g2, 0, none⟩) W.m W.m, .int .i64 (s : Int)] w (fun e w' => ∃ g f, e = .returned (.slice (some ⟨g, 0, none⟩) W.n W.n) ∧ ORow w' w.heap.size 2 g W.n W.n f ∧ W.Longs s f ∧ Below w.heap.size w w') := by
  have hn64 := ho.n64
  have hn1 : 1 ≤ W.n := by omega
  have HO := Hf.mk ho
  have HA := Hf.mk hat
  have HL := Hf.mk hlg
  have HR := Hf.mk hr
  clear ho hat hlg hr
  have B0 := Hb.mk (Below.refl w.heap.size w)
  go_enter Try.func45, Try.ntmps45
  go_wp2_with fail
  refine (repeat_any (v := -1) _ hn1 hn64 (by simp [go_sem])).mono ?_
  rintro e w1 ⟨g1, rfl, o1, b1⟩
  have B1 := Hb.mk (Below.on (B := w.heap.size) (a := w) (by repeat (first | exact B0.out | refine Below.drews ?_ | refine Below.drew ?_ | refine Below.alloc ?_ (by have hq_ := B0.out.size; first | omega | (simp <;> omega)) _ | refine Below.setCell ?_ (by have hq_ := B0.out.size; first | omega | (simp <;> omega)) _)) b1 (by have hq_ := B0.out.size; first | omega | (simp <;> omega)))
  have hg1 : w.heap.size < g1 := by have := rt_ge o1 (k := g1) rfl; simp at this; omega
  have hg1l := ORow.lt o1
  have X1 := Hf.mk (At.keep b1 (p := ⟨w.heap.size, 1, none⟩) (v := .slice (some ⟨g2, 0, none⟩) W.m W.m) (by simp [go_sem]) (by simp [go_sem]))
  have O1 : Hf (ORow w1 w.heap.size 2 g1 W.n W.n (fun _ => -1)) := ⟨rown_lower o1 (by simp <;> omega)⟩
  have hsz := B1.out.size
  have hxl := X1.out.lt
  simp only at hxl
  clear o1 b1
  go_wp2_with fail
  refine (put_any (n := 0) (base := w.heap.size) (v := .slice none 0 0) (G := fun _ => ((0 : Int), (0 : Int))) (a := 0) (b := (s : Int)) _ ⟨by simp [il], .inl ⟨rfl, rfl⟩⟩ (by simp [go_sem]) (by simp [go_sem]) (by omega) (by simp; omega) (fun k e => by simp [Value.ownBlock] at e) (fun j h0 hj => by omega)).mono ?_
  rintro e w2 ⟨g, cap, G, rfl, s2, c2, v2, h2, p2, k2⟩
  have hgn : w1.heap.size < g := by
    rcases v2 with e | e
    · simp [Value.ownBlock] at e
    · simp at e; omega
  have L2 : Hf (Lay w2 w.heap.size w1.heap.size g1 g cap 1 W.n W.m g2 G (fun _ => -1)) := ⟨⟨s2, c2,
    ORow.kp2 (show ORow _ w.heap.size 2 g1 W.n W.n (fun _ => -1) from rown_below O1.out (by repeat (first | exact Below.refl _ _ | with_reducible assumption | refine Below.drews ?_ | refine Below.drew ?_ | refine Below.alloc ?_ (by simp <;> omega) _ | refine Below.setCell ?_ (by simp <;> omega) _))) k2 (by omega) (fun e => by simp [Value.ownBlock] at e) (by simp; omega),
    At.kp2 (At.keep (by repeat (first | exact Below.refl _ _ | with_reducible assumption | refine Below.drews ?_ | refine Below.drew ?_ | refine Below.alloc ?_ (by simp <;> omega) _ | refine Below.setCell ?_ (by simp <;> omega) _)) X1.out.cell X1.out.free) k2 (by omega) (fun e => by simp [Value.ownBlock] at e), by omega, by omega, by omega, by omega, by omega, hg1⟩⟩
  have S2 : Hf (Srch W s 1 G (fun _ => -1) 0 0) := ⟨Srch.first hs h2 (by simpa [lst] using p2)⟩
  have B2 : Hf (Below w.heap.size w w2) := ⟨Below.kp2 (show Below w.heap.size w _ from (by repeat (first | with_reducible refine Below.setCell ?_ (by first | omega | (simp <;> omega)) _ | with_reducible refine Below.drews ?_ | with_reducible refine Below.drew ?_ | with_reducible refine Below.alloc ?_ (by first | omega | (simp <;> omega)) _ | with_reducible exact B1.out | with_reducible exact Below.refl _ _))) k2 (by omega) (fun k e => by simp [Value.ownBlock] at e) (by simp; omega)⟩
  have hbl := c2.lt
  simp only at hbl
  have hbb : w.heap.size < w1.heap.size := hxl
  clear s2 c2 v2 h2 p2 k2 O1 X1 B1 hg1l hsz hxl hgn
  generalize w1.heap.size = hb at *
  go_wp2
  go_loopw [7] (fun _ wr => ∃ (N g cap : Nat) (G : Nat → Int × Int) (f : Nat → Int) (t : Int) (c : Nat), Hf (Lay wr w.heap.size hb g1 g cap N W.n W.m g2 G f) ∧ Hf (Srch W s N G f t c) ∧ Hf (Below w.heap.size w wr)) (fun _ wr => (W.n - cnt W.n (cellF wr g1)) * 65 + lenV (wr.cell? ⟨hb, 0, none⟩))
  case atStart => exact ⟨1, g, cap, G, _, 0, 0, L2, S2, B2⟩
  case round =>
    clear L2 S2 B2
    obtain ⟨N, g, cap, G, f, t, c, hL, hS, hB⟩ := hrel
    obtain ⟨W2, hW2⟩ : ∃ W2, W2 = wr := ⟨_, rfl⟩
    subst hW2
    have d0 := hL.out.hp.cell
    have hN := hS.out.cnt0
    cases N with
    | zero =>
      have HLn := Hf.mk hS.out.longs
      go_wp2
      go_ret
      exact ⟨g1, f, rfl, hL.out.lo, HLn.out, hB.out⟩
    | succ N =>
      have HM := Hf.mk (meas hL.out.lo d0)
      go_wp2_with fail
      refine (takeSt W2 HO.out hL.out hS.out).mono ?_
      rintro e w3 ⟨q, t', G', rfl, hq, ht0, ht1, hsk, hst, l3, k3⟩
      have HL3 := Hf.mk l3
      have HSK := Hf.mk hsk
      have HST := Hf.mk hst
      have B3 := Hb.mk (Below.kp2 hB.out k3 (by omega) (fun k e => by have := Option.some.inj e; have := hL.out.gb; omega) (by have := hL.out.bx.lt; simp only at this; omega))
      have dq := l3.lo.cell hq
      have zq := l3.lo.free q
      have dm := l3.bx.cell
      have hg1w := l3.lo.lt
      have hgb1 := l3.g1b
      clear hsk hst k3 l3 d0 hS
      by_cases hF : 0 ≤ f q
      · have S3 := Hf.mk (HSK.out hF)
        go_wp2
        go_roundw
        case rel => exact ⟨N, g, cap, G', f, t', c, ⟨HL3.out.below (by repeat (first | exact Below.refl _ _ | with_reducible assumption | refine Below.drews ?_ | refine Below.drew ?_ | refine Below.alloc ?_ (by simp <;> omega) _ | refine Below.setCell ?_ (by simp <;> omega) _))⟩, S3, ⟨(by repeat (first | with_reducible refine Below.setCell ?_ (by first | omega | (simp <;> omega)) _ | with_reducible refine Below.drews ?_ | with_reducible refine Below.drew ?_ | with_reducible refine Below.alloc ?_ (by first | omega | (simp <;> omega)) _ | with_reducible exact B3.out | with_reducible exact Below.refl _ _))⟩⟩
        case measure =>
          refine Nat.lt_of_le_of_lt (Nat.le_of_eq (meas (HL3.out.below (by repeat (first | exact Below.refl _ _ | with_reducible assumption | refine Below.drews ?_ | refine Below.drew ?_ | refine Below.alloc ?_ (by simp <;> omega) _ | refine Below.setCell ?_ (by simp <;> omega) _))).lo (HL3.out.below (by repeat (first | exact Below.refl _ _ | with_reducible assumption | refine Below.drews ?_ | refine Below.drew ?_ | refine Below.alloc ?_ (by simp <;> omega) _ | refine Below.setCell ?_ (by simp <;> omega) _))).hp.cell)) ?_
          refine Nat.lt_of_lt_of_le ?_ (Nat.le_of_eq HM.out.symm)
          omega
      · obtain ⟨i3, hcn⟩ := HST.out (by omega)
        have HI3 := Hf.mk i3
        have hcl := cnt_le (n := W.n) (upd f q t')
        have HF := Keep.mk hF
        clear HST HSK i3
        have hne1 : w.heap.size ≠ g1 := by omega
        have hne2 : g1 ≠ w.heap.size := by omega
        have hbx : w.heap.size < w3.heap.size := by omega
        have hne3 : w3.heap.size ≠ w.heap.size := by omega
        have hne4 : w.heap.size ≠ w3.heap.size := by omega
        go_wp2
        have hsbl : hb < w3.heap.size := by have := HL3.out.hp.lt; simpa using this
        go_loopw [40] (fun v40 wr => ∃ (k N2 g cap : Nat) (G2 : Nat → Int × Int), k ≤ W.m ∧ v40 = .int .i64 k ∧ N2 ≤ N + k ∧ Hf (Lay wr w.heap.size hb g1 g cap N2 W.n W.m g2 G2 (upd f q t')) ∧ Hf (Inn W s N2 G2 (upd f q t') t' q k) ∧ Hf (At wr ⟨w3.heap.size, 0, none⟩ (.int .i64 t')) ∧ Hf (At wr ⟨w3.heap.size, 1, none⟩ (.int .i64 (q : Int))) ∧ Hf (Below w.heap.size w wr) ∧ g ≠ w3.heap.size) (fun v40 _ => W.m - (intOf v40).toNat)
        case atStart =>
          refine ⟨0, N, g, cap, G', Nat.zero_le _, rfl, Nat.le_refl _, ⟨?_⟩, HI3, ⟨⟨by simp [go_sem], by simp [go_sem], by simp <;> omega⟩⟩, ⟨⟨by simp [go_sem], by simp [go_sem], by simp <;> omega⟩⟩, ⟨(by repeat (first | with_reducible refine Below.setCell ?_ (by first | omega | (simp <;> omega)) _ | with_reducible refine Below.drews ?_ | with_reducible refine Below.drew ?_ | with_reducible refine Below.alloc ?_ (by first | omega | (simp <;> omega)) _ | with_reducible exact B3.out | with_reducible exact Below.refl _ _))⟩, Nat.ne_of_lt HL3.out.st.lt⟩
          first
            | exact (Lay.set HL3.out hq t').below (by repeat (first | exact Below.refl _ _ | with_reducible assumption | refine Below.drews ?_ | refine Below.drew ?_ | refine Below.alloc ?_ (by simp <;> omega) _ | refine Below.setCell ?_ (by simp <;> omega) _))
            | exact Lay.set (HL3.out.below (by repeat (first | exact Below.refl _ _ | with_reducible assumption | refine Below.drews ?_ | refine Below.drew ?_ | refine Below.alloc ?_ (by simp <;> omega) _ | refine Below.setCell ?_ (by simp <;> omega) _))) hq t'
        case round =>
          obtain ⟨k, N2, g', cap', G2, hk, rfl, hN2, hL4, hI4, hs0, hs1, hB4, hgs⟩ := hrel
          obtain ⟨W4, hW4⟩ : ∃ W4, W4 = wr := ⟨_, rfl⟩
          subst hW4
          have e0 := hs0.out.cell
          have e1 := hs1.out.cell
          have hw34 : w3.heap.size < W4.heap.size := by have := hs0.out.lt; simpa using this
          have hw35 : w3.heap.size ≠ W4.heap.size := by omega
          have hw36 : W4.heap.size ≠ w3.heap.size := by omega
          have hx34 : w.heap.size ≠ W4.heap.size := by omega
          have hb34 : hb ≠ W4.heap.size := by omega
          have hk64 : k ≤ 64 := Nat.le_trans hk hm
          by_cases hlt : k < W.m
          · obtain ⟨r0, r1, r2⟩ := (HR.out.below hB4.out).threeAt HA.out.len hlt
            rw [HA.out.a k hlt] at r0
            rw [HA.out.b k hlt] at r1
            rw [← HL.out k hlt] at r2
            have hl := HO.out.l k hlt
            have hbig := hI4.out.big
            have hpos := hI4.out.pos
            have s1 : wrap64 (t' + W.lg k) = t' + W.lg k := by unfold wrap64; omega
            have B4 := Hb.mk hB4.out
            have hN2b : N2 ≤ 10000 := by have := hI4.out.len; have := cnt_le (n := W.n) (upd f q t'); omega
            by_cases hqa : q = W.A k
            · have hqa2 := Hf.mk (show (q : Int) = (W.A k : Int) by omega)
              have HADD := Hf.mk (fun (G5 : Nat → Int × Int) h5 p5 => hI4.out.add HO.out (G' := G5) hlt (q := W.B k) (.inl ⟨hqa.symm, rfl⟩) h5 p5)
              clear hqa
              go_wp2_with fail
              refine (otherEnd_a hqa2.out _).mono ?_
              rintro e w5 ⟨rfl, b5⟩
              have E5 := Hb.mk (Below.on (B := W4.heap.size) (a := W4) (by repeat (first | exact Below.refl _ _ | with_reducible assumption | refine Below.drews ?_ | refine Below.drew ?_ | refine Below.alloc ?_ (by simp <;> omega) _ | refine Below.setCell ?_ (by simp <;> omega) _)) b5 (by simp <;> omega))
              have HL5 := Hf.mk (hL4.out.below E5.out)
              have hs5 := Hf.mk (At.keep E5.out e0 hs0.out.free)
              have hs6 := Hf.mk (At.keep E5.out e1 hs1.out.free)
              have r5 := Hf.mk (At.keep b5 (p := ⟨W4.heap.size, 2, none⟩) (v := .int .i64 (W.lg k)) (by simp [go_sem]) (by simp [go_sem]))
              have B5 := Hb.mk (Below.on (B := w.heap.size) (a := w) (by repeat (first | exact B4.out | refine Below.drews ?_ | refine Below.drew ?_ | refine Below.alloc ?_ (by have hq_ := B4.out.size; first | omega | (simp <;> omega)) _ | refine Below.setCell ?_ (by have hq_ := B4.out.size; first | omega | (simp <;> omega)) _)) b5 (by have hq_ := B4.out.size; first | omega | (simp <;> omega)))
              have e5 := hs5.out.cell
              have r6 := r5.out.cell
              clear b5 r0 r1 r2 e0 e1
              go_wp2_with fail
              refine (putSt _ (HL5.out.below (by repeat (first | exact Below.refl _ _ | with_reducible assumption | refine Below.drews ?_ | refine Below.drew ?_ | refine Below.alloc ?_ (by simp <;> omega) _ | refine Below.setCell ?_ (by simp <;> omega) _))) hN2b hI4.out.heap).mono ?_
              rintro e w6 ⟨g6, cap6, G6, rfl, L6, h6, p6, x6, k6⟩
              have HL6 := Hf.mk L6
              have HA6 := Hf.mk (HADD.out G6 h6 p6)
              have hgh := HL5.out.gb
              have hsl5 := hs5.out.lt; have hg6 : g6 ≠ w3.heap.size := (by rcases x6 with e | e; omega; simp only at hsl5; omega)
              have hs7 := Hf.mk (At.kp2 (At.keep (by repeat (first | exact Below.refl _ _ | with_reducible assumption | refine Below.drews ?_ | refine Below.drew ?_ | refine Below.alloc ?_ (by simp <;> omega) _ | refine Below.setCell ?_ (by simp <;> omega) _)) hs5.out.cell hs5.out.free) k6 (by omega) (fun e => by have := Option.some.inj e; omega))
              have hs8 := Hf.mk (At.kp2 (At.keep (by repeat (first | exact Below.refl _ _ | with_reducible assumption | refine Below.drews ?_ | refine Below.drew ?_ | refine Below.alloc ?_ (by simp <;> omega) _ | refine Below.setCell ?_ (by simp <;> omega) _)) hs6.out.cell hs6.out.free) k6 (by omega) (fun e => by have := Option.some.inj e; omega))
              have B6 := Hb.mk (Below.kp2 (show Below w.heap.size w _ from (by repeat (first | with_reducible refine Below.setCell ?_ (by first | omega | (simp <;> omega)) _ | with_reducible refine Below.drews ?_ | with_reducible refine Below.drew ?_ | with_reducible refine Below.alloc ?_ (by first | omega | (simp <;> omega)) _ | with_reducible exact B5.out | with_reducible exact Below.refl _ _))) k6 (by omega) (fun k e => by have := Option.some.inj e; omega) (by have := B5.out.size; simp <;> omega))
              clear L6 h6 p6 k6 x6 r6 e5
              go_wp2
              go_roundw
              case rel => exact ⟨k + 1, N2 + 1, g6, cap6, G6, by omega, i_ext2 (by omega), by omega, ⟨HL6.out.below (by repeat (first | exact Below.refl _ _ | with_reducible assumption | refine Below.drews ?_ | refine Below.drew ?_ | refine Below.alloc ?_ (by simp <;> omega) _ | refine Below.setCell ?_ (by simp <;> omega) _))⟩, HA6, ⟨At.keep (by repeat (first | exact Below.refl _ _ | with_reducible assumption | refine Below.drews ?_ | refine Below.drew ?_ | refine Below.alloc ?_ (by simp <;> omega) _ | refine Below.setCell ?_ (by simp <;> omega) _)) hs7.out.cell hs7.out.free⟩, ⟨At.keep (by repeat (first | exact Below.refl _ _ | with_reducible assumption | refine Below.drews ?_ | refine Below.drew ?_ | refine Below.alloc ?_ (by simp <;> omega) _ | refine Below.setCell ?_ (by simp <;> omega) _)) hs8.out.cell hs8.out.free⟩, ⟨(by repeat (first | with_reducible refine Below.setCell ?_ (by first | omega | (simp <;> omega)) _ | with_reducible refine Below.drews ?_ | with_reducible refine Below.drew ?_ | with_reducible refine Below.alloc ?_ (by first | omega | (simp <;> omega)) _ | with_reducible exact B6.out | with_reducible exact Below.refl _ _))⟩, hg6⟩
              case measure => simp [intOf]; omega
            · by_cases hqb : q = W.B k
              · have hqa2 : (q : Int) ≠ (W.A k : Int) := by omega
                have hqb2 := Hf.mk (show (q : Int) = (W.B k : Int) by omega)
                have HADD := Hf.mk (fun (G5 : Nat → Int × Int) h5 p5 => hI4.out.add HO.out (G' := G5) hlt (q := W.A k) (.inr ⟨rfl, hqb.symm⟩) h5 p5)
                clear hqa hqb
                go_wp2_with fail
                refine (otherEnd_b hqa2 hqb2.out _).mono ?_
                rintro e w5 ⟨rfl, b5⟩
                have E5 := Hb.mk (Below.on (B := W4.heap.size) (a := W4) (by repeat (first | exact Below.refl _ _ | with_reducible assumption | refine Below.drews ?_ | refine Below.drew ?_ | refine Below.alloc ?_ (by simp <;> omega) _ | refine Below.setCell ?_ (by simp <;> omega) _)) b5 (by simp <;> omega))
                have HL5 := Hf.mk (hL4.out.below E5.out)
                have hs5 := Hf.mk (At.keep E5.out e0 hs0.out.free)
                have hs6 := Hf.mk (At.keep E5.out e1 hs1.out.free)
                have r5 := Hf.mk (At.keep b5 (p := ⟨W4.heap.size, 2, none⟩) (v := .int .i64 (W.lg k)) (by simp [go_sem]) (by simp [go_sem]))
                have B5 := Hb.mk (Below.on (B := w.heap.size) (a := w) (by repeat (first | exact B4.out | refine Below.drews ?_ | refine Below.drew ?_ | refine Below.alloc ?_ (by have hq_ := B4.out.size; first | omega | (simp <;> omega)) _ | refine Below.setCell ?_ (by have hq_ := B4.out.size; first | omega | (simp <;> omega)) _)) b5 (by have hq_ := B4.out.size; first | omega | (simp <;> omega)))
                have e5 := hs5.out.cell
                have r6 := r5.out.cell
                clear b5 r0 r1 r2 e0 e1
                go_wp2_with fail
                refine (putSt _ (HL5.out.below (by repeat (first | exact Below.refl _ _ | with_reducible assumption | refine Below.drews ?_ | refine Below.drew ?_ | refine Below.alloc ?_ (by simp <;> omega) _ | refine Below.setCell ?_ (by simp <;> omega) _))) hN2b hI4.out.heap).mono ?_
                rintro e w6 ⟨g6, cap6, G6, rfl, L6, h6, p6, x6, k6⟩
                have HL6 := Hf.mk L6
                have HA6 := Hf.mk (HADD.out G6 h6 p6)
                have hgh := HL5.out.gb
                have hsl5 := hs5.out.lt; have hg6 : g6 ≠ w3.heap.size := (by rcases x6 with e | e; omega; simp only at hsl5; omega)
                have hs7 := Hf.mk (At.kp2 (At.keep (by repeat (first | exact Below.refl _ _ | with_reducible assumption | refine Below.drews ?_ | refine Below.drew ?_ | refine Below.alloc ?_ (by simp <;> omega) _ | refine Below.setCell ?_ (by simp <;> omega) _)) hs5.out.cell hs5.out.free) k6 (by omega) (fun e => by have := Option.some.inj e; omega))
                have hs8 := Hf.mk (At.kp2 (At.keep (by repeat (first | exact Below.refl _ _ | with_reducible assumption | refine Below.drews ?_ | refine Below.drew ?_ | refine Below.alloc ?_ (by simp <;> omega) _ | refine Below.setCell ?_ (by simp <;> omega) _)) hs6.out.cell hs6.out.free) k6 (by omega) (fun e => by have := Option.some.inj e; omega))
                have B6 := Hb.mk (Below.kp2 (show Below w.heap.size w _ from (by repeat (first | with_reducible refine Below.setCell ?_ (by first | omega | (simp <;> omega)) _ | with_reducible refine Below.drews ?_ | with_reducible refine Below.drew ?_ | with_reducible refine Below.alloc ?_ (by first | omega | (simp <;> omega)) _ | with_reducible exact B5.out | with_reducible exact Below.refl _ _))) k6 (by omega) (fun k e => by have := Option.some.inj e; omega) (by have := B5.out.size; simp <;> omega))
                clear L6 h6 p6 k6 x6 r6 e5
                go_wp2
                go_roundw
                case rel => exact ⟨k + 1, N2 + 1, g6, cap6, G6, by omega, i_ext2 (by omega), by omega, ⟨HL6.out.below (by repeat (first | exact Below.refl _ _ | with_reducible assumption | refine Below.drews ?_ | refine Below.drew ?_ | refine Below.alloc ?_ (by simp <;> omega) _ | refine Below.setCell ?_ (by simp <;> omega) _))⟩, HA6, ⟨At.keep (by repeat (first | exact Below.refl _ _ | with_reducible assumption | refine Below.drews ?_ | refine Below.drew ?_ | refine Below.alloc ?_ (by simp <;> omega) _ | refine Below.setCell ?_ (by simp <;> omega) _)) hs7.out.cell hs7.out.free⟩, ⟨At.keep (by repeat (first | exact Below.refl _ _ | with_reducible assumption | refine Below.drews ?_ | refine Below.drew ?_ | refine Below.alloc ?_ (by simp <;> omega) _ | refine Below.setCell ?_ (by simp <;> omega) _)) hs8.out.cell hs8.out.free⟩, ⟨(by repeat (first | with_reducible refine Below.setCell ?_ (by first | omega | (simp <;> omega)) _ | with_reducible refine Below.drews ?_ | with_reducible refine Below.drew ?_ | with_reducible refine Below.alloc ?_ (by first | omega | (simp <;> omega)) _ | with_reducible exact B6.out | with_reducible exact Below.refl _ _))⟩, hg6⟩
                case measure => simp [intOf]; omega
              · have hqa2 : (q : Int) ≠ (W.A k : Int) := by omega
                have hqb2 : (q : Int) ≠ (W.B k : Int) := by omega
                have HP := Hf.mk (hI4.out.pass (Ne.symm hqa) (Ne.symm hqb))
                clear hqa hqb
                go_wp2_with fail
                refine (otherEnd_no hqa2 hqb2 _).mono ?_
                rintro e w5 ⟨rfl, b5⟩
                have E5 := Hb.mk (Below.on (B := W4.heap.size) (a := W4) (by repeat (first | exact Below.refl _ _ | with_reducible assumption | refine Below.drews ?_ | refine Below.drew ?_ | refine Below.alloc ?_ (by simp <;> omega) _ | refine Below.setCell ?_ (by simp <;> omega) _)) b5 (by simp <;> omega))
                have HL5 := Hf.mk (hL4.out.below E5.out)
                have hs5 := Hf.mk (At.keep E5.out e0 hs0.out.free)
                have hs6 := Hf.mk (At.keep E5.out e1 hs1.out.free)
                have B5 := Hb.mk (Below.on (B := w.heap.size) (a := w) (by repeat (first | exact B4.out | refine Below.drews ?_ | refine Below.drew ?_ | refine Below.alloc ?_ (by have hq_ := B4.out.size; first | omega | (simp <;> omega)) _ | refine Below.setCell ?_ (by have hq_ := B4.out.size; first | omega | (simp <;> omega)) _)) b5 (by have hq_ := B4.out.size; first | omega | (simp <;> omega)))
                clear b5 r0 r1 r2 e0 e1
                go_wp2
                go_roundw
                case rel => exact ⟨k + 1, N2, g', cap', G2, by omega, i_ext2 (by omega), by omega, ⟨HL5.out.below (by repeat (first | exact Below.refl _ _ | with_reducible assumption | refine Below.drews ?_ | refine Below.drew ?_ | refine Below.alloc ?_ (by simp <;> omega) _ | refine Below.setCell ?_ (by simp <;> omega) _))⟩, HP, ⟨At.keep (by repeat (first | exact Below.refl _ _ | with_reducible assumption | refine Below.drews ?_ | refine Below.drew ?_ | refine Below.alloc ?_ (by simp <;> omega) _ | refine Below.setCell ?_ (by simp <;> omega) _)) hs5.out.cell hs5.out.free⟩, ⟨At.keep (by repeat (first | exact Below.refl _ _ | with_reducible assumption | refine Below.drews ?_ | refine Below.drew ?_ | refine Below.alloc ?_ (by simp <;> omega) _ | refine Below.setCell ?_ (by simp <;> omega) _)) hs6.out.cell hs6.out.free⟩, ⟨(by repeat (first | with_reducible refine Below.setCell ?_ (by first | omega | (simp <;> omega)) _ | with_reducible refine Below.drews ?_ | with_reducible refine Below.drew ?_ | with_reducible refine Below.alloc ?_ (by first | omega | (simp <;> omega)) _ | with_reducible exact B5.out | with_reducible exact Below.refl _ _))⟩, hgs⟩
                case measure => simp [intOf]; omega
          · obtain rfl : k = W.m := by omega
            have HD := Hf.mk (hI4.out.done hm)
            go_wp2
            go_roundw
            case rel => exact ⟨N2, g', cap', G2, _, t', q, hL4, HD, hB4⟩
            case measure =>
              refine Nat.lt_of_le_of_lt (Nat.le_of_eq (meas hL4.out.lo hL4.out.hp.cell)) ?_
              refine Nat.lt_of_lt_of_le ?_ (Nat.le_of_eq HM.out.symm)
              omega
end Go.Proofs.Yteclmjknmdlopaa
