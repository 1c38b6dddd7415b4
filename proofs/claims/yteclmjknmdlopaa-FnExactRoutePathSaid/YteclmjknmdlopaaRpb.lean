/-
The place before, and a list turned round, of the program. No premise beyond those named.
The place before, of the program. No premise beyond those named.
RoutePath, of the program. No premise beyond those named.
-/
import Derived.Test.YteclmjknmdlopaaRps
namespace Go.Proofs.Yteclmjknmdlopaa
open Go Go.RowKit
set_option maxRecDepth 100000

/-- A list turned round as far as i from both ends. -/
def rv (f : Nat → Int) (n i : Nat) (j : Nat) : Int := if j < i ∨ n - i ≤ j then f (n - 1 - j) else f j
theorem rv_zero {f : Nat → Int} {n j : Nat} (h : j < n) : rv f n 0 j = f j := by unfold rv; rw [if_neg (by omega)]
theorem rv_all {f : Nat → Int} {n i j : Nat} (h : j < n) (hi : n ≤ 2 * i + 1) : rv f n i j = f (n - 1 - j) := by
  unfold rv
  split
  · rfl
  · rw [show n - 1 - j = j by omega]
theorem rv_mid {f : Nat → Int} {n i : Nat} (h : 2 * i + 1 < n) : rv f n i i = f i ∧ rv f n i (n - 1 - i) = f (n - 1 - i) := by
  unfold rv
  rw [if_neg (by omega), if_neg (by omega)]
  exact ⟨rfl, rfl⟩
theorem rv_step {f : Nat → Int} {n i j : Nat} (h : 2 * i + 1 < n) (hj : j < n) : upd (upd (rv f n i) i (f (n - 1 - i))) (n - 1 - i) (f i) j = rv f n (i + 1) j := by
  by_cases h1 : j = n - 1 - i
  · subst h1
    rw [upd_at]
    unfold rv
    rw [if_pos (by omega), show n - 1 - (n - 1 - i) = i by omega]
  · rw [upd_ne h1]
    by_cases h2 : j = i
    · subst h2
      rw [upd_at]
      unfold rv
      rw [if_pos (by omega)]
    · rw [upd_ne h2]
      unfold rv
      by_cases h3 : j < i ∨ n - i ≤ j
      · rw [if_pos h3, if_pos (by omega)]
      · rw [if_neg h3, if_neg (by omega)]
theorem ORow.congr {w : World} {base : Nat} {T : TypeId} {g cap n : Nat} {f f' : Nat → Int} (h : ORow w base T g cap n f) (e : ∀ j, j < n → f j = f' j) : ORow w base T g cap n f' := by
  unfold ORow at h ⊢
  rw [← il_congr e]
  exact h
theorem gb_two {w : World} {g : Nat} {a b : Addr} (x y : Value) (hb : b.block = g) : (w.setCell a x).grownBy ((w.setCell a x).setCell b y) (some g) := ⟨rfl, rfl, rfl, by simp, fun k _ hk => Below.heap_setCell _ _ _ _ (fun e => hk (by rw [← hb]; exact congrArg some e))⟩
set_option maxHeartbeats 2000000 in
theorem reverse_any {base g cap n : Nat} {f : Nat → Int} (w : World) (hO : ORow w base 2 g cap n f) (hn : n ≤ 1048576) : Calls Try.prog 47 #[.slice (some ⟨g, 0, none⟩) n cap] w (fun e w' => e = .returned (.tuple #[]) ∧ ORow w' base 2 g cap n (fun j => f (n - 1 - j)) ∧ w.grownBy w' (some g)) := by
  have HO := Hf.mk hO
  clear hO
  go_enter Try.func47, Try.ntmps47
  go_wp2
  go_loopw [2, 3] (fun a b wr => ∃ (i : Nat), 2 * i ≤ n + 1 ∧ a = .int .i64 (i : Int) ∧ b = .int .i64 ((n : Int) - 1 - (i : Int)) ∧ Hf (ORow wr base 2 g cap n (rv f n i)) ∧ Hf (w.grownBy wr (some g))) (fun a _ _ => n + 1 - (intOf a).toNat)
  case atStart => exact ⟨0, by omega, rfl, i_ext2 (by omega), ⟨HO.out.congr (fun j hj => (rv_zero hj).symm)⟩, ⟨gb_refl _ _⟩⟩
  case round =>
    obtain ⟨i, hi, rfl, rfl, hR, hG⟩ := hrel
    obtain ⟨W1, hW1⟩ : ∃ W1, W1 = wr := ⟨_, rfl⟩
    subst hW1
    by_cases hlt : 2 * i + 1 < n
    · obtain ⟨k, hk⟩ : ∃ k : Nat, i + k + 1 = n := ⟨n - 1 - i, by omega⟩
      rw [show (n : Int) - 1 - (i : Int) = (k : Int) by omega]
      have c1 := hR.out.cell (j := i) (by omega)
      have c2 := hR.out.cell (j := k) (by omega)
      have z1 := hR.out.free i
      have z2 := hR.out.free k
      obtain ⟨m1, m2⟩ := rv_mid (f := f) hlt
      rw [show n - 1 - i = k by omega] at m2
      rw [m1] at c1
      rw [m2] at c2
      have hst := fun j (hj : j < n) => rv_step (f := f) hlt hj
      rw [show n - 1 - i = k by omega] at hst
      have HS := Hf.mk (((hR.out.set (j := i) (by omega) (f k)).set (j := k) (by omega) (f i)).congr hst)
      have HGs := Hf.mk (fun (x y : Value) => gb_trans hG.out (gb_trans ((World.ownsRow.stored hR.out i x).2) (gb_two (w := W1) (g := g) (a := ⟨g, i, none⟩) (b := ⟨g, k, none⟩) x y rfl)))
      have hik : ¬ i = k := by omega
      have hki : ¬ k = i := by omega
      obtain ⟨X, hX⟩ : ∃ X, X = f i := ⟨_, rfl⟩
      obtain ⟨Y, hY⟩ : ∃ Y, Y = f k := ⟨_, rfl⟩
      rw [← hX] at c1 HS
      rw [← hY] at c2 HS
      clear hX hY m1 m2 hst
      have gl : g < W1.heap.size := by have := block_lt_of_cell c1; simpa using this
      go_wp2
      go_region
      all_goals go_wp2
      all_goals go_roundw
      case rel => exact ⟨i + 1, by omega, i_ext2 (by omega), i_ext2 (by omega), ⟨HS.out.drews 1⟩, ⟨gb_trans (HGs.out _ _) (gb_drew _ 1 _)⟩⟩
      case measure => simp [intOf]; omega
    · go_wp2
      (try change bodyPost _ _ _ _ _ _); exact bodyPost_end (v := .tuple #[]) (by simp [results, Try.results47, go_sem]) rfl ⟨rfl, hR.out.congr (fun j hj => rv_all hj (by omega)), hG.out⟩
end Go.Proofs.Yteclmjknmdlopaa
namespace Go.Proofs.Yteclmjknmdlopaa
open Go Go.RowKit
set_option maxRecDepth 100000
section
variable {P : Program} {ops : Array Oper} {rest : List Oper} {o : Oper} {a : Act} {w : World} {Q : Exit → Act → World → Prop}
theorem imin_run2 (ts : Array TypeId) (t : TypeId) (p q : Int) (w : World) : (Builtin.min_ ts t #[.int .i64 p, .int .i64 q]).run P w = .ok (.int .i64 (min p q)) w := by
  simp [Builtin.min_, Builtin.min2]
  split <;> omega
theorem wpList_imin2 (hgd : o.guard = none) {x y : Operand} {ts : Array TypeId} (ho : o.op = .call { callee := .builtin .min, args := #[x, y], argTypes := ts }) {p q : Int} (hx : a.eval x = .int .i64 p) (hy : a.eval y = .int .i64 q) (h : wpList P ops Q rest (a.put o.dst (.int .i64 (min p q))) w) : wpList P ops Q (o :: rest) a w := by
  refine wpList_value hgd ?_ h
  simp [execOp, ho, hx, hy, imin_run2, resolve, invoke, builtin]
end

set_option maxHeartbeats 4000000 in
theorem placeBefore_any {W : Web} {g1 g2 gl cl p s : Nat} {xs F : List Int} (w : World) (hq : IRow w (some ⟨g2, 0, none⟩) xs) (hR : IRow w (some ⟨gl, 0, none⟩) F) (ho : W.ok) (hat : W.At xs) (hlg : ∀ i, i < W.m → W.lg i = raL xs i) (hm : W.m ≤ 64) (hF : F.length = W.n) (hL : W.Longs s (fF F)) (hp : p < W.n) : Calls Try.prog 46 #[nv g1 W.n g2 W.m, .slice (some ⟨gl, 0, none⟩) W.n cl, .int .i64 (p : Int)] w (RS (.int .i64 (W.least (fF F) p W.m : Int)) w) := by
  have HQ := Hf.mk hq
  have R1 := Hf.mk hR
  have HO := Hf.mk ho
  have HA := Hf.mk hat
  have HG := Hf.mk hlg
  have HFl := Hf.mk hF
  have HLo := Hf.mk hL
  have hn64 := ho.n64
  have B0 := Hb.mk (Below.refl w.heap.size w)
  have hfp1 := hL.le ho hp
  obtain ⟨FP, hFP⟩ : ∃ x, fF F p = x := ⟨_, rfl⟩
  clear hq hR ho hat hlg hF hL
  go_enter Try.func46, Try.ntmps46
  go_wp2
  go_loopw [7, 17] (fun v c wr => ∃ (i : Nat), i ≤ W.m ∧ c = .int .i64 i ∧ v = .int .i64 (W.least (fF F) p i : Int) ∧ Hb (Below w.heap.size w wr)) (fun _ c _ => W.m - (intOf c).toNat)
  case atStart => exact ⟨0, by omega, rfl, rfl, ⟨(by repeat (first | exact Below.refl _ _ | with_reducible assumption | refine Below.drews ?_ | refine Below.drew ?_ | refine Below.alloc ?_ (by simp <;> omega) _ | refine Below.setCell ?_ (by simp <;> omega) _))⟩⟩
  case round =>
    obtain ⟨i, hi, rfl, rfl, hB⟩ := hrel
    obtain ⟨W1, hW1⟩ : ∃ W1, W1 = wr := ⟨_, rfl⟩
    subst hW1
    have hszB := hB.out.size
    by_cases hlti : i < W.m
    · obtain ⟨r0, r1, r2⟩ := (HQ.out.below hB.out).threeAt HA.out.len hlti
      rw [HA.out.a i hlti] at r0
      rw [HA.out.b i hlti] at r1
      rw [← HG.out i hlti] at r2
      have a1 := HO.out.a i hlti
      have b1 := HO.out.b i hlti
      have ab := HO.out.ne i hlti
      have l1 := HO.out.l i hlti
      have lo := W.least_le (fF F) p i
      have HR2 := Hf.mk (fun {W2 : World} (b : Below w.heap.size w W2) (k : Nat) (hk : k < W.n) => (R1.out.below b).oneAt (k := k) (by rw [HFl.out]; exact hk))
      have hFA1 := HLo.out.le HO.out a1
      have hFB1 := HLo.out.le HO.out b1
      have hFA0 := HLo.out.low _ a1
      have hFB0 := HLo.out.low _ b1
      have HMn := Hf.mk (fun {o : Nat} ho h => least_min (W := W) (f := fF F) (p := p) (k := i) (o := o) ho h)
      have HSt := Hf.mk (fun {o : Nat} ho h => least_stay (W := W) (f := fF F) (p := p) (k := i) (o := o) ho h)
      have HNo := Hf.mk (fun h1 h2 => least_none (W := W) (f := fF F) (p := p) (k := i) h1 h2)
      obtain ⟨FA, hFA⟩ : ∃ x, fF F (W.A i) = x := ⟨_, rfl⟩
      obtain ⟨FB, hFB⟩ : ∃ x, fF F (W.B i) = x := ⟨_, rfl⟩
      rw [hFA] at hFA1 hFA0
      rw [hFB] at hFB1 hFB0
      obtain ⟨A, hAe⟩ : ∃ x, W.A i = x := ⟨_, rfl⟩
      obtain ⟨B, hBe⟩ : ∃ x, W.B i = x := ⟨_, rfl⟩
      obtain ⟨Lg, hLe⟩ : ∃ x, W.lg i = x := ⟨_, rfl⟩
      rw [hAe] at r0 a1 ab
      rw [hBe] at r1 b1 ab
      rw [hLe] at r2 l1
      obtain ⟨l1, l2⟩ := l1
      obtain ⟨lt, hlt⟩ : ∃ x, W.least (fF F) p i = x := ⟨_, rfl⟩
      rw [hlt] at lo ⊢
      have KAe := Keep.mk hAe
      have KBe := Keep.mk hBe
      have KLe := Keep.mk hLe
      have KFA := Keep.mk hFA
      have KFB := Keep.mk hFB
      have KFP := Keep.mk hFP
      have Klt := Keep.mk hlt
      have s1 : wrap64 (FA + Lg) = FA + Lg := by unfold wrap64; omega
      have s2 : wrap64 (FB + Lg) = FB + Lg := by unfold wrap64; omega
      have HcP := Hf.mk (fun {W2 : World} (b : Below w.heap.size w W2) => show W2.cell? ⟨gl, p, none⟩ = some (.int .i64 FP) by rw [← KFP.out]; exact HR2.out b p hp)
      have HcA := Hf.mk (fun {W2 : World} (b : Below w.heap.size w W2) => show W2.cell? ⟨gl, A, none⟩ = some (.int .i64 FA) by rw [← KFA.out, KAe.out]; exact HR2.out b A a1)
      have HcB := Hf.mk (fun {W2 : World} (b : Below w.heap.size w W2) => show W2.cell? ⟨gl, B, none⟩ = some (.int .i64 FB) by rw [← KFB.out, KBe.out]; exact HR2.out b B b1)
      clear hAe hBe hLe hFA hFB hlt hFP HR2
      by_cases hA : (p : Int) = (A : Int)
      · have KO := Hf.mk (fun w => otherEnd_a (a := (A : Int)) (b := (B : Int)) (l := Lg) hA w)
        have HRoad : Hf ((W.A i = p ∧ W.B i = B) ∨ (W.A i ≠ p ∧ W.B i = p ∧ W.A i = B)) := ⟨.inl ⟨by rw [KAe.out]; omega, KBe.out⟩⟩
        have HEq : Hf (fF F B + W.lg i = FB + Lg) := ⟨by rw [← KBe.out, KFB.out, KLe.out]⟩
        clear hA
        go_wp2_with (go_at_call 76; refine (KO.out _).mono ?_; rintro e w5 ⟨rfl, b5⟩; have B5 := Hb.mk (Below.on (B := w.heap.size) (a := w) (by repeat (first | exact hB.out | refine Below.drews ?_ | refine Below.drew ?_ | refine Below.alloc ?_ (by have hq_ := hB.out.size; first | omega | (simp <;> omega)) _ | refine Below.setCell ?_ (by have hq_ := hB.out.size; first | omega | (simp <;> omega)) _)) b5 (by have hq_ := hB.out.size; first | omega | (simp <;> omega))); have r6 : w5.cell? ⟨W1.heap.size, 2, none⟩ = some (.int .i64 Lg) := (At.keep b5 (p := ⟨W1.heap.size, 2, none⟩) (v := .int .i64 Lg) (by simp [go_sem]) (by simp [go_sem])).cell; have dQ := HcB.out (by repeat (first | with_reducible refine Below.setCell ?_ (by first | omega | (simp <;> omega)) _ | with_reducible refine Below.drews ?_ | with_reducible refine Below.drew ?_ | with_reducible refine Below.alloc ?_ (by first | omega | (simp <;> omega)) _ | with_reducible exact B5.out | with_reducible exact Below.refl _ _)); have dP := HcP.out (by repeat (first | with_reducible refine Below.setCell ?_ (by first | omega | (simp <;> omega)) _ | with_reducible refine Below.drews ?_ | with_reducible refine Below.drew ?_ | with_reducible refine Below.alloc ?_ (by first | omega | (simp <;> omega)) _ | with_reducible exact B5.out | with_reducible exact Below.refl _ _)); clear b5)
        by_cases hq : FB + Lg = FP
        · have D3 := Hb.mk (show (FB + Lg == FP) = true from beq_iff_eq.2 hq)
          have KM := Hf.mk ((HMn.out HRoad.out (by rw [HEq.out, KFP.out]; exact hq)).trans (by rw [Klt.out]))
          refine wp_region_quiet_lit (by kernel_rfl) (by kernel_rfl) ?_
          repeat (first | go_big_quiet_step (fail) | rw [D3.out])
          refine wpQuiet_nil ?_
          intro _ hw'
          obtain ⟨nq, hw''⟩ := hw'
          subst hw''
          go_wp2_with (refine wpList_imin2 rfl rfl rfl rfl ?_; simp only [Act.put, List.setIfInBounds_toArray, List.set_cons_succ, List.set_cons_zero])
          go_roundw
          case rel => exact ⟨i + 1, by omega, i_ext2 (by omega), i_ext2 (by rw [KM.out]; omega), ⟨(by repeat (first | with_reducible refine Below.setCell ?_ (by first | omega | (simp <;> omega)) _ | with_reducible refine Below.drews ?_ | with_reducible refine Below.drew ?_ | with_reducible refine Below.alloc ?_ (by first | omega | (simp <;> omega)) _ | with_reducible exact B5.out | with_reducible exact Below.refl _ _))⟩⟩
          case measure => simp [intOf]; omega
        · have D3 := Hb.mk (show (FB + Lg == FP) = false from beq_eq_false_iff_ne.2 hq)
          have KM := Hf.mk ((HSt.out HRoad.out (by rw [HEq.out, KFP.out]; exact hq)).trans Klt.out)
          refine wp_region_quiet_lit (by kernel_rfl) (by kernel_rfl) ?_
          repeat (first | go_big_quiet_step (fail) | rw [D3.out])
          refine wpQuiet_nil ?_
          intro _ hw'
          obtain ⟨nq, hw''⟩ := hw'
          subst hw''
          go_wp2
          go_roundw
          case rel => exact ⟨i + 1, by omega, i_ext2 (by omega), by rw [KM.out], ⟨(by repeat (first | with_reducible refine Below.setCell ?_ (by first | omega | (simp <;> omega)) _ | with_reducible refine Below.drews ?_ | with_reducible refine Below.drew ?_ | with_reducible refine Below.alloc ?_ (by first | omega | (simp <;> omega)) _ | with_reducible exact B5.out | with_reducible exact Below.refl _ _))⟩⟩
          case measure => simp [intOf]; omega
      · by_cases hB2 : (p : Int) = (B : Int)
        · have KO := Hf.mk (fun w => otherEnd_b (a := (A : Int)) (b := (B : Int)) (l := Lg) hA hB2 w)
          have HRoad : Hf ((W.A i = p ∧ W.B i = A) ∨ (W.A i ≠ p ∧ W.B i = p ∧ W.A i = A)) := ⟨.inr ⟨by rw [KAe.out]; omega, by rw [KBe.out]; omega, KAe.out⟩⟩
          have HEq : Hf (fF F A + W.lg i = FA + Lg) := ⟨by rw [← KAe.out, KFA.out, KLe.out]⟩
          clear hA hB2
          go_wp2_with (go_at_call 76; refine (KO.out _).mono ?_; rintro e w5 ⟨rfl, b5⟩; have B5 := Hb.mk (Below.on (B := w.heap.size) (a := w) (by repeat (first | exact hB.out | refine Below.drews ?_ | refine Below.drew ?_ | refine Below.alloc ?_ (by have hq_ := hB.out.size; first | omega | (simp <;> omega)) _ | refine Below.setCell ?_ (by have hq_ := hB.out.size; first | omega | (simp <;> omega)) _)) b5 (by have hq_ := hB.out.size; first | omega | (simp <;> omega))); have r6 : w5.cell? ⟨W1.heap.size, 2, none⟩ = some (.int .i64 Lg) := (At.keep b5 (p := ⟨W1.heap.size, 2, none⟩) (v := .int .i64 Lg) (by simp [go_sem]) (by simp [go_sem])).cell; have dQ := HcA.out (by repeat (first | with_reducible refine Below.setCell ?_ (by first | omega | (simp <;> omega)) _ | with_reducible refine Below.drews ?_ | with_reducible refine Below.drew ?_ | with_reducible refine Below.alloc ?_ (by first | omega | (simp <;> omega)) _ | with_reducible exact B5.out | with_reducible exact Below.refl _ _)); have dP := HcP.out (by repeat (first | with_reducible refine Below.setCell ?_ (by first | omega | (simp <;> omega)) _ | with_reducible refine Below.drews ?_ | with_reducible refine Below.drew ?_ | with_reducible refine Below.alloc ?_ (by first | omega | (simp <;> omega)) _ | with_reducible exact B5.out | with_reducible exact Below.refl _ _)); clear b5)
          by_cases hq : FA + Lg = FP
          · have D3 := Hb.mk (show (FA + Lg == FP) = true from beq_iff_eq.2 hq)
            have KM := Hf.mk ((HMn.out HRoad.out (by rw [HEq.out, KFP.out]; exact hq)).trans (by rw [Klt.out]))
            refine wp_region_quiet_lit (by kernel_rfl) (by kernel_rfl) ?_
            repeat (first | go_big_quiet_step (fail) | rw [D3.out])
            refine wpQuiet_nil ?_
            intro _ hw'
            obtain ⟨nq, hw''⟩ := hw'
            subst hw''
            go_wp2_with (refine wpList_imin2 rfl rfl rfl rfl ?_; simp only [Act.put, List.setIfInBounds_toArray, List.set_cons_succ, List.set_cons_zero])
            go_roundw
            case rel => exact ⟨i + 1, by omega, i_ext2 (by omega), i_ext2 (by rw [KM.out]; omega), ⟨(by repeat (first | with_reducible refine Below.setCell ?_ (by first | omega | (simp <;> omega)) _ | with_reducible refine Below.drews ?_ | with_reducible refine Below.drew ?_ | with_reducible refine Below.alloc ?_ (by first | omega | (simp <;> omega)) _ | with_reducible exact B5.out | with_reducible exact Below.refl _ _))⟩⟩
            case measure => simp [intOf]; omega
          · have D3 := Hb.mk (show (FA + Lg == FP) = false from beq_eq_false_iff_ne.2 hq)
            have KM := Hf.mk ((HSt.out HRoad.out (by rw [HEq.out, KFP.out]; exact hq)).trans Klt.out)
            refine wp_region_quiet_lit (by kernel_rfl) (by kernel_rfl) ?_
            repeat (first | go_big_quiet_step (fail) | rw [D3.out])
            refine wpQuiet_nil ?_
            intro _ hw'
            obtain ⟨nq, hw''⟩ := hw'
            subst hw''
            go_wp2
            go_roundw
            case rel => exact ⟨i + 1, by omega, i_ext2 (by omega), by rw [KM.out], ⟨(by repeat (first | with_reducible refine Below.setCell ?_ (by first | omega | (simp <;> omega)) _ | with_reducible refine Below.drews ?_ | with_reducible refine Below.drew ?_ | with_reducible refine Below.alloc ?_ (by first | omega | (simp <;> omega)) _ | with_reducible exact B5.out | with_reducible exact Below.refl _ _))⟩⟩
            case measure => simp [intOf]; omega
        · have KO := Hf.mk (fun w => otherEnd_no (a := (A : Int)) (b := (B : Int)) (l := Lg) hA hB2 w)
          have KM := Hf.mk ((HNo.out (by rw [KAe.out]; omega) (by rw [KBe.out]; omega)).trans Klt.out)
          clear hA hB2
          go_wp2_with (go_at_call 76; refine (KO.out _).mono ?_; rintro e w5 ⟨rfl, b5⟩; have B5 := Hb.mk (Below.on (B := w.heap.size) (a := w) (by repeat (first | exact hB.out | refine Below.drews ?_ | refine Below.drew ?_ | refine Below.alloc ?_ (by have hq_ := hB.out.size; first | omega | (simp <;> omega)) _ | refine Below.setCell ?_ (by have hq_ := hB.out.size; first | omega | (simp <;> omega)) _)) b5 (by have hq_ := hB.out.size; first | omega | (simp <;> omega))); have r6 : w5.cell? ⟨W1.heap.size, 2, none⟩ = some (.int .i64 Lg) := (At.keep b5 (p := ⟨W1.heap.size, 2, none⟩) (v := .int .i64 Lg) (by simp [go_sem]) (by simp [go_sem])).cell; clear b5)
          refine wp_region_quiet_lit (by kernel_rfl) (by kernel_rfl) ?_
          repeat (first | go_big_quiet_step (fail))
          refine wpQuiet_nil ?_
          intro _ hw'
          obtain ⟨nq, hw''⟩ := hw'
          subst hw''
          go_wp2
          go_roundw
          case rel => exact ⟨i + 1, by omega, i_ext2 (by omega), by rw [KM.out], ⟨(by repeat (first | with_reducible refine Below.setCell ?_ (by first | omega | (simp <;> omega)) _ | with_reducible refine Below.drews ?_ | with_reducible refine Below.drew ?_ | with_reducible refine Below.alloc ?_ (by first | omega | (simp <;> omega)) _ | with_reducible exact B5.out | with_reducible exact Below.refl _ _))⟩⟩
          case measure => simp [intOf]; omega
    · obtain rfl : i = W.m := by omega
      go_wp2
      go_ret
      exact ⟨rfl, (by repeat (first | exact hB.out | refine Below.drews ?_ | refine Below.drew ?_ | refine Below.alloc ?_ (by have hq_ := hB.out.size; first | omega | (simp <;> omega)) _ | refine Below.setCell ?_ (by have hq_ := hB.out.size; first | omega | (simp <;> omega)) _))⟩
end Go.Proofs.Yteclmjknmdlopaa
namespace Go.Proofs.Yteclmjknmdlopaa
open Go Go.RowKit
set_option maxRecDepth 100000

set_option maxHeartbeats 1000000 in
theorem iRp_no {g1 g2 n m : Nat} {ys : List Nat} {xs F : List Int} {i j : Int} {c : Bool} (w : World) (h : NR w g1 g2 n m ys xs) (hi : ∀ W, NR W g1 g2 n m ys xs → Calls Try.prog 12 #[nv g1 n g2 m, .int .i64 i] W (RLy 2 c (ils F) W)) (hb : (c && inB n j) = false) : Calls Try.prog 19 #[nv g1 n g2 m, .int .i64 i, .int .i64 j] w (RPy 2 false 0 (ils []) w) := by
  have HN := Hf.mk hi
  have HH := Hf.mk (fun w => has_any (n := n) (k := n) (m := m) (l := m) (a := some ⟨g1, 0, none⟩) (b := some ⟨g2, 0, none⟩) (i := j) w)
  have HR := Hf.mk h
  have B0 := Hb.mk (Below.refl w.heap.size w)
  clear h hi
  cases c
  · clear hb HH
    go_enter Try.func19, Try.ntmps19
    go_wp2_with (first | (go_at_call 12; refine (HN.out _ (HR.out.below (by repeat (first | exact Below.refl _ _ | with_reducible assumption | refine Below.drews ?_ | refine Below.drew ?_ | refine Below.alloc ?_ (by simp <;> omega) _ | refine Below.setCell ?_ (by simp <;> omega) _)))).mono ?_; rintro e w1 ⟨⟨v1, rfl, o1⟩, b1⟩; have B1 := Hb.mk (Below.on (B := w.heap.size) (a := w) (by repeat (first | exact B0.out | refine Below.drews ?_ | refine Below.drew ?_ | refine Below.alloc ?_ (by have hq_ := B0.out.size; first | omega | (simp <;> omega)) _ | refine Below.setCell ?_ (by have hq_ := B0.out.size; first | omega | (simp <;> omega)) _)) b1 (by have hq_ := B0.out.size; first | omega | (simp <;> omega))); clear b1 o1))
    go_ret3
    exact RPy.nil (by repeat (first | exact B1.out | refine Below.drews ?_ | refine Below.drew ?_ | refine Below.alloc ?_ (by have hq_ := B1.out.size; first | omega | (simp <;> omega)) _ | refine Below.setCell ?_ (by have hq_ := B1.out.size; first | omega | (simp <;> omega)) _))
  · have hc : inB n j = false := by simpa using hb
    rw [hc] at HH
    clear hb hc
    go_enter Try.func19, Try.ntmps19
    go_wp2_with (first | (go_at_call 12; refine (HN.out _ (HR.out.below (by repeat (first | exact Below.refl _ _ | with_reducible assumption | refine Below.drews ?_ | refine Below.drew ?_ | refine Below.alloc ?_ (by simp <;> omega) _ | refine Below.setCell ?_ (by simp <;> omega) _)))).mono ?_; rintro e w1 ⟨⟨v1, rfl, o1⟩, b1⟩; have B1 := Hb.mk (Below.on (B := w.heap.size) (a := w) (by repeat (first | exact B0.out | refine Below.drews ?_ | refine Below.drew ?_ | refine Below.alloc ?_ (by have hq_ := B0.out.size; first | omega | (simp <;> omega)) _ | refine Below.setCell ?_ (by have hq_ := B0.out.size; first | omega | (simp <;> omega)) _)) b1 (by have hq_ := B0.out.size; first | omega | (simp <;> omega))); have p0 := Hb.mk (At.keep b1 (p := ⟨(w.heap.size), 0, none⟩) (v := .slice (some ⟨g1, 0, none⟩) n n) (by simp [go_sem]) (by simp [go_sem])); obtain ⟨p0c, p0z, p0l⟩ := p0.out; have p1 := Hb.mk (At.keep b1 (p := ⟨(w.heap.size), 1, none⟩) (v := .slice (some ⟨g2, 0, none⟩) m m) (by simp [go_sem]) (by simp [go_sem])); obtain ⟨p1c, p1z, p1l⟩ := p1.out; clear b1 o1) | (go_at_call 44; refine (HH.out _).mono ?_; rintro e w2 ⟨rfl, b2⟩; have B2 := Hb.mk (Below.on (B := w.heap.size) (a := w) (by repeat (first | exact B1.out | refine Below.drews ?_ | refine Below.drew ?_ | refine Below.alloc ?_ (by have hq_ := B1.out.size; first | omega | (simp <;> omega)) _ | refine Below.setCell ?_ (by have hq_ := B1.out.size; first | omega | (simp <;> omega)) _)) b2 (by have hq_ := B1.out.size; first | omega | (simp <;> omega))); clear b2))
    go_ret3
    exact RPy.nil (by repeat (first | exact B2.out | refine Below.drews ?_ | refine Below.drew ?_ | refine Below.alloc ?_ (by have hq_ := B2.out.size; first | omega | (simp <;> omega)) _ | refine Below.setCell ?_ (by have hq_ := B2.out.size; first | omega | (simp <;> omega)) _))
set_option maxHeartbeats 1000000 in
theorem iRp_far {g1 g2 n m t : Nat} {ys : List Nat} {xs F : List Int} {i : Int} (w : World) (h : NR w g1 g2 n m ys xs) (hi : ∀ W, NR W g1 g2 n m ys xs → Calls Try.prog 12 #[nv g1 n g2 m, .int .i64 i] W (RLy 2 true (ils F) W)) (ht : t < n) (hF : F.length = n) (hf : fF F t < 0) : Calls Try.prog 19 #[nv g1 n g2 m, .int .i64 i, .int .i64 (t : Int)] w (RPy 2 false 0 (ils []) w) := by
  have HN := Hf.mk hi
  have HH := Hf.mk (fun w => has_any (n := n) (k := n) (m := m) (l := m) (a := some ⟨g1, 0, none⟩) (b := some ⟨g2, 0, none⟩) (i := (t : Int)) w)
  rw [show inB n (t : Int) = true by unfold inB; exact decide_eq_true ⟨by omega, by omega⟩] at HH
  have HR := Hf.mk h
  have HFl := Hf.mk hF
  have B0 := Hb.mk (Below.refl w.heap.size w)
  clear h hi hF
  go_enter Try.func19, Try.ntmps19
  go_wp2_with (first | (go_at_call 12; refine (HN.out _ (HR.out.below (by repeat (first | exact Below.refl _ _ | with_reducible assumption | refine Below.drews ?_ | refine Below.drew ?_ | refine Below.alloc ?_ (by simp <;> omega) _ | refine Below.setCell ?_ (by simp <;> omega) _)))).mono ?_; rintro e w1 ⟨⟨v1, rfl, o1⟩, b1⟩; have B1 := Hb.mk (Below.on (B := w.heap.size) (a := w) (by repeat (first | exact B0.out | refine Below.drews ?_ | refine Below.drew ?_ | refine Below.alloc ?_ (by have hq_ := B0.out.size; first | omega | (simp <;> omega)) _ | refine Below.setCell ?_ (by have hq_ := B0.out.size; first | omega | (simp <;> omega)) _)) b1 (by have hq_ := B0.out.size; first | omega | (simp <;> omega))); rw [ils_len1, HFl.out] at o1; obtain ⟨ga, ca, rfl, _, hga⟩ := rt_shf o1 (by omega); have R1 := Hf.mk (irow_own (k := 1) (by rw [HFl.out]; omega) o1); have p0 := Hb.mk (At.keep b1 (p := ⟨(w.heap.size), 0, none⟩) (v := .slice (some ⟨g1, 0, none⟩) n n) (by simp [go_sem]) (by simp [go_sem])); obtain ⟨p0c, p0z, p0l⟩ := p0.out; have p1 := Hb.mk (At.keep b1 (p := ⟨(w.heap.size), 1, none⟩) (v := .slice (some ⟨g2, 0, none⟩) m m) (by simp [go_sem]) (by simp [go_sem])); obtain ⟨p1c, p1z, p1l⟩ := p1.out; clear b1 o1) | (go_at_call 44; refine (HH.out _).mono ?_; rintro e w2 ⟨rfl, b2⟩; have B2 := Hb.mk (Below.on (B := w.heap.size) (a := w) (by repeat (first | exact B1.out | refine Below.drews ?_ | refine Below.drew ?_ | refine Below.alloc ?_ (by have hq_ := B1.out.size; first | omega | (simp <;> omega)) _ | refine Below.setCell ?_ (by have hq_ := B1.out.size; first | omega | (simp <;> omega)) _)) b2 (by have hq_ := B1.out.size; first | omega | (simp <;> omega))); have hct : w2.cell? ⟨ga, t, none⟩ = some (.int .i64 (fF F t)) := (R1.out.below b2).oneAt (by rw [HFl.out]; exact ht); clear b2))
  go_ret3
  exact RPy.nil (by repeat (first | exact B2.out | refine Below.drews ?_ | refine Below.drew ?_ | refine Below.alloc ?_ (by have hq_ := B2.out.size; first | omega | (simp <;> omega)) _ | refine Below.setCell ?_ (by have hq_ := B2.out.size; first | omega | (simp <;> omega)) _))
set_option maxHeartbeats 4000000 in
theorem iRp_yes {W : Web} {g1 g2 s t K : Nat} {ys : List Nat} {xs F : List Int} (w : World) (h : NR w g1 g2 W.n W.m ys xs) (hi : ∀ V, NR V g1 g2 W.n W.m ys xs → Calls Try.prog 12 #[nv g1 W.n g2 W.m, .int .i64 (s : Int)] V (RLy 2 true (ils F) V)) (ho : W.ok) (hat : W.At xs) (hlg : ∀ i, i < W.m → W.lg i = raL xs i) (hm : W.m ≤ 64) (ht : t < W.n) (hF : F.length = W.n) (hL : W.Longs s (fF F)) (hK : K ≤ 64) (hP : Pth W (fF F) s t K) : Calls Try.prog 19 #[nv g1 W.n g2 W.m, .int .i64 (s : Int), .int .i64 (t : Int)] w (RPy 2 true (fF F t) (ils (rte W (fF F) t K)) w) := by
  obtain ⟨i0, hi0, hz0, hz1, hz2⟩ := info_parts (P := Try.prog) (e := 2) (z := .int .i64 0) (size := 1) (bytes := 8) (by kernel_rfl)
  have HN := Hf.mk hi
  have HH := Hf.mk (fun w => has_any (n := W.n) (k := W.n) (m := W.m) (l := W.m) (a := some ⟨g1, 0, none⟩) (b := some ⟨g2, 0, none⟩) (i := (t : Int)) w)
  rw [show inB W.n (t : Int) = true by unfold inB; exact decide_eq_true ⟨by omega, by omega⟩] at HH
  have HPB := Hf.mk (fun (gl cl p : Nat) (V : World) hq hr hp => placeBefore_any (W := W) (g1 := g1) (g2 := g2) (gl := gl) (cl := cl) (p := p) (s := s) (xs := xs) (F := F) V hq hr ho hat hlg hm hF hL hp)
  have HR := Hf.mk h
  have HFl := Hf.mk hF
  have HP := Hf.mk hP
  have hf0 : ¬ fF F t < 0 := by have := hP.ge 0 (Nat.zero_le _); show ¬ fF F (W.pl (fF F) t 0) < 0; omega
  have hn1 : 0 < W.n := by omega
  have HStep := Hf.mk (fun {p : Nat} hp hne h0 => hL.step ho (p := p) hp hne h0)
  have B0 := Hb.mk (Below.refl w.heap.size w)
  clear h hi ho hat hlg hF hL hP
  go_enter Try.func19, Try.ntmps19
  go_wp2_with (first | (go_at_call 12; refine (HN.out _ (HR.out.below (by repeat (first | exact Below.refl _ _ | with_reducible assumption | refine Below.drews ?_ | refine Below.drew ?_ | refine Below.alloc ?_ (by simp <;> omega) _ | refine Below.setCell ?_ (by simp <;> omega) _)))).mono ?_; rintro e w1 ⟨⟨v1, rfl, o1⟩, b1⟩; have B1 := Hb.mk (Below.on (B := w.heap.size) (a := w) (by repeat (first | exact B0.out | refine Below.drews ?_ | refine Below.drew ?_ | refine Below.alloc ?_ (by have hq_ := B0.out.size; first | omega | (simp <;> omega)) _ | refine Below.setCell ?_ (by have hq_ := B0.out.size; first | omega | (simp <;> omega)) _)) b1 (by have hq_ := B0.out.size; first | omega | (simp <;> omega))); rw [ils_len1, HFl.out] at o1; obtain ⟨ga, ca, rfl, _, hga⟩ := rt_shf o1 hn1; have R1 := Hf.mk (irow_own (k := 1) (by rw [HFl.out]; omega) o1); have p0 := Hb.mk (At.keep b1 (p := ⟨(w.heap.size), 0, none⟩) (v := .slice (some ⟨g1, 0, none⟩) W.n W.n) (by simp [go_sem]) (by simp [go_sem])); obtain ⟨p0c, p0z, p0l⟩ := p0.out; have p1 := Hb.mk (At.keep b1 (p := ⟨(w.heap.size), 1, none⟩) (v := .slice (some ⟨g2, 0, none⟩) W.m W.m) (by simp [go_sem]) (by simp [go_sem])); obtain ⟨p1c, p1z, p1l⟩ := p1.out; clear b1 o1) | (go_at_call 44; refine (HH.out _).mono ?_; rintro e w2 ⟨rfl, b2⟩; have B2 := Hb.mk (Below.on (B := w.heap.size) (a := w) (by repeat (first | exact B1.out | refine Below.drews ?_ | refine Below.drew ?_ | refine Below.alloc ?_ (by have hq_ := B1.out.size; first | omega | (simp <;> omega)) _ | refine Below.setCell ?_ (by have hq_ := B1.out.size; first | omega | (simp <;> omega)) _)) b2 (by have hq_ := B1.out.size; first | omega | (simp <;> omega))); have p0 := Hb.mk (At.re p0.out b2 (by first | exact p0c | simp [go_sem, p0c, p0l]) (by first | exact p0z | simp [go_sem, p0z, p0l])); obtain ⟨p0c, p0z, p0l⟩ := p0.out; have p1 := Hb.mk (At.re p1.out b2 (by first | exact p1c | simp [go_sem, p1c, p1l]) (by first | exact p1z | simp [go_sem, p1z, p1l])); obtain ⟨p1c, p1z, p1l⟩ := p1.out; have R2 := Hf.mk (R1.out.below b2); have hct : w2.cell? ⟨ga, t, none⟩ = some (.int .i64 (fF F t)) := R2.out.oneAt (by rw [HFl.out]; exact ht); have hga2 : ga < w2.heap.size := Nat.lt_of_lt_of_le hga b2.size; clear b2))
  go_loopw [11, 12] (fun v a wr => ∃ (j : Nat), j ≤ K ∧ a = .int .i64 (bk W (fF F) t j) ∧ Hf (wr.ownsRow w2.heap.size 2 1 v (j + 1) (il (j + 1) (bk W (fF F) t))) ∧ Hb (Below w2.heap.size w2 wr)) (fun _ a _ => (fF F (intOf a).toNat).toNat)
  case atStart => exact ⟨0, Nat.zero_le _, rfl, ⟨World.ownsRow_lit w2 #[.int .i64 (t : Int)] 1 (Nat.le_refl _) (by decide) (by simp)⟩, ⟨(by repeat (first | exact Below.refl _ _ | with_reducible assumption | refine Below.drews ?_ | refine Below.drew ?_ | refine Below.alloc ?_ (by simp <;> omega) _ | refine Below.setCell ?_ (by simp <;> omega) _))⟩⟩
  case round =>
    obtain ⟨j, hj, rfl, hown, hbel⟩ := hrel
    obtain ⟨W1, hW1⟩ : ∃ W1, W1 = wr := ⟨_, rfl⟩
    subst hW1
    have hsz := hbel.out.size
    obtain ⟨p, hpe⟩ : ∃ p, p = W.pl (fF F) t j := ⟨_, rfl⟩
    have hp := HP.out.lt j hj
    have hfp := HP.out.ge j hj
    have hbk : bk W (fF F) t j = (p : Int) := by unfold bk; rw [hpe]
    rw [hbk]
    by_cases hjK : j < K
    · have hne := HP.out.ne j hjK
      have hnx : W.pl (fF F) t (j + 1) = W.least (fF F) (W.pl (fF F) t j) W.m := rfl
      rw [← hpe] at hp hfp hne hnx
      have hst := HStep.out hp hne hfp
      have HNX := Hf.mk (show ((W.least (fF F) p W.m : Nat) : Int) = bk W (fF F) t (j + 1) by unfold bk; rw [hnx])
      have HST := Hf.mk (show fF F (bk W (fF F) t (j + 1)).toNat < fF F p ∧ 0 ≤ fF F (bk W (fF F) t (j + 1)).toNat by unfold bk; rw [Int.toNat_natCast, hnx]; exact ⟨hst.2.2, hst.2.1⟩)
      have hne2 : ((p : Int) != (s : Int)) = true := by rw [bne_iff_ne]; omega
      have x0 := Below.keep hbel.out p0c
      have x1 := Below.keep hbel.out p1c
      have KB := Hf.mk (fun (V : World) hq hr => HPB.out ga ca p V hq hr hp)
      rw [HNX.out] at KB
      obtain ⟨X, hX⟩ : ∃ X, X = bk W (fF F) t (j + 1) := ⟨_, rfl⟩
      rw [← hX] at KB
      have HX := Hf.mk hX
      clear hpe hne hst hnx hbk hX
      go_wp2_with (first | (go_at_call 46; refine (KB.out _ ((HR.out.q.below B2.out).below hbel.out) (R2.out.below hbel.out)).mono ?_; rintro e w5 ⟨rfl, b5⟩; have S5 := b5.size; have O5 := Hf.mk (rown_below hown.out b5); have HB5 := Hb.mk (Below.on (B := w2.heap.size) (a := w2) hbel.out b5 hsz); clear b5) | (at_builtin; refine wpList_append_own _ rfl _ _ 27 rfl w2.heap.size 2 i0 (.int .i64 0) 1 8 Try.underlying27 hi0 hz0 hz1 hz2 rfl (by decide) _ (j + 1) (il (j + 1) (bk W (fF F) t)) rfl (rown_below O5.out ((Below.refl _ _).alloc (Nat.le_refl _) _)) ⟨w5.heap.size, 0, none⟩ 1 1 [.int .i64 X] rfl rfl (rt_one _ _ _) rt_int (by unfold maxLen; omega) (by omega) (by first | omega | (simp <;> omega)) ?_; intro v' w3 o3 hgrow3 _; have B3 := Hb.mk (Below.grown (Below.alloc HB5.out (by first | omega | (simp <;> omega)) _) hgrow3 (by first | omega | (simp <;> omega)) (fun k h => rt_ge O5.out h)); have O3 := Hf.mk o3; clear o3 hgrow3))
      go_roundw
      case rel => exact ⟨j + 1, by omega, by rw [HX.out], ⟨by have := O3.out; rw [HX.out, il_more] at this; exact this⟩, B3⟩
      case measure => have := HST.out; rw [← HX.out] at this; simp only [intOf, Int.toNat_natCast]; omega
    · obtain rfl : j = K := by omega
      have hps : p = s := by rw [hpe]; exact HP.out.last
      subst hps
      have hne2 : ((p : Int) != (p : Int)) = false := by simp
      obtain ⟨gb, cb, rfl, hb1, hb2⟩ := rt_shf hown.out (by omega)
      have HV := Hf.mk (fun V hO => reverse_any (base := w2.heap.size) (g := gb) (cap := cb) (n := j + 1) (f := bk W (fF F) t) V hO (by omega))
      have HOB := Hf.mk (show ORow W1 w2.heap.size 2 gb cb (j + 1) (bk W (fF F) t) from hown.out)
      have HBW := Hb.mk (Below.on (B := w.heap.size) (a := w) B2.out hbel.out B2.out.size)
      have hct1 : W1.cell? ⟨ga, t, none⟩ = some (.int .i64 (fF F t)) := Below.keep hbel.out hct
      clear hpe
      go_wp2_with (go_at_call 47; refine (HV.out _ HOB.out).mono ?_; rintro e w3 ⟨rfl, o3, g3⟩; have O3 := Hf.mk o3; have hct3 : w3.cell? ⟨ga, t, none⟩ = some (.int .i64 (fF F t)) := (World.cell?_of_block (g3.block _ (block_lt_of_cell hct1) (fun e => by have := Option.some.inj e; simp only at this; omega))).trans hct1; have B3 := Hb.mk (below_gb HBW.out g3 HBW.out.size (Nat.le_trans B2.out.size hb1)); clear o3 g3)
      go_region
      go_wp2
      go_ret3
      refine ⟨⟨_, rfl, ?_⟩, (by repeat (first | exact B3.out | refine Below.drews ?_ | refine Below.drew ?_ | refine Below.alloc ?_ (by have hq_ := B3.out.size; first | omega | (simp <;> omega)) _ | refine Below.setCell ?_ (by have hq_ := B3.out.size; first | omega | (simp <;> omega)) _))⟩
      have e : il (j + 1) (fun l => bk W (fF F) t (j + 1 - 1 - l)) = ils (rte W (fF F) t j) := by rw [rte_il]; exact il_congr (fun l _ => by rw [Nat.add_sub_cancel])
      have h3 := O3.out
      unfold ORow at h3
      rw [e] at h3
      rw [ils_len1, rte_len]
      exact rown_lower (rown_below h3 (by repeat (first | exact Below.refl _ _ | with_reducible assumption | refine Below.drews ?_ | refine Below.drew ?_ | refine Below.alloc ?_ (by simp <;> omega) _ | refine Below.setCell ?_ (by simp <;> omega) _))) B2.out.size
end Go.Proofs.Yteclmjknmdlopaa
