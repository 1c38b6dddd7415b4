/-
The heap of stops of the program: two numbers each, in a row; which is before, swapped, put, taken. No premise beyond those named.
-/
import Derived.Test.YteclmjknmdlopaaRtS
import Derived.Test.YteclmjknmdlopaaHpn
import Derived.Deep.RegionHeld3
import Derived.Deep.RegionLaw
import Derived.Deep.AppendLies
namespace Go.Proofs.Yteclmjknmdlopaa
open Go Go.RowKit
set_option maxRecDepth 100000

abbrev st2 (a b : Int) : Value := .agg #[.int .i64 a, .int .i64 b]
def bef (x y : Int × Int) : Prop := x.1 < y.1 ∨ (x.1 = y.1 ∧ x.2 < y.2)
instance (x y : Int × Int) : Decidable (bef x y) := by unfold bef; infer_instance
theorem bef_ordr : Ordr bef := by
  constructor <;> intros <;> unfold bef at * <;> omega
theorem isBefore_any {a b c d : Int} (w : World) : Calls Try.prog 143 #[st2 a b, st2 c d] w (RS (.bool (decide (bef (a, b) (c, d)))) w) := by
  have B0 := Hb.mk (Below.refl w.heap.size w)
  by_cases h1 : a < c
  · rw [decide_eq_true (show bef (a, b) (c, d) from .inl h1)]
    go_enter Try.func143, Try.ntmps143
    go_wp2
    go_ret
    exact ⟨rfl, (by repeat (first | exact B0.out | refine Below.drews ?_ | refine Below.drew ?_ | refine Below.alloc ?_ (by have hq_ := B0.out.size; first | omega | (simp <;> omega)) _ | refine Below.setCell ?_ (by have hq_ := B0.out.size; first | omega | (simp <;> omega)) _))⟩
  · by_cases h2 : a = c
    · by_cases h3 : b < d
      · rw [decide_eq_true (show bef (a, b) (c, d) from .inr ⟨h2, h3⟩)]
        subst h2
        go_enter Try.func143, Try.ntmps143
        go_wp2
        go_ret
        exact ⟨rfl, (by repeat (first | exact B0.out | refine Below.drews ?_ | refine Below.drew ?_ | refine Below.alloc ?_ (by have hq_ := B0.out.size; first | omega | (simp <;> omega)) _ | refine Below.setCell ?_ (by have hq_ := B0.out.size; first | omega | (simp <;> omega)) _))⟩
      · rw [decide_eq_false (show ¬ bef (a, b) (c, d) by unfold bef; simp only; omega)]
        subst h2
        go_enter Try.func143, Try.ntmps143
        go_wp2
        go_ret
        exact ⟨rfl, (by repeat (first | exact B0.out | refine Below.drews ?_ | refine Below.drew ?_ | refine Below.alloc ?_ (by have hq_ := B0.out.size; first | omega | (simp <;> omega)) _ | refine Below.setCell ?_ (by have hq_ := B0.out.size; first | omega | (simp <;> omega)) _))⟩
    · rw [decide_eq_false (show ¬ bef (a, b) (c, d) by unfold bef; simp only; omega)]
      have e : (a == c) = false := by rw [beq_eq_false_iff_ne]; exact h2
      go_enter Try.func143, Try.ntmps143
      go_wp2
      go_ret
      exact ⟨rfl, (by repeat (first | exact B0.out | refine Below.drews ?_ | refine Below.drew ?_ | refine Below.alloc ?_ (by have hq_ := B0.out.size; first | omega | (simp <;> omega)) _ | refine Below.setCell ?_ (by have hq_ := B0.out.size; first | omega | (simp <;> omega)) _))⟩
abbrev oeT (q : Int) (ok : Bool) : Value := .tuple #[.int .i64 q, .bool ok]
theorem otherEnd_a {a b l p : Int} (h : p = a) (w : World) : Calls Try.prog 76 #[rd a b l, .int .i64 p] w (RS (oeT b true) w) := by
  subst h
  have B0 := Hb.mk (Below.refl w.heap.size w)
  go_enter Try.func76, Try.ntmps76
  go_wp2
  go_ret2
  exact ⟨rfl, (by repeat (first | exact B0.out | refine Below.drews ?_ | refine Below.drew ?_ | refine Below.alloc ?_ (by have hq_ := B0.out.size; first | omega | (simp <;> omega)) _ | refine Below.setCell ?_ (by have hq_ := B0.out.size; first | omega | (simp <;> omega)) _))⟩
theorem otherEnd_b {a b l p : Int} (h : p ≠ a) (h2 : p = b) (w : World) : Calls Try.prog 76 #[rd a b l, .int .i64 p] w (RS (oeT a true) w) := by
  subst h2
  have B0 := Hb.mk (Below.refl w.heap.size w)
  go_enter Try.func76, Try.ntmps76
  go_wp2
  go_ret2
  exact ⟨rfl, (by repeat (first | exact B0.out | refine Below.drews ?_ | refine Below.drew ?_ | refine Below.alloc ?_ (by have hq_ := B0.out.size; first | omega | (simp <;> omega)) _ | refine Below.setCell ?_ (by have hq_ := B0.out.size; first | omega | (simp <;> omega)) _))⟩
theorem otherEnd_no {a b l p : Int} (h : p ≠ a) (h2 : p ≠ b) (w : World) : Calls Try.prog 76 #[rd a b l, .int .i64 p] w (RS (oeT 0 false) w) := by
  have B0 := Hb.mk (Below.refl w.heap.size w)
  go_enter Try.func76, Try.ntmps76
  go_wp2
  go_ret2
  exact ⟨rfl, (by repeat (first | exact B0.out | refine Below.drews ?_ | refine Below.drew ?_ | refine Below.alloc ?_ (by have hq_ := B0.out.size; first | omega | (simp <;> omega)) _ | refine Below.setCell ?_ (by have hq_ := B0.out.size; first | omega | (simp <;> omega)) _))⟩
/-- A row of stops. -/
def c2 (G : Nat → Int × Int) (j : Nat) : Int := if j % 2 = 0 then (G (j / 2)).1 else (G (j / 2)).2
theorem c2_0 (G : Nat → Int × Int) (i : Nat) : c2 G (i * 2) = (G i).1 := by unfold c2; rw [if_pos (by omega), show i * 2 / 2 = i by omega]
theorem c2_1 (G : Nat → Int × Int) (i : Nat) : c2 G (i * 2 + 1) = (G i).2 := by unfold c2; rw [if_neg (by omega), show (i * 2 + 1) / 2 = i by omega]
def SRow (w : World) (base : Nat) (T : TypeId) (g cap n : Nat) (G : Nat → Int × Int) : Prop := w.ownsRow base T 2 (.slice (some ⟨g, 0, none⟩) n cap) n (il (n * 2) (c2 G))
theorem SRow.cell0 {w : World} {base : Nat} {T : TypeId} {g cap n : Nat} {G : Nat → Int × Int} (h : SRow w base T g cap n G) {i : Nat} (hi : i < n) : w.cell? ⟨g, i * 2, none⟩ = some (.int .i64 (G i).1) := by
  have := World.ownsRow.cellAt h (i * 2) (by omega)
  rw [this, il_at (by omega), c2_0]
theorem SRow.cell1 {w : World} {base : Nat} {T : TypeId} {g cap n : Nat} {G : Nat → Int × Int} (h : SRow w base T g cap n G) {i : Nat} (hi : i < n) : w.cell? ⟨g, i * 2 + 1, none⟩ = some (.int .i64 (G i).2) := by
  have := World.ownsRow.cellAt h (i * 2 + 1) (by omega)
  rw [this, il_at (by omega), c2_1]
theorem SRow.free {w : World} {base : Nat} {T : TypeId} {g cap n : Nat} {G : Nat → Int × Int} (h : SRow w base T g cap n G) (j : Nat) : w.frozen? ⟨g, j, none⟩ = false := World.ownsRow.frozenAt h j
theorem SRow.drews {w : World} {base : Nat} {T : TypeId} {g cap n : Nat} {G : Nat → Int × Int} (h : SRow w base T g cap n G) (q : Nat) : SRow (w.drewN q) base T g cap n G := h
theorem SRow.set {w : World} {base : Nat} {T : TypeId} {g cap n : Nat} {G : Nat → Int × Int} (h : SRow w base T g cap n G) {i : Nat} (hi : i < n) (x : Int × Int) : SRow ((w.setCell ⟨g, i * 2, none⟩ (.int .i64 x.1)).setCell ⟨g, i * 2 + 1, none⟩ (.int .i64 x.2)) base T g cap n (fun j => if j = i then x else G j) := by
  have h1 := (World.ownsRow.stored h (i * 2) (.int .i64 x.1)).1
  have h2 := (h1.stored (i * 2 + 1) (.int .i64 x.2)).1
  rw [il_set (by omega), il_set (by omega)] at h2
  have e : il (n * 2) (upd (upd (c2 G) (i * 2) x.1) (i * 2 + 1) x.2) = il (n * 2) (c2 (fun j => if j = i then x else G j)) := il_congr fun j _ => by
    by_cases h1 : j = i * 2 + 1
    · subst h1; rw [upd_at, c2_1, if_pos rfl]
    · rw [upd_ne h1]
      by_cases h0 : j = i * 2
      · subst h0; rw [upd_at, c2_0, if_pos rfl]
      · rw [upd_ne h0]
        unfold c2
        have : j / 2 ≠ i := by omega
        simp only [if_neg this]
  rw [e] at h2
  exact h2
theorem meth_stop (n : Nat) (v : Value) (w : World) : Sem.run Try.prog (method (n + 1) 120 v "loop.example/g01341/impl.isBefore") w = .ok (143, v) w := by rfl
set_option maxHeartbeats 2000000 in
theorem swapIf_no {hb g cap n i k base : Nat} {G : Nat → Int × Int} (w : World) (hs : SRow w base 120 g cap n G) (h0 : w.cell? ⟨hb, 0, none⟩ = some (.slice (some ⟨g, 0, none⟩) n cap)) (hi : i < n) (hk : k < n) (hn : n ≤ 100000) (hb2 : ¬ bef (G k) (G i)) : Calls Try.prog 91 #[.pointer (some ⟨hb, 0, none⟩), .int .i64 (i : Int), .int .i64 (k : Int)] w (RS (.bool false) w) := by
  have i0 := hs.cell0 hi
  have i1 := hs.cell1 hi
  have k0 := hs.cell0 hk
  have k1 := hs.cell1 hk
  have KB := Hf.mk (fun w => isBefore_any (a := (G k).1) (b := (G k).2) (c := (G i).1) (d := (G i).2) w)
  have e : decide (bef ((G k).1, (G k).2) ((G i).1, (G i).2)) = false := decide_eq_false hb2
  rw [e] at KB
  clear hb2 e
  generalize (G k).1 = ka at *
  generalize (G k).2 = kc at *
  generalize (G i).1 = ia at *
  generalize (G i).2 = ic at *
  have B0 := Hb.mk (Below.refl w.heap.size w)
  go_enter Try.func91, Try.ntmps91
  go_wp2
  refine region_all (by kernel_rfl) (by kernel_rfl) (fun I F hne HB hcl => ?_)
  have f0 := keepF HB (p := ⟨hb, 0, none⟩) h0
  have f1 := keepF HB (p := ⟨g, i * 2, none⟩) i0
  have f2 := keepF HB (p := ⟨g, i * 2 + 1, none⟩) i1
  have f3 := keepF HB (p := ⟨g, k * 2, none⟩) k0
  have f4 := keepF HB (p := ⟨g, k * 2 + 1, none⟩) k1
  repeat (quiet_step ((simp only [meth_stop]; go_simp; exact callS hcl (KB.out _))))
  refine wpQuiet_nil ?_
  intro _ hw'
  obtain ⟨iq, rfl⟩ := hw'
  clear hcl
  have E1 := Hb.mk (HB.out iq)
  go_wp2
  go_ret
  exact ⟨rfl, E1.out⟩
set_option maxHeartbeats 4000000 in
theorem swapIf_yes {hb g cap n i k base : Nat} {G : Nat → Int × Int} (w : World) (hs : SRow w base 120 g cap n G) (h0 : w.cell? ⟨hb, 0, none⟩ = some (.slice (some ⟨g, 0, none⟩) n cap)) (hi : i < n) (hk : k < n) (hik : i ≠ k) (hn : n ≤ 100000) (hb2 : bef (G k) (G i)) : Calls Try.prog 91 #[.pointer (some ⟨hb, 0, none⟩), .int .i64 (i : Int), .int .i64 (k : Int)] w (fun e w' => e = .returned (.bool true) ∧ ∃ w1, Below w.heap.size w w1 ∧ ∃ q, w' = ((((w1.setCell ⟨g, i * 2, none⟩ (.int .i64 (G k).1)).setCell ⟨g, i * 2 + 1, none⟩ (.int .i64 (G k).2)).setCell ⟨g, k * 2, none⟩ (.int .i64 (G i).1)).setCell ⟨g, k * 2 + 1, none⟩ (.int .i64 (G i).2)).drewN q) := by
  have i0 := hs.cell0 hi
  have i1 := hs.cell1 hi
  have k0 := hs.cell0 hk
  have k1 := hs.cell1 hk
  have zi0 := hs.free (i * 2)
  have zi1 := hs.free (i * 2 + 1)
  have zk0 := hs.free (k * 2)
  have zk1 := hs.free (k * 2 + 1)
  have KB := Hf.mk (fun w => isBefore_any (a := (G k).1) (b := (G k).2) (c := (G i).1) (d := (G i).2) w)
  have e : decide (bef ((G k).1, (G k).2) ((G i).1, (G i).2)) = true := decide_eq_true hb2
  rw [e] at KB
  clear hb2 e
  generalize (G k).1 = ka at *
  generalize (G k).2 = kc at *
  generalize (G i).1 = ia at *
  generalize (G i).2 = ic at *
  have B0 := Hb.mk (Below.refl w.heap.size w)
  go_enter Try.func91, Try.ntmps91
  go_wp2
  refine region_all (by kernel_rfl) (by kernel_rfl) (fun I F hne HB hcl => ?_)
  have f0 := keepF HB (p := ⟨hb, 0, none⟩) h0
  have f1 := keepF HB (p := ⟨g, i * 2, none⟩) i0
  have f2 := keepF HB (p := ⟨g, i * 2 + 1, none⟩) i1
  have f3 := keepF HB (p := ⟨g, k * 2, none⟩) k0
  have f4 := keepF HB (p := ⟨g, k * 2 + 1, none⟩) k1
  repeat (quiet_step ((simp only [meth_stop]; go_simp; exact callS hcl (KB.out _))))
  refine wpQuiet_nil ?_
  intro _ hw'
  obtain ⟨iq, rfl⟩ := hw'
  clear hcl
  have E1 := Hb.mk (HB.out iq)
  have z1 : (F iq).frozen? ⟨g, i * 2, none⟩ = false := (At.keep E1.out i0 zi0).free
  have z2 : (F iq).frozen? ⟨g, i * 2 + 1, none⟩ = false := (At.keep E1.out i1 zi1).free
  have z3 : (F iq).frozen? ⟨g, k * 2, none⟩ = false := (At.keep E1.out k0 zk0).free
  have z4 : (F iq).frozen? ⟨g, k * 2 + 1, none⟩ = false := (At.keep E1.out k1 zk1).free
  have g0 := f0 iq
  have g1 := f1 iq
  have g2 := f2 iq
  have g3 := f3 iq
  have g4 := f4 iq
  clear f0 f1 f2 f3 f4
  clear HB
  generalize F iq = W1 at E1 z1 z2 z3 z4 g0 g1 g2 g3 g4 ⊢
  go_wp2
  go_region
  go_wp2
  go_ret
  first | exact ⟨rfl, W1, E1.out, 0, rfl⟩ | exact ⟨rfl, W1, E1.out, 1, rfl⟩ | (trace_state; fail)
theorem At.ot0 {w : World} {b o b2 o2 : Nat} {v : Value} (h : At w ⟨b, o, none⟩ v) (hne : b ≠ b2 ∨ o ≠ o2) (u : Value) : At (w.setCell ⟨b2, o2, none⟩ u) ⟨b, o, none⟩ v := by
  refine ⟨?_, ?_, ?_⟩
  · rw [World.cell?_setCell_other _ _ _ _ (by intro e; injection e; omega)]; exact h.cell
  · rw [World.frozen?_setCell]; exact h.free
  · simpa using h.lt
theorem At.st0 {w : World} {p : Addr} {v : Value} (h : At w p v) (u : Value) : At (w.setCell p u) p u := by
  refine ⟨World.cell?_setCell_same _ _ _ h.cell, ?_, ?_⟩
  · rw [World.frozen?_setCell]; exact h.free
  · simpa using h.lt
theorem At.drws0 {w : World} {p : Addr} {v : Value} (h : At w p v) (q : Nat) : At (w.drewN q) p v := ⟨h.cell, h.free, h.lt⟩
theorem rt_two (w : World) (a b : Value) (t : TypeId) : ∀ j u, [a, b][j]? = some u → (w.alloc (.cells #[a, b] t)).cell? ((⟨w.heap.size, 0, none⟩ : Addr).add j) = some u := by
  intro j u hj
  match j, hj with
  | 0, hj => simp at hj; subst hj; simp [Addr.add]
  | 1, hj => simp at hj; subst hj; simp [Addr.add]
  | j + 2, hj => simp at hj
theorem rt_ints {a b : Int} : ∀ u ∈ [Value.int .i64 a, .int .i64 b], u.oneCell' = true := by
  intro u hu
  simp at hu
  rcases hu with h | h <;> subst h <;> rfl
theorem il_stop {n : Nat} {G : Nat → Int × Int} {x : Int × Int} : il (n * 2) (c2 G) ++ [.int .i64 x.1, .int .i64 x.2] = il ((n + 1) * 2) (c2 (fun j => if j = n then x else G j)) := by
  have e : il (n * 2) (c2 G) = il (n * 2) (c2 (fun j => if j = n then x else G j)) := il_congr fun j hj => by
    unfold c2
    have : j / 2 ≠ n := by omega
    simp only [if_neg this]
  have e0 : (Value.int .i64 x.1) = .int .i64 (c2 (fun j => if j = n then x else G j) (n * 2)) := by rw [c2_0, if_pos rfl]
  have e1 : (Value.int .i64 x.2) = .int .i64 (c2 (fun j => if j = n then x else G j) (n * 2 + 1)) := by rw [c2_1, if_pos rfl]
  rw [e, e0, e1, show (n + 1) * 2 = n * 2 + 1 + 1 by omega, ← il_more, ← il_more, List.append_assoc]
  rfl
/-- 'what lies in neither of these blocks is kept' -/
structure Kp2 (a : Nat) (b : Option Nat) (w w' : World) : Prop where
  os : w'.os = w.os
  tape : w'.tape = w.tape
  output : w'.output = w.output
  size : w.heap.size ≤ w'.heap.size
  block : ∀ k, k < w.heap.size → k ≠ a → some k ≠ b → w'.heap[k]? = w.heap[k]?
theorem Kp2.grown {a : Nat} {b : Option Nat} {w W1 w1 : World} (h : Below w.heap.size w W1) (hg : W1.grownBy w1 b) : Kp2 a b w w1 :=
  ⟨hg.os.trans h.os, hg.tape.trans h.tape, hg.output.trans h.output, Nat.le_trans h.size hg.size, fun k hk _ h2 => (hg.block k (Nat.lt_of_lt_of_le hk h.size) h2).trans (h.block k hk)⟩
theorem Kp2.set {a : Nat} {b : Option Nat} {w w1 : World} (h : Kp2 a b w w1) {g o : Nat} (v : Value) (hg : g = a ∨ b = some g ∨ w.heap.size ≤ g) : Kp2 a b w (w1.setCell ⟨g, o, none⟩ v) :=
  ⟨h.os, h.tape, h.output, by simpa using h.size, fun k hk h1 h2 => (Below.heap_setCell w1 ⟨g, o, none⟩ v k (fun e => by
    dsimp only at e
    rcases hg with h3 | h3 | h3
    · omega
    · exact h2 (by rw [h3, e])
    · omega)).trans (h.block k hk h1 h2)⟩
theorem Kp2.drews {a : Nat} {b : Option Nat} {w w1 : World} (h : Kp2 a b w w1) (q : Nat) : Kp2 a b w (w1.drewN q) := ⟨h.os, h.tape, h.output, h.size, h.block⟩
theorem Kp2.below {a : Nat} {b : Option Nat} {w w1 w2 : World} (h : Kp2 a b w w1) (k : Below w1.heap.size w1 w2) : Kp2 a b w w2 :=
  ⟨k.os.trans h.os, k.tape.trans h.tape, k.output.trans h.output, Nat.le_trans h.size k.size, fun p hp h1 h2 => (k.block p (Nat.lt_of_lt_of_le hp h.size)).trans (h.block p hp h1 h2)⟩
theorem SRow.eqv {w : World} {base : Nat} {T : TypeId} {g cap n : Nat} {G F : Nat → Int × Int} (h : SRow w base T g cap n G) (e : ∀ j, G j = F j) : SRow w base T g cap n F := by
  rw [show F = G from funext fun j => (e j).symm]; exact h
set_option maxHeartbeats 8000000 in
theorem put_any {hb n base : Nat} {v : Value} {G : Nat → Int × Int} {a b : Int} (w : World) (hs : w.ownsRow base 120 2 v n (il (n * 2) (c2 G))) (h0 : w.cell? ⟨hb, 0, none⟩ = some v) (z0 : w.frozen? ⟨hb, 0, none⟩ = false) (hn : n ≤ 10000) (hbase : base ≤ w.heap.size) (hvb : ∀ k, v.ownBlock = some k → k ≠ hb) (hH : Heap bef n G) : Calls Try.prog 74 #[.pointer (some ⟨hb, 0, none⟩), st2 a b] w (fun e w' => ∃ g cap G', e = .returned (.tuple #[]) ∧ SRow w' base 120 g cap (n + 1) G' ∧ At w' ⟨hb, 0, none⟩ (.slice (some ⟨g, 0, none⟩) (n + 1) cap) ∧ (v.ownBlock = some g ∨ w.heap.size ≤ g) ∧ Heap bef (n + 1) G' ∧ (lst (n + 1) G').Perm ((a, b) :: lst n G) ∧ Kp2 hb v.ownBlock w w') := by
  obtain ⟨i0, hi0, hz0, hz1, hz2⟩ := info_parts (P := Try.prog) (e := 120) (z := st2 0 0) (size := 2) (bytes := 16) (by kernel_rfl)
  have HS := Hf.mk hs
  have HV : Hf (∀ o : Unit, some hb ≠ v.ownBlock) := ⟨fun _ e => hvb hb e.symm rfl⟩
  have hlb := World.block_lt_of_cell? w _ h0
  have n0 := World.new_ne w _ h0
  have HW : Hf (∀ o : Unit, some w.heap.size ≠ v.ownBlock) := ⟨fun _ e => by
    rcases hs.2 with ⟨h1, _⟩ | ⟨g, cap, cur, hv, hg, hh, _⟩
    · rw [h1] at e; simp [Value.ownBlock] at e
    · rw [hv] at e
      have := (Array.getElem?_eq_some_iff.1 hh).1
      simp [Value.ownBlock] at e; omega⟩
  clear hs
  go_enter Try.func74, Try.ntmps74
  go_wp2
  go_region_law ((refine step_append_lies _ (by rfl) _ _ _ (by rfl) base 120 i0 _ 2 16 Try.underlying115 hi0 hz0 hz1 hz2 rfl (by decide) v n (il (n * 2) (c2 G)) (by rfl) (rown_below HS.out (by repeat (first | exact Below.refl _ _ | with_reducible assumption | refine Below.drews ?_ | refine Below.drew ?_ | refine Below.alloc ?_ (by simp <;> omega) _ | refine Below.setCell ?_ (by simp <;> omega) _))) ⟨w.heap.size + 1, 0, none⟩ 1 1 [.int .i64 a, .int .i64 b] (by rfl) (by rfl) (by intro j u hj; match j, hj with | 0, hj => (simp at hj; subst hj; simp [Addr.add]) | 1, hj => (simp at hj; subst hj; simp [Addr.add]) | j + 2, hj => (simp at hj)) rt_ints (by omega) (by unfold maxLen; omega) (by omega) (by simp; omega) (w.heap.size + 2) (by simp) ?_; intro g2 k2 w1 hown1 hgrow hat hlt; have p0 := (hgrow.cell_far ⟨hb, 0, none⟩ (by simp; omega) (HV.out ())).trans (show _ = some v by simp [go_sem, h0, n0, hlb]); have p2 := (hgrow.cell_far ⟨w.heap.size, 0, none⟩ (by simp; omega) (HW.out ())).trans (show _ = some (.int .i64 a) by simp [go_sem]); have p3 := (hgrow.cell_far ⟨w.heap.size, 1, none⟩ (by simp; omega) (HW.out ())).trans (show _ = some (.int .i64 b) by simp [go_sem]); have p1 := (hgrow.frozen_far ⟨hb, 0, none⟩ (by simp; omega) (HV.out ())).trans (show _ = false by simp [go_sem, z0, n0, hlb])))
  all_goals
    have hgb : g2 ≠ hb := by
      rcases hat with h | h
      · exact hvb _ h
      · omega
    have hgw : g2 = hb ∨ v.ownBlock = some g2 ∨ w.heap.size ≤ g2 := by
      rcases hat with h | h
      · exact .inr (.inl h)
      · exact .inr (.inr (by omega))
    have K0 : Kp2 hb v.ownBlock w w1 := Kp2.grown (by repeat (first | exact Below.refl _ _ | with_reducible assumption | refine Below.drews ?_ | refine Below.drew ?_ | refine Below.alloc ?_ (by simp <;> omega) _ | refine Below.setCell ?_ (by simp <;> omega) _)) hgrow
    have S0 : SRow w1 base 120 g2 k2 (n + 1) (fun j => if j = n then (a, b) else G j) := by
      have := hown1
      rw [show [Value.int .i64 a, Value.int .i64 b] = [Value.int .i64 (a, b).1, Value.int .i64 (a, b).2] from rfl, il_stop] at this
      exact this
    have S1 := Hf.mk (show SRow (w1.setCell ⟨hb, 0, none⟩ (.slice (some ⟨g2, 0, none⟩) (n + 1) k2)) base 120 g2 k2 (n + 1) (fun j => if j = n then (a, b) else G j) from rown_other S0 hgb _)
    have K1 := Hf.mk (K0.set (o := 0) (.slice (some ⟨g2, 0, none⟩) (n + 1) k2) (g := hb) (.inl rfl))
    have hb1 : hb < w1.heap.size := Nat.lt_of_lt_of_le hlb K0.size
    have C1 := Hf.mk (At.st0 (At.mk p0 p1 (by simpa using hb1)) (.slice (some ⟨g2, 0, none⟩) (n + 1) k2))
    have U1 := Hf.mk (Up.first hH (a, b))
    have P1 : Hf ((lst (n + 1) (fun j => if j = n then (a, b) else G j)).Perm ((a, b) :: lst n G)) := ⟨by
      rw [lst_succ, if_pos rfl, lst_ext (F := fun j => if j = n then (a, b) else G j) (G := G) (fun j hj => by simp only [if_neg (by omega : ¬ j = n)])]
      exact List.perm_append_singleton _ _⟩
    clear S0 K0 hgrow hown1 p0 p1 p2 p3 HS HV HW hH
    have c1 := C1.out.cell
    generalize hG : (fun j => if j = n then (a, b) else G j) = G0 at *
    clear hG
    generalize w1.setCell ⟨hb, 0, none⟩ (.slice (some ⟨g2, 0, none⟩) (n + 1) k2) = W at *
    go_wp2
    go_loopw [4] (fun v4 wr => ∃ (i : Nat) (G' : Nat → Int × Int), i ≤ n ∧ v4 = .int .i64 i ∧ Hf (SRow wr base 120 g2 k2 (n + 1) G') ∧ Hf (At wr ⟨hb, 0, none⟩ (.slice (some ⟨g2, 0, none⟩) (n + 1) k2)) ∧ Hf (Up bef (n + 1) G' i) ∧ Hf ((lst (n + 1) G').Perm ((a, b) :: lst n G)) ∧ Hf (Kp2 hb v.ownBlock w wr)) (fun v4 _ => (intOf v4).toNat)
    case atStart => exact ⟨n, G0, Nat.le_refl _, i_ext2 (by omega), S1, C1, U1, P1, K1⟩
    case round =>
      obtain ⟨i, G', hi, rfl, hS, hC, hU, hP, hK⟩ := hrel
      obtain ⟨W2, hW2⟩ : ∃ W2, W2 = wr := ⟨_, rfl⟩
      subst hW2
      have d0 := hC.out.cell
      by_cases h0 : i = 0
      · subst h0
        have HD := Hf.mk hU.out.done0
        go_wp2
        (try change bodyPost _ _ _ _ _ _); exact bodyPost_end (v := .tuple #[]) (by simp [results, Try.results74, go_sem]) rfl ⟨g2, k2, G', rfl, hS.out, hC.out, by rcases hgw with h | h | h; exact absurd h hgb; exact .inl h; exact .inr h, HD.out, hP.out, hK.out⟩
      · have hdv : ((i : Int) - 1).tdiv 2 = (((i - 1) / 2 : Nat) : Int) := by rw [Int.tdiv_eq_ediv_of_nonneg (by omega)]; omega
        have hdv2 : ((i : Int) - 1) / 2 = (((i - 1) / 2 : Nat) : Int) := by omega
        have hpn : (i - 1) / 2 < n + 1 := by omega
        have hpi : (i - 1) / 2 ≠ i := by omega
        have hpl : (i - 1) / 2 ≤ n := by omega
        by_cases hbf : bef (G' i) (G' ((i - 1) / 2))
        · have KC := Hf.mk (swapIf_yes (i := (i - 1) / 2) (k := i) W2 hS.out d0 hpn (by omega) hpi (by omega) hbf)
          have KU := Hf.mk (hU.out.step bef_ordr (by omega) hbf)
          have KP := Hf.mk ((swp_perm (G := G') hpn (by omega : i < n + 1)).trans hP.out)
          have HI0 := Hf.mk h0
          go_wp2_with (go_at_call 91; refine (KC.out).mono ?_; rintro e w' ⟨rfl, w3, b3, q, rfl⟩; have B3 := Hf.mk b3; clear b3)
          go_roundw
          case rel =>
            have S3 : SRow w3 base 120 g2 k2 (n + 1) G' := rown_below hS.out B3.out
            have S4 := ((S3.set hpn (G' i)).set (by omega : i < n + 1) (G' ((i - 1) / 2))).drews q
            refine ⟨(i - 1) / 2, swp G' ((i - 1) / 2) i, hpl, by first | rfl | exact i_ext2 (by omega), ⟨S4.eqv fun j => ?_⟩, ⟨?_⟩, KU, KP, ⟨?_⟩⟩
            · unfold swp
              by_cases e1 : j = i
              · subst e1; simp [Ne.symm hpi]
              · by_cases e2 : j = (i - 1) / 2
                · subst e2; simp [hpi]
                · simp [e1, e2]
            · have A3 := At.keep B3.out hC.out.cell hC.out.free
              exact At.drws0 ((((A3.ot0 (.inl (Ne.symm hgb)) _).ot0 (.inl (Ne.symm hgb)) _).ot0 (.inl (Ne.symm hgb)) _).ot0 (.inl (Ne.symm hgb)) _) q
            · exact Kp2.drews ((((Kp2.set (Kp2.set (Kp2.set (Kp2.set (hK.out.below B3.out) _ hgw) _ hgw) _ hgw) _ hgw))) ) q
          case measure => simp [intOf]; omega
        · have KC := Hf.mk (swapIf_no (i := (i - 1) / 2) (k := i) W2 hS.out d0 hpn (by omega) (by omega) hbf)
          have HD := Hf.mk (hU.out.done hbf)
          go_wp2_with (go_at_call 91; refine (KC.out).mono ?_; rintro e w' ⟨rfl, b3⟩; have B3 := Hf.mk b3; clear b3)
          (try change bodyPost _ _ _ _ _ _); exact bodyPost_end (v := .tuple #[]) (by simp [results, Try.results74, go_sem]) rfl ⟨g2, k2, G', rfl, rown_below hS.out B3.out, At.keep B3.out hC.out.cell hC.out.free, by rcases hgw with h | h | h; exact absurd h hgb; exact .inl h; exact .inr h, HD.out, hP.out, hK.out.below B3.out⟩
end Go.Proofs.Yteclmjknmdlopaa
