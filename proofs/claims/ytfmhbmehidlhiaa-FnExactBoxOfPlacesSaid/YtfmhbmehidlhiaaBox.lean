/-
  BoxOfPlaces, of the program and of its model; its exact law. No condition.
-/
import Derived.Test.YtfmhbmehidlhiaaPle
import Derived.Test.YtfmhbmehidlhiaaCrs
namespace Go.Proofs.Ytfmhbmehidlhiaa
open Go Go.RowKit
set_option maxRecDepth 100000

def pickF (op : BinOp) (f : Nat → Nat) : Nat → Nat
  | 0 => f 0
  | m + 1 => if fcmp op .f32 (f (m + 1)) (pickF op f m) = true then f (m + 1) else pickF op f m
theorem pick_yes {op : BinOp} {f : Nat → Nat} {m : Nat} (h : fcmp op .f32 (f (m + 1)) (pickF op f m) = true) : pickF op f (m + 1) = f (m + 1) := by show (if _ then _ else _) = _; rw [if_pos h]
theorem pick_no {op : BinOp} {f : Nat → Nat} {m : Nat} (h : fcmp op .f32 (f (m + 1)) (pickF op f m) = false) : pickF op f (m + 1) = pickF op f m := by show (if _ then _ else _) = _; rw [if_neg (by rw [h]; decide)]
theorem pick_fl {op : BinOp} {f : Nat → Nat} {n : Nat} (h : ∀ i, i < n → Fl .f32 (f i) (f i)) : ∀ m, m < n → Fl .f32 (pickF op f m) (pickF op f m) := by
  intro m
  induction m with
  | zero => intro hm; exact h 0 hm
  | succ m ih =>
    intro hm
    cases hc : fcmp op .f32 (f (m + 1)) (pickF op f m)
    · rw [pick_no hc]; exact ih (by omega)
    · rw [pick_yes hc]; exact h _ hm
structure At2 (w : World) (b x y : Nat) : Prop where
  a0 : At w ⟨b, 0, none⟩ (.float .f32 x)
  a1 : At w ⟨b, 1, none⟩ (.float .f32 y)
theorem At2.below {w w' : World} {b x y : Nat} (h : At2 w b x y) (hb : Below w.heap.size w w') : At2 w' b x y := ⟨At.keep hb h.a0.cell h.a0.free, At.keep hb h.a1.cell h.a1.free⟩
theorem At2.other {w : World} {b c x y o : Nat} {v : Value} (h : At2 w c x y) (hn : c ≠ b) : At2 (w.setCell ⟨b, o, none⟩ v) c x y := by
  have c0 := h.a0.cell
  have c1 := h.a1.cell
  have f0 := h.a0.free
  have f1 := h.a1.free
  have l := h.a0.lt
  exact ⟨⟨by simp [go_sem, c0], by simp [go_sem, f0], by simp; exact l⟩, ⟨by simp [go_sem, c1], by simp [go_sem, f1], by simp; exact l⟩⟩
theorem At2.set0 {w : World} {b x y : Nat} (h : At2 w b x y) (x' : Nat) : At2 (w.setCell ⟨b, 0, none⟩ (.float .f32 x')) b x' y := by
  have c0 := h.a0.cell
  have c1 := h.a1.cell
  have f0 := h.a0.free
  have f1 := h.a1.free
  have l := h.a0.lt
  exact ⟨⟨by simp [go_sem, c0], by simp [go_sem, f0], by simp; exact l⟩, ⟨by simp [go_sem, c1], by simp [go_sem, f1], by simp; exact l⟩⟩
theorem At2.set1 {w : World} {b x y : Nat} (h : At2 w b x y) (y' : Nat) : At2 (w.setCell ⟨b, 1, none⟩ (.float .f32 y')) b x y' := by
  have c0 := h.a0.cell
  have c1 := h.a1.cell
  have f0 := h.a0.free
  have f1 := h.a1.free
  have l := h.a0.lt
  exact ⟨⟨by simp [go_sem, c0], by simp [go_sem, f0], by simp; exact l⟩, ⟨by simp [go_sem, c1], by simp [go_sem, f1], by simp; exact l⟩⟩
/-- two places and whether there are any -/
abbrev boT (a b c d : Nat) (k : Bool) : Value := .tuple #[pl a b, pl c d, .bool k]
def loN (ys : List Nat) (m : Nat) : Nat := pickF .lss (nW ys) m
def loE (ys : List Nat) (m : Nat) : Nat := pickF .lss (eW ys) m
def hiN (ys : List Nat) (m : Nat) : Nat := pickF .gtr (nW ys) m
def hiE (ys : List Nat) (m : Nat) : Nat := pickF .gtr (eW ys) m
structure Bx (wr : World) (r2 r3 b5 b6 a b c d : Nat) : Prop where
  z2 : At2 wr r2 0 0
  z3 : At2 wr r3 0 0
  lo : At2 wr b5 a b
  hi : At2 wr b6 c d
  n56 : b5 ≠ b6
  n25 : r2 ≠ b5
  n26 : r2 ≠ b6
  n35 : r3 ≠ b5
  n36 : r3 ≠ b6
  n23 : r2 ≠ r3
section
variable {wr : World} {r2 r3 b5 b6 a b c d : Nat} (h : Bx wr r2 r3 b5 b6 a b c d)
include h
theorem Bx.below {w' : World} (hb : Below wr.heap.size wr w') : Bx w' r2 r3 b5 b6 a b c d := ⟨h.z2.below hb, h.z3.below hb, h.lo.below hb, h.hi.below hb, h.n56, h.n25, h.n26, h.n35, h.n36, h.n23⟩
theorem Bx.al (o : Obj) : Bx (wr.alloc o) r2 r3 b5 b6 a b c d := h.below (by repeat (first | exact Below.refl _ _ | with_reducible assumption | refine Below.drews ?_ | refine Below.drew ?_ | refine Below.alloc ?_ (by simp <;> omega) _ | refine Below.setCell ?_ (by simp <;> omega) _))
theorem Bx.s1 (x : Nat) : Bx (wr.setCell ⟨b5, 0, none⟩ (.float .f32 x)) r2 r3 b5 b6 x b c d := ⟨h.z2.other h.n25, h.z3.other h.n35, h.lo.set0 x, h.hi.other (Ne.symm h.n56), h.n56, h.n25, h.n26, h.n35, h.n36, h.n23⟩
theorem Bx.s2 (x : Nat) : Bx (wr.setCell ⟨b5, 1, none⟩ (.float .f32 x)) r2 r3 b5 b6 a x c d := ⟨h.z2.other h.n25, h.z3.other h.n35, h.lo.set1 x, h.hi.other (Ne.symm h.n56), h.n56, h.n25, h.n26, h.n35, h.n36, h.n23⟩
theorem Bx.s3 (x : Nat) : Bx (wr.setCell ⟨b6, 0, none⟩ (.float .f32 x)) r2 r3 b5 b6 a b x d := ⟨h.z2.other h.n26, h.z3.other h.n36, h.lo.other h.n56, h.hi.set0 x, h.n56, h.n25, h.n26, h.n35, h.n36, h.n23⟩
theorem Bx.s4 (x : Nat) : Bx (wr.setCell ⟨b6, 1, none⟩ (.float .f32 x)) r2 r3 b5 b6 a b c x := ⟨h.z2.other h.n26, h.z3.other h.n36, h.lo.other h.n56, h.hi.set1 x, h.n56, h.n25, h.n26, h.n35, h.n36, h.n23⟩
end
theorem box_start (w : World) (n1 : Nat) (t : TypeId) {W1 : World} (hW : World.drewN (World.alloc (World.alloc w (.cells #[.float .f32 0, .float .f32 0] t)) (.cells #[.float .f32 0, .float .f32 0] t)) n1 = W1) : W1.heap.size = w.heap.size + 2 ∧ Below w.heap.size w W1 ∧ At2 W1 w.heap.size 0 0 ∧ At2 W1 (w.heap.size + 1) 0 0 := by
  subst hW
  exact ⟨by simp, (by repeat (first | exact Below.refl _ _ | with_reducible assumption | refine Below.drews ?_ | refine Below.drew ?_ | refine Below.alloc ?_ (by simp <;> omega) _ | refine Below.setCell ?_ (by simp <;> omega) _)), ⟨⟨by simp [go_sem], by simp [go_sem], by simp <;> omega⟩, ⟨by simp [go_sem], by simp [go_sem], by simp <;> omega⟩⟩, ⟨⟨by simp [go_sem], by simp [go_sem], by simp⟩, ⟨by simp [go_sem], by simp [go_sem], by simp⟩⟩⟩
theorem box_zero (w : World) (t : TypeId) {w1 : World} (hb : Below (World.alloc (World.alloc w (.cells #[.float .f32 0, .float .f32 0] t)) (.cells #[.float .f32 0, .float .f32 0] t)).heap.size (World.alloc (World.alloc w (.cells #[.float .f32 0, .float .f32 0] t)) (.cells #[.float .f32 0, .float .f32 0] t)) w1) : w.heap.size + 2 ≤ w1.heap.size ∧ Below w.heap.size w w1 ∧ At2 w1 w.heap.size 0 0 ∧ At2 w1 (w.heap.size + 1) 0 0 := by
  obtain ⟨a, b, c, d⟩ := box_start w 0 t rfl
  have hs := hb.size
  refine ⟨?_, ?_, ?_, ?_⟩
  · simp at hs; omega
  · exact Below.on (by have h : Below w.heap.size w (World.alloc (World.alloc w (.cells #[.float .f32 0, .float .f32 0] t)) (.cells #[.float .f32 0, .float .f32 0] t)) := (by repeat (first | exact Below.refl _ _ | with_reducible assumption | refine Below.drews ?_ | refine Below.drew ?_ | refine Below.alloc ?_ (by simp <;> omega) _ | refine Below.setCell ?_ (by simp <;> omega) _)); exact h) hb (by simp; omega)
  · have h : At2 (World.alloc (World.alloc w (.cells #[.float .f32 0, .float .f32 0] t)) (.cells #[.float .f32 0, .float .f32 0] t)) w.heap.size 0 0 := ⟨⟨by simp [go_sem], by simp [go_sem], by simp <;> omega⟩, ⟨by simp [go_sem], by simp [go_sem], by simp <;> omega⟩⟩
    exact h.below hb
  · have h : At2 (World.alloc (World.alloc w (.cells #[.float .f32 0, .float .f32 0] t)) (.cells #[.float .f32 0, .float .f32 0] t)) (w.heap.size + 1) 0 0 := ⟨⟨by simp [go_sem], by simp [go_sem], by simp⟩, ⟨by simp [go_sem], by simp [go_sem], by simp⟩⟩
    exact h.below hb
/-- the world behind the two first blocks of a box -/
theorem box_two {W1 : World} {r2 r3 a b : Nat} (z2 : At2 W1 r2 0 0) (z3 : At2 W1 r3 0 0) (hne : r2 ≠ r3) (t : TypeId) {W2 : World} (hW : World.alloc (World.alloc W1 (.cells #[.float .f32 a, .float .f32 b] t)) (.cells #[.float .f32 a, .float .f32 b] t) = W2) : Bx W2 r2 r3 W1.heap.size (W1.heap.size + 1) a b a b ∧ Bx W2 r2 r3 (W1.heap.size + 1) W1.heap.size a b a b ∧ Below W1.heap.size W1 W2 := by
  have l2 := z2.a0.lt
  have l3 := z3.a0.lt
  dsimp only at l2 l3
  have hb : Below W1.heap.size W1 W2 := by rw [← hW]; exact (by repeat (first | exact Below.refl _ _ | with_reducible assumption | refine Below.drews ?_ | refine Below.drew ?_ | refine Below.alloc ?_ (by simp <;> omega) _ | refine Below.setCell ?_ (by simp <;> omega) _))
  have A : At2 W2 W1.heap.size a b := by rw [← hW]; exact ⟨⟨by simp [go_sem], by simp [go_sem], by simp <;> omega⟩, ⟨by simp [go_sem], by simp [go_sem], by simp <;> omega⟩⟩
  have B : At2 W2 (W1.heap.size + 1) a b := by rw [← hW]; exact ⟨⟨by simp [go_sem], by simp [go_sem], by simp⟩, ⟨by simp [go_sem], by simp [go_sem], by simp⟩⟩
  exact ⟨⟨z2.below hb, z3.below hb, A, B, by omega, by omega, by omega, by omega, by omega, hne⟩, ⟨z2.below hb, z3.below hb, B, A, by omega, by omega, by omega, by omega, by omega, hne⟩, hb⟩
theorem lo_fl {ys : List Nat} {n : Nat} (h : ∀ i, i < n → Fl .f32 (nW ys i) (nW ys i)) (m : Nat) (hm : m < n) : Fl .f32 (loN ys m) (loN ys m) ∧ Fl .f32 (hiN ys m) (hiN ys m) := ⟨pick_fl h m hm, pick_fl h m hm⟩
theorem le_fl {ys : List Nat} {n : Nat} (h : ∀ i, i < n → Fl .f32 (eW ys i) (eW ys i)) (m : Nat) (hm : m < n) : Fl .f32 (loE ys m) (loE ys m) ∧ Fl .f32 (hiE ys m) (hiE ys m) := ⟨pick_fl h m hm, pick_fl h m hm⟩
set_option maxHeartbeats 8000000 in
theorem sBox_yes {g n : Nat} {ys : List Nat} (w : World) (hr : FRow w (some ⟨g, 0, none⟩) ys) (hw : Wf ys) (hn : ys.length = 2 * n) (hl : n ≤ 1048576) (ha : arePl ys n = true) : Calls Try.prog 25 #[.slice (some ⟨g, 0, none⟩) n n] w (RS (boT (loN ys (n - 1)) (loE ys (n - 1)) (hiN ys (n - 1)) (hiE ys (n - 1)) true) w) := by
  obtain ⟨k1, k64, hv⟩ := arePl_of ha
  have HA := Hb.mk (fun (w' : World) (hr' : FRow w' (some ⟨g, 0, none⟩) ys) => (ha ▸ l02Are_any w' hr' hw hn hl : Calls Try.prog 57 #[.slice (some ⟨g, 0, none⟩) n n] w' (RB true w')))
  have HR := Hf.mk hr
  have HN := Hf.mk hn
  have FN := Hb.mk (fun i (hi : i < n) => (vEx hw hn hi (hv i hi)).1)
  have FE := Hb.mk (fun i (hi : i < n) => (vEx hw hn hi (hv i hi)).2.1)
  clear hr hw hn ha hv
  have v0 : 0 < n := by omega
  have lg := block_lt_of_cell (HR.out.twoAt HN.out v0).1
  simp at lg
  go_enter Try.func25, Try.ntmps25
  go_wp2_with (go_at_call 57; fail)
  refine (HA.out _ (HR.out.below (by repeat (first | exact Below.refl _ _ | with_reducible assumption | refine Below.drews ?_ | refine Below.drew ?_ | refine Below.alloc ?_ (by simp <;> omega) _ | refine Below.setCell ?_ (by simp <;> omega) _)))).mono ?_
  rintro ex w1 ⟨rfl, n1, rfl⟩
  generalize hW : World.drewN (World.alloc (World.alloc w (.cells #[.float .f32 0, .float .f32 0] 25)) (.cells #[.float .f32 0, .float .f32 0] 25)) n1 = W1
  obtain ⟨sz, bW, z2, z3⟩ := box_start w n1 25 hW
  obtain ⟨c0, c1⟩ := (HR.out.below bW).twoAt HN.out v0
  simp only [Nat.zero_mul, Nat.zero_add] at c0 c1
  have lg1 : g < W1.heap.size := by omega
  have BW := Hb.mk bW
  have Z2 := Hb.mk z2
  have Z3 := Hb.mk z3
  have SZ := Hb.mk sz
  clear z2 z3 bW hW sz
  go_wp2
  generalize hW2 : World.alloc (World.alloc W1 (.cells #[.float .f32 (nW ys 0), .float .f32 (eW ys 0)] 25)) (.cells #[.float .f32 (nW ys 0), .float .f32 (eW ys 0)] 25) = W2
  obtain ⟨x2, _, hb2⟩ := box_two Z2.out Z3.out (by omega) 25 hW2
  generalize hb5 : W1.heap.size = b5 at *
  generalize hb6 : b5 + 1 = b6 at *
  have sz1 := BW.out.size
  have BW2 := Hb.mk (show Below w.heap.size w W2 from Below.on BW.out (hb5 ▸ hb2) sz1)
  have lb5 : w.heap.size ≤ b5 := by omega
  have lb6 : w.heap.size ≤ b6 := by omega
  clear hb2 hW2 sz1 c0 c1 lg1 Z2 Z3 BW
  have lr3 : w.heap.size ≤ w.heap.size + 1 := Nat.le_succ _
  generalize w.heap.size + 1 = r3 at *
  go_loopw [7] (fun i wr => ∃ m : Nat, m < n ∧ i = .int .i64 ((m : Int) + 1) ∧ Hb (Bx wr w.heap.size r3 b5 b6 (loN ys m) (loE ys m) (hiN ys m) (hiE ys m)) ∧ Hf (Below w.heap.size w wr)) (fun i _ => n - (intOf i).toNat)
  case atStart => exact ⟨0, by omega, rfl, ⟨x2⟩, ⟨BW2.out⟩⟩
  case round =>
    obtain ⟨m, hm, rfl, hx0, hb⟩ := hrel
    have hx := hx0.out
    by_cases hlt : m + 1 < n
    · have xc0 := hx.lo.a0.cell
      have xc1 := hx.lo.a1.cell
      have xz0 := hx.lo.a0.free
      have xz1 := hx.lo.a1.free
      have yc0 := hx.hi.a0.cell
      have yc1 := hx.hi.a1.cell
      have yz0 := hx.hi.a0.free
      have yz1 := hx.hi.a1.free
      have xl := hx.lo.a0.lt
      have yl := hx.hi.a0.lt
      have n56 := hx.n56
      have n65 := Ne.symm hx.n56
      dsimp only at xl yl
      have xne := Nat.ne_of_lt xl
      have yne := Nat.ne_of_lt yl
      have xen := Ne.symm xne
      have yen := Ne.symm yne
      have hgw : g < wr.heap.size := Nat.lt_of_lt_of_le lg hb.out.size
      obtain ⟨c0, c1⟩ := (HR.out.below hb.out).twoAt HN.out hlt
      have F1 := FN.out _ hlt
      have F2 := FE.out _ hlt
      have F3 := (lo_fl FN.out m hm).1
      have F4 := (lo_fl FN.out m hm).2
      have F5 := (le_fl FE.out m hm).1
      have F6 := (le_fl FE.out m hm).2
      cases h1 : fcmp .lss .f32 (nW ys (m + 1)) (loN ys m)
      · cases h2 : fcmp .lss .f32 (eW ys (m + 1)) (loE ys m)
        · cases h3 : fcmp .gtr .f32 (nW ys (m + 1)) (hiN ys m)
          · cases h4 : fcmp .gtr .f32 (eW ys (m + 1)) (hiE ys m)
            · go_wp2_with (first | (refine wpList_fcmp rfl rfl rfl rfl rfl (by first | (with_reducible assumption) | (with_reducible exact Fl.ofInt _ _) | exact Fl.not (by decide +kernel) (by decide +kernel)) (by first | (with_reducible assumption) | (with_reducible exact Fl.ofInt _ _) | exact Fl.not (by decide +kernel) (by decide +kernel)) ?_; simp only [Act.put, List.setIfInBounds_toArray, List.set_cons_succ, List.set_cons_zero, h1, h2, h3, h4]))
              go_roundw
              case rel =>
                refine ⟨m + 1, by omega, i_ext2 (by omega), ⟨?_⟩, ⟨?_⟩⟩
                · have e1 : loN ys (m + 1) = loN ys m := pick_no h1
                  have e2 : loE ys (m + 1) = loE ys m := pick_no h2
                  have e3 : hiN ys (m + 1) = hiN ys m := pick_no h3
                  have e4 : hiE ys (m + 1) = hiE ys m := pick_no h4
                  rw [e1, e2, e3, e4]
                  exact (hx).al _
                · exact (by with_reducible repeat (first | exact hb.out | refine Below.setCell ?_ (by first | exact lb5 | exact lb6) _ | refine Below.alloc ?_ (by first | exact hb.out.size | (simp; exact hb.out.size)) _))
              case measure => simp [intOf]; omega
            · go_wp2_with (first | (refine wpList_fcmp rfl rfl rfl rfl rfl (by first | (with_reducible assumption) | (with_reducible exact Fl.ofInt _ _) | exact Fl.not (by decide +kernel) (by decide +kernel)) (by first | (with_reducible assumption) | (with_reducible exact Fl.ofInt _ _) | exact Fl.not (by decide +kernel) (by decide +kernel)) ?_; simp only [Act.put, List.setIfInBounds_toArray, List.set_cons_succ, List.set_cons_zero, h1, h2, h3, h4]))
              go_roundw
              case rel =>
                refine ⟨m + 1, by omega, i_ext2 (by omega), ⟨?_⟩, ⟨?_⟩⟩
                · have e1 : loN ys (m + 1) = loN ys m := pick_no h1
                  have e2 : loE ys (m + 1) = loE ys m := pick_no h2
                  have e3 : hiN ys (m + 1) = hiN ys m := pick_no h3
                  have e4 : hiE ys (m + 1) = eW ys (m + 1) := pick_yes h4
                  rw [e1, e2, e3, e4]
                  exact ((hx).s4 _).al _
                · exact (by with_reducible repeat (first | exact hb.out | refine Below.setCell ?_ (by first | exact lb5 | exact lb6) _ | refine Below.alloc ?_ (by first | exact hb.out.size | (simp; exact hb.out.size)) _))
              case measure => simp [intOf]; omega
          · cases h4 : fcmp .gtr .f32 (eW ys (m + 1)) (hiE ys m)
            · go_wp2_with (first | (refine wpList_fcmp rfl rfl rfl rfl rfl (by first | (with_reducible assumption) | (with_reducible exact Fl.ofInt _ _) | exact Fl.not (by decide +kernel) (by decide +kernel)) (by first | (with_reducible assumption) | (with_reducible exact Fl.ofInt _ _) | exact Fl.not (by decide +kernel) (by decide +kernel)) ?_; simp only [Act.put, List.setIfInBounds_toArray, List.set_cons_succ, List.set_cons_zero, h1, h2, h3, h4]))
              go_roundw
              case rel =>
                refine ⟨m + 1, by omega, i_ext2 (by omega), ⟨?_⟩, ⟨?_⟩⟩
                · have e1 : loN ys (m + 1) = loN ys m := pick_no h1
                  have e2 : loE ys (m + 1) = loE ys m := pick_no h2
                  have e3 : hiN ys (m + 1) = nW ys (m + 1) := pick_yes h3
                  have e4 : hiE ys (m + 1) = hiE ys m := pick_no h4
                  rw [e1, e2, e3, e4]
                  exact ((hx).s3 _).al _
                · exact (by with_reducible repeat (first | exact hb.out | refine Below.setCell ?_ (by first | exact lb5 | exact lb6) _ | refine Below.alloc ?_ (by first | exact hb.out.size | (simp; exact hb.out.size)) _))
              case measure => simp [intOf]; omega
            · go_wp2_with (first | (refine wpList_fcmp rfl rfl rfl rfl rfl (by first | (with_reducible assumption) | (with_reducible exact Fl.ofInt _ _) | exact Fl.not (by decide +kernel) (by decide +kernel)) (by first | (with_reducible assumption) | (with_reducible exact Fl.ofInt _ _) | exact Fl.not (by decide +kernel) (by decide +kernel)) ?_; simp only [Act.put, List.setIfInBounds_toArray, List.set_cons_succ, List.set_cons_zero, h1, h2, h3, h4]))
              go_roundw
              case rel =>
                refine ⟨m + 1, by omega, i_ext2 (by omega), ⟨?_⟩, ⟨?_⟩⟩
                · have e1 : loN ys (m + 1) = loN ys m := pick_no h1
                  have e2 : loE ys (m + 1) = loE ys m := pick_no h2
                  have e3 : hiN ys (m + 1) = nW ys (m + 1) := pick_yes h3
                  have e4 : hiE ys (m + 1) = eW ys (m + 1) := pick_yes h4
                  rw [e1, e2, e3, e4]
                  exact (((hx).s3 _).s4 _).al _
                · exact (by with_reducible repeat (first | exact hb.out | refine Below.setCell ?_ (by first | exact lb5 | exact lb6) _ | refine Below.alloc ?_ (by first | exact hb.out.size | (simp; exact hb.out.size)) _))
              case measure => simp [intOf]; omega
        · cases h3 : fcmp .gtr .f32 (nW ys (m + 1)) (hiN ys m)
          · cases h4 : fcmp .gtr .f32 (eW ys (m + 1)) (hiE ys m)
            · go_wp2_with (first | (refine wpList_fcmp rfl rfl rfl rfl rfl (by first | (with_reducible assumption) | (with_reducible exact Fl.ofInt _ _) | exact Fl.not (by decide +kernel) (by decide +kernel)) (by first | (with_reducible assumption) | (with_reducible exact Fl.ofInt _ _) | exact Fl.not (by decide +kernel) (by decide +kernel)) ?_; simp only [Act.put, List.setIfInBounds_toArray, List.set_cons_succ, List.set_cons_zero, h1, h2, h3, h4]))
              go_roundw
              case rel =>
                refine ⟨m + 1, by omega, i_ext2 (by omega), ⟨?_⟩, ⟨?_⟩⟩
                · have e1 : loN ys (m + 1) = loN ys m := pick_no h1
                  have e2 : loE ys (m + 1) = eW ys (m + 1) := pick_yes h2
                  have e3 : hiN ys (m + 1) = hiN ys m := pick_no h3
                  have e4 : hiE ys (m + 1) = hiE ys m := pick_no h4
                  rw [e1, e2, e3, e4]
                  exact ((hx).s2 _).al _
                · exact (by with_reducible repeat (first | exact hb.out | refine Below.setCell ?_ (by first | exact lb5 | exact lb6) _ | refine Below.alloc ?_ (by first | exact hb.out.size | (simp; exact hb.out.size)) _))
              case measure => simp [intOf]; omega
            · go_wp2_with (first | (refine wpList_fcmp rfl rfl rfl rfl rfl (by first | (with_reducible assumption) | (with_reducible exact Fl.ofInt _ _) | exact Fl.not (by decide +kernel) (by decide +kernel)) (by first | (with_reducible assumption) | (with_reducible exact Fl.ofInt _ _) | exact Fl.not (by decide +kernel) (by decide +kernel)) ?_; simp only [Act.put, List.setIfInBounds_toArray, List.set_cons_succ, List.set_cons_zero, h1, h2, h3, h4]))
              go_roundw
              case rel =>
                refine ⟨m + 1, by omega, i_ext2 (by omega), ⟨?_⟩, ⟨?_⟩⟩
                · have e1 : loN ys (m + 1) = loN ys m := pick_no h1
                  have e2 : loE ys (m + 1) = eW ys (m + 1) := pick_yes h2
                  have e3 : hiN ys (m + 1) = hiN ys m := pick_no h3
                  have e4 : hiE ys (m + 1) = eW ys (m + 1) := pick_yes h4
                  rw [e1, e2, e3, e4]
                  exact (((hx).s2 _).s4 _).al _
                · exact (by with_reducible repeat (first | exact hb.out | refine Below.setCell ?_ (by first | exact lb5 | exact lb6) _ | refine Below.alloc ?_ (by first | exact hb.out.size | (simp; exact hb.out.size)) _))
              case measure => simp [intOf]; omega
          · cases h4 : fcmp .gtr .f32 (eW ys (m + 1)) (hiE ys m)
            · go_wp2_with (first | (refine wpList_fcmp rfl rfl rfl rfl rfl (by first | (with_reducible assumption) | (with_reducible exact Fl.ofInt _ _) | exact Fl.not (by decide +kernel) (by decide +kernel)) (by first | (with_reducible assumption) | (with_reducible exact Fl.ofInt _ _) | exact Fl.not (by decide +kernel) (by decide +kernel)) ?_; simp only [Act.put, List.setIfInBounds_toArray, List.set_cons_succ, List.set_cons_zero, h1, h2, h3, h4]))
              go_roundw
              case rel =>
                refine ⟨m + 1, by omega, i_ext2 (by omega), ⟨?_⟩, ⟨?_⟩⟩
                · have e1 : loN ys (m + 1) = loN ys m := pick_no h1
                  have e2 : loE ys (m + 1) = eW ys (m + 1) := pick_yes h2
                  have e3 : hiN ys (m + 1) = nW ys (m + 1) := pick_yes h3
                  have e4 : hiE ys (m + 1) = hiE ys m := pick_no h4
                  rw [e1, e2, e3, e4]
                  exact (((hx).s2 _).s3 _).al _
                · exact (by with_reducible repeat (first | exact hb.out | refine Below.setCell ?_ (by first | exact lb5 | exact lb6) _ | refine Below.alloc ?_ (by first | exact hb.out.size | (simp; exact hb.out.size)) _))
              case measure => simp [intOf]; omega
            · go_wp2_with (first | (refine wpList_fcmp rfl rfl rfl rfl rfl (by first | (with_reducible assumption) | (with_reducible exact Fl.ofInt _ _) | exact Fl.not (by decide +kernel) (by decide +kernel)) (by first | (with_reducible assumption) | (with_reducible exact Fl.ofInt _ _) | exact Fl.not (by decide +kernel) (by decide +kernel)) ?_; simp only [Act.put, List.setIfInBounds_toArray, List.set_cons_succ, List.set_cons_zero, h1, h2, h3, h4]))
              go_roundw
              case rel =>
                refine ⟨m + 1, by omega, i_ext2 (by omega), ⟨?_⟩, ⟨?_⟩⟩
                · have e1 : loN ys (m + 1) = loN ys m := pick_no h1
                  have e2 : loE ys (m + 1) = eW ys (m + 1) := pick_yes h2
                  have e3 : hiN ys (m + 1) = nW ys (m + 1) := pick_yes h3
                  have e4 : hiE ys (m + 1) = eW ys (m + 1) := pick_yes h4
                  rw [e1, e2, e3, e4]
                  exact ((((hx).s2 _).s3 _).s4 _).al _
                · exact (by with_reducible repeat (first | exact hb.out | refine Below.setCell ?_ (by first | exact lb5 | exact lb6) _ | refine Below.alloc ?_ (by first | exact hb.out.size | (simp; exact hb.out.size)) _))
              case measure => simp [intOf]; omega
      · cases h2 : fcmp .lss .f32 (eW ys (m + 1)) (loE ys m)
        · cases h3 : fcmp .gtr .f32 (nW ys (m + 1)) (hiN ys m)
          · cases h4 : fcmp .gtr .f32 (eW ys (m + 1)) (hiE ys m)
            · go_wp2_with (first | (refine wpList_fcmp rfl rfl rfl rfl rfl (by first | (with_reducible assumption) | (with_reducible exact Fl.ofInt _ _) | exact Fl.not (by decide +kernel) (by decide +kernel)) (by first | (with_reducible assumption) | (with_reducible exact Fl.ofInt _ _) | exact Fl.not (by decide +kernel) (by decide +kernel)) ?_; simp only [Act.put, List.setIfInBounds_toArray, List.set_cons_succ, List.set_cons_zero, h1, h2, h3, h4]))
              go_roundw
              case rel =>
                refine ⟨m + 1, by omega, i_ext2 (by omega), ⟨?_⟩, ⟨?_⟩⟩
                · have e1 : loN ys (m + 1) = nW ys (m + 1) := pick_yes h1
                  have e2 : loE ys (m + 1) = loE ys m := pick_no h2
                  have e3 : hiN ys (m + 1) = hiN ys m := pick_no h3
                  have e4 : hiE ys (m + 1) = hiE ys m := pick_no h4
                  rw [e1, e2, e3, e4]
                  exact ((hx).s1 _).al _
                · exact (by with_reducible repeat (first | exact hb.out | refine Below.setCell ?_ (by first | exact lb5 | exact lb6) _ | refine Below.alloc ?_ (by first | exact hb.out.size | (simp; exact hb.out.size)) _))
              case measure => simp [intOf]; omega
            · go_wp2_with (first | (refine wpList_fcmp rfl rfl rfl rfl rfl (by first | (with_reducible assumption) | (with_reducible exact Fl.ofInt _ _) | exact Fl.not (by decide +kernel) (by decide +kernel)) (by first | (with_reducible assumption) | (with_reducible exact Fl.ofInt _ _) | exact Fl.not (by decide +kernel) (by decide +kernel)) ?_; simp only [Act.put, List.setIfInBounds_toArray, List.set_cons_succ, List.set_cons_zero, h1, h2, h3, h4]))
              go_roundw
              case rel =>
                refine ⟨m + 1, by omega, i_ext2 (by omega), ⟨?_⟩, ⟨?_⟩⟩
                · have e1 : loN ys (m + 1) = nW ys (m + 1) := pick_yes h1
                  have e2 : loE ys (m + 1) = loE ys m := pick_no h2
                  have e3 : hiN ys (m + 1) = hiN ys m := pick_no h3
                  have e4 : hiE ys (m + 1) = eW ys (m + 1) := pick_yes h4
                  rw [e1, e2, e3, e4]
                  exact (((hx).s1 _).s4 _).al _
                · exact (by with_reducible repeat (first | exact hb.out | refine Below.setCell ?_ (by first | exact lb5 | exact lb6) _ | refine Below.alloc ?_ (by first | exact hb.out.size | (simp; exact hb.out.size)) _))
              case measure => simp [intOf]; omega
          · cases h4 : fcmp .gtr .f32 (eW ys (m + 1)) (hiE ys m)
            · go_wp2_with (first | (refine wpList_fcmp rfl rfl rfl rfl rfl (by first | (with_reducible assumption) | (with_reducible exact Fl.ofInt _ _) | exact Fl.not (by decide +kernel) (by decide +kernel)) (by first | (with_reducible assumption) | (with_reducible exact Fl.ofInt _ _) | exact Fl.not (by decide +kernel) (by decide +kernel)) ?_; simp only [Act.put, List.setIfInBounds_toArray, List.set_cons_succ, List.set_cons_zero, h1, h2, h3, h4]))
              go_roundw
              case rel =>
                refine ⟨m + 1, by omega, i_ext2 (by omega), ⟨?_⟩, ⟨?_⟩⟩
                · have e1 : loN ys (m + 1) = nW ys (m + 1) := pick_yes h1
                  have e2 : loE ys (m + 1) = loE ys m := pick_no h2
                  have e3 : hiN ys (m + 1) = nW ys (m + 1) := pick_yes h3
                  have e4 : hiE ys (m + 1) = hiE ys m := pick_no h4
                  rw [e1, e2, e3, e4]
                  exact (((hx).s1 _).s3 _).al _
                · exact (by with_reducible repeat (first | exact hb.out | refine Below.setCell ?_ (by first | exact lb5 | exact lb6) _ | refine Below.alloc ?_ (by first | exact hb.out.size | (simp; exact hb.out.size)) _))
              case measure => simp [intOf]; omega
            · go_wp2_with (first | (refine wpList_fcmp rfl rfl rfl rfl rfl (by first | (with_reducible assumption) | (with_reducible exact Fl.ofInt _ _) | exact Fl.not (by decide +kernel) (by decide +kernel)) (by first | (with_reducible assumption) | (with_reducible exact Fl.ofInt _ _) | exact Fl.not (by decide +kernel) (by decide +kernel)) ?_; simp only [Act.put, List.setIfInBounds_toArray, List.set_cons_succ, List.set_cons_zero, h1, h2, h3, h4]))
              go_roundw
              case rel =>
                refine ⟨m + 1, by omega, i_ext2 (by omega), ⟨?_⟩, ⟨?_⟩⟩
                · have e1 : loN ys (m + 1) = nW ys (m + 1) := pick_yes h1
                  have e2 : loE ys (m + 1) = loE ys m := pick_no h2
                  have e3 : hiN ys (m + 1) = nW ys (m + 1) := pick_yes h3
                  have e4 : hiE ys (m + 1) = eW ys (m + 1) := pick_yes h4
                  rw [e1, e2, e3, e4]
                  exact ((((hx).s1 _).s3 _).s4 _).al _
                · exact (by with_reducible repeat (first | exact hb.out | refine Below.setCell ?_ (by first | exact lb5 | exact lb6) _ | refine Below.alloc ?_ (by first | exact hb.out.size | (simp; exact hb.out.size)) _))
              case measure => simp [intOf]; omega
        · cases h3 : fcmp .gtr .f32 (nW ys (m + 1)) (hiN ys m)
          · cases h4 : fcmp .gtr .f32 (eW ys (m + 1)) (hiE ys m)
            · go_wp2_with (first | (refine wpList_fcmp rfl rfl rfl rfl rfl (by first | (with_reducible assumption) | (with_reducible exact Fl.ofInt _ _) | exact Fl.not (by decide +kernel) (by decide +kernel)) (by first | (with_reducible assumption) | (with_reducible exact Fl.ofInt _ _) | exact Fl.not (by decide +kernel) (by decide +kernel)) ?_; simp only [Act.put, List.setIfInBounds_toArray, List.set_cons_succ, List.set_cons_zero, h1, h2, h3, h4]))
              go_roundw
              case rel =>
                refine ⟨m + 1, by omega, i_ext2 (by omega), ⟨?_⟩, ⟨?_⟩⟩
                · have e1 : loN ys (m + 1) = nW ys (m + 1) := pick_yes h1
                  have e2 : loE ys (m + 1) = eW ys (m + 1) := pick_yes h2
                  have e3 : hiN ys (m + 1) = hiN ys m := pick_no h3
                  have e4 : hiE ys (m + 1) = hiE ys m := pick_no h4
                  rw [e1, e2, e3, e4]
                  exact (((hx).s1 _).s2 _).al _
                · exact (by with_reducible repeat (first | exact hb.out | refine Below.setCell ?_ (by first | exact lb5 | exact lb6) _ | refine Below.alloc ?_ (by first | exact hb.out.size | (simp; exact hb.out.size)) _))
              case measure => simp [intOf]; omega
            · go_wp2_with (first | (refine wpList_fcmp rfl rfl rfl rfl rfl (by first | (with_reducible assumption) | (with_reducible exact Fl.ofInt _ _) | exact Fl.not (by decide +kernel) (by decide +kernel)) (by first | (with_reducible assumption) | (with_reducible exact Fl.ofInt _ _) | exact Fl.not (by decide +kernel) (by decide +kernel)) ?_; simp only [Act.put, List.setIfInBounds_toArray, List.set_cons_succ, List.set_cons_zero, h1, h2, h3, h4]))
              go_roundw
              case rel =>
                refine ⟨m + 1, by omega, i_ext2 (by omega), ⟨?_⟩, ⟨?_⟩⟩
                · have e1 : loN ys (m + 1) = nW ys (m + 1) := pick_yes h1
                  have e2 : loE ys (m + 1) = eW ys (m + 1) := pick_yes h2
                  have e3 : hiN ys (m + 1) = hiN ys m := pick_no h3
                  have e4 : hiE ys (m + 1) = eW ys (m + 1) := pick_yes h4
                  rw [e1, e2, e3, e4]
                  exact ((((hx).s1 _).s2 _).s4 _).al _
                · exact (by with_reducible repeat (first | exact hb.out | refine Below.setCell ?_ (by first | exact lb5 | exact lb6) _ | refine Below.alloc ?_ (by first | exact hb.out.size | (simp; exact hb.out.size)) _))
              case measure => simp [intOf]; omega
          · cases h4 : fcmp .gtr .f32 (eW ys (m + 1)) (hiE ys m)
            · go_wp2_with (first | (refine wpList_fcmp rfl rfl rfl rfl rfl (by first | (with_reducible assumption) | (with_reducible exact Fl.ofInt _ _) | exact Fl.not (by decide +kernel) (by decide +kernel)) (by first | (with_reducible assumption) | (with_reducible exact Fl.ofInt _ _) | exact Fl.not (by decide +kernel) (by decide +kernel)) ?_; simp only [Act.put, List.setIfInBounds_toArray, List.set_cons_succ, List.set_cons_zero, h1, h2, h3, h4]))
              go_roundw
              case rel =>
                refine ⟨m + 1, by omega, i_ext2 (by omega), ⟨?_⟩, ⟨?_⟩⟩
                · have e1 : loN ys (m + 1) = nW ys (m + 1) := pick_yes h1
                  have e2 : loE ys (m + 1) = eW ys (m + 1) := pick_yes h2
                  have e3 : hiN ys (m + 1) = nW ys (m + 1) := pick_yes h3
                  have e4 : hiE ys (m + 1) = hiE ys m := pick_no h4
                  rw [e1, e2, e3, e4]
                  exact ((((hx).s1 _).s2 _).s3 _).al _
                · exact (by with_reducible repeat (first | exact hb.out | refine Below.setCell ?_ (by first | exact lb5 | exact lb6) _ | refine Below.alloc ?_ (by first | exact hb.out.size | (simp; exact hb.out.size)) _))
              case measure => simp [intOf]; omega
            · go_wp2_with (first | (refine wpList_fcmp rfl rfl rfl rfl rfl (by first | (with_reducible assumption) | (with_reducible exact Fl.ofInt _ _) | exact Fl.not (by decide +kernel) (by decide +kernel)) (by first | (with_reducible assumption) | (with_reducible exact Fl.ofInt _ _) | exact Fl.not (by decide +kernel) (by decide +kernel)) ?_; simp only [Act.put, List.setIfInBounds_toArray, List.set_cons_succ, List.set_cons_zero, h1, h2, h3, h4]))
              go_roundw
              case rel =>
                refine ⟨m + 1, by omega, i_ext2 (by omega), ⟨?_⟩, ⟨?_⟩⟩
                · have e1 : loN ys (m + 1) = nW ys (m + 1) := pick_yes h1
                  have e2 : loE ys (m + 1) = eW ys (m + 1) := pick_yes h2
                  have e3 : hiN ys (m + 1) = nW ys (m + 1) := pick_yes h3
                  have e4 : hiE ys (m + 1) = eW ys (m + 1) := pick_yes h4
                  rw [e1, e2, e3, e4]
                  exact (((((hx).s1 _).s2 _).s3 _).s4 _).al _
                · exact (by with_reducible repeat (first | exact hb.out | refine Below.setCell ?_ (by first | exact lb5 | exact lb6) _ | refine Below.alloc ?_ (by first | exact hb.out.size | (simp; exact hb.out.size)) _))
              case measure => simp [intOf]; omega
    · have hmn : n - 1 = m := by omega
      have xc0 := hx.lo.a0.cell
      have xc1 := hx.lo.a1.cell
      have xz0 := hx.lo.a0.free
      have xz1 := hx.lo.a1.free
      have yc0 := hx.hi.a0.cell
      have yc1 := hx.hi.a1.cell
      have yz0 := hx.hi.a0.free
      have yz1 := hx.hi.a1.free
      have xl := hx.lo.a0.lt
      have yl := hx.hi.a0.lt
      have n56 := hx.n56
      have n65 := Ne.symm hx.n56
      dsimp only at xl yl
      have xne := Nat.ne_of_lt xl
      have yne := Nat.ne_of_lt yl
      have xen := Ne.symm xne
      have yen := Ne.symm yne
      have q0 := hx.z2.a0.cell
      have q1 := hx.z2.a1.cell
      have q2 := hx.z3.a0.cell
      have q3 := hx.z3.a1.cell
      have q4 := hx.z2.a0.free
      have q5 := hx.z2.a1.free
      have q6 := hx.z3.a0.free
      have q7 := hx.z3.a1.free
      have d1 := hx.n25
      have d2 := hx.n26
      have d3 := hx.n35
      have d4 := hx.n36
      have d5 := hx.n23
      have d6 := Ne.symm d1
      have d7 := Ne.symm d2
      have d8 := Ne.symm d3
      have d9 := Ne.symm d4
      have d10 := Ne.symm d5
      go_wp2
      go_region
      all_goals
        go_wp2
        exact bodyPost_ret (v := boT (loN ys m) (loE ys m) (hiN ys m) (hiE ys m) true) (by simp [results, Try.results25, go_sem, q0, q1, q2, q3]) rfl ⟨by rw [hmn], by with_reducible repeat (first | exact hb.out | refine Below.setCell ?_ (by first | exact Nat.le_refl _ | exact lr3) _ | refine Below.drew ?_)⟩
end Go.Proofs.Ytfmhbmehidlhiaa
