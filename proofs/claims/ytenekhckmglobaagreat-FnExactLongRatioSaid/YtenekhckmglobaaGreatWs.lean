/-
  The ways of two and of three valid places, as the program lays them in a slice. No condition beyond those named.
-/
import Derived.Test.YtenekhckmglobaaGreatVec
namespace Go.Proofs.YtenekhckmglobaaGreat
open Go Go.RowKit
set_option maxRecDepth 100000

def vals (W : List Nat) (m j : Nat) : Nat := if j < 3 * m then W.getD j 0 else 0
def RWs (W : List Nat) (k : Nat) (w : World) (e : Ending) (w' : World) : Prop := e = .returned (.tuple #[.slice (some ⟨w.heap.size, 0, none⟩) k k, .bool true]) ∧ Below w.heap.size w w' ∧ w.heap.size < w'.heap.size ∧ ∀ j, j < 3 * k → w'.cell? ⟨w.heap.size, j, none⟩ = some (.float .f32 (W.getD j 0))
def RNo (w : World) (e : Ending) (w' : World) : Prop := e = .returned (.tuple #[.slice none 0 0, .bool false]) ∧ Below w.heap.size w w'
set_option maxHeartbeats 4000000 in
theorem ws2 {g n0 e0 n1 e1 : Nat} (f0 : Fl .f32 n0 n0) (h0 : Fl .f32 e0 e0) (f1 : Fl .f32 n1 n1) (h1 : Fl .f32 e1 e1) (v0 : validC n0 e0 = true) (v1 : validC n1 e1 = true) (w : World) (c0 : w.cell? ⟨g, 0, none⟩ = some (.float .f32 n0)) (c1 : w.cell? ⟨g, 1, none⟩ = some (.float .f32 e0)) (c2 : w.cell? ⟨g, 2, none⟩ = some (.float .f32 n1)) (c3 : w.cell? ⟨g, 3, none⟩ = some (.float .f32 e1)) : Calls Tryz.prog 95 #[.slice (some ⟨g, 0, none⟩) 2 2] w (RWs [wxC n0 e0, wyC n0 e0, sineC n0, wxC n1 e1, wyC n1 e1, sineC n1] 2 w) := by
  have KV0 := iValidPlace_any f0 h0
  rw [v0] at KV0
  have HV0 := Hb.mk KV0
  obtain ⟨tn0, te0⟩ := turns_of v0
  have KW0 := Hb.mk (wayOf_any f0 h0 tn0 te0)
  clear tn0 te0
  clear KV0 v0
  have KV1 := iValidPlace_any f1 h1
  rw [v1] at KV1
  have HV1 := Hb.mk KV1
  obtain ⟨tn1, te1⟩ := turns_of v1
  have KW1 := Hb.mk (wayOf_any f1 h1 tn1 te1)
  clear tn1 te1
  clear KV1 v1
  generalize wxC n0 e0 = x0 at *
  generalize wyC n0 e0 = y0 at *
  generalize sineC n0 = z0 at *
  generalize wxC n1 e1 = x1 at *
  generalize wyC n1 e1 = y1 at *
  generalize sineC n1 = z1 at *
  obtain ⟨i0, hi, hz0, hz1, hz2⟩ := info_parts (P := Tryz.prog) (e := 87) (z := wy 0 0 0) (size := 3) (bytes := 12) (by kernel_rfl)
  have C0 := Hb.mk c0
  have C1 := Hb.mk c1
  have C2 := Hb.mk c2
  have C3 := Hb.mk c3
  clear c0 c1 c2 c3
  go_enter Tryz.func95, Tryz.ntmps95
  go_wp2_with (at_make; refine wpList_make_full _ rfl _ _ 94 rfl w.heap.size 87 i0 _ 3 Tryz.underlying94 hi hz0 hz1 .i64 .i64 _ _ 2 rfl rfl rfl rfl (by rw [hz2]; decide) (by unfold maxLen; omega) (Nat.le_refl _) ?_; intro w0 hown0 hgrow0; simp only [Act.put, List.setIfInBounds_toArray, List.set_cons_succ, List.set_cons_zero])
  have B0 := Hb.mk ((Below.refl w.heap.size w).grown hgrow0 (Nat.le_refl _) (fun k h => by cases h))
  have r0 : w0.cell? ⟨w.heap.size, 0, none⟩ = some (.float .f32 0) := (hown0.cellAt 0 (by decide)).trans (by kernel_rfl)
  have a0 := Hb.mk (At.mk r0 (hown0.frozenAt 0) (block_lt_of_cell r0))
  clear r0
  have r1 : w0.cell? ⟨w.heap.size, 1, none⟩ = some (.float .f32 0) := (hown0.cellAt 1 (by decide)).trans (by kernel_rfl)
  have a1 := Hb.mk (At.mk r1 (hown0.frozenAt 1) (block_lt_of_cell r1))
  clear r1
  have r2 : w0.cell? ⟨w.heap.size, 2, none⟩ = some (.float .f32 0) := (hown0.cellAt 2 (by decide)).trans (by kernel_rfl)
  have a2 := Hb.mk (At.mk r2 (hown0.frozenAt 2) (block_lt_of_cell r2))
  clear r2
  have r3 : w0.cell? ⟨w.heap.size, 3, none⟩ = some (.float .f32 0) := (hown0.cellAt 3 (by decide)).trans (by kernel_rfl)
  have a3 := Hb.mk (At.mk r3 (hown0.frozenAt 3) (block_lt_of_cell r3))
  clear r3
  have r4 : w0.cell? ⟨w.heap.size, 4, none⟩ = some (.float .f32 0) := (hown0.cellAt 4 (by decide)).trans (by kernel_rfl)
  have a4 := Hb.mk (At.mk r4 (hown0.frozenAt 4) (block_lt_of_cell r4))
  clear r4
  have r5 : w0.cell? ⟨w.heap.size, 5, none⟩ = some (.float .f32 0) := (hown0.cellAt 5 (by decide)).trans (by kernel_rfl)
  have a5 := Hb.mk (At.mk r5 (hown0.frozenAt 5) (block_lt_of_cell r5))
  clear r5
  clear hown0 hgrow0
  go_loopw [12] (fun i wr => ∃ m : Nat, m ≤ 2 ∧ i = .int .i64 m ∧ Hb (Below w.heap.size w wr) ∧ Hb (∀ j, j < 6 → At wr ⟨w.heap.size, j, none⟩ (.float .f32 (vals [x0, y0, z0, x1, y1, z1] m j)))) (fun i _ => (2 - (intOf i).toNat))
  case atStart => exact ⟨0, by omega, rfl, B0, ⟨fun j hj => by
    rcases (by omega : j = 0 ∨ j = 1 ∨ j = 2 ∨ j = 3 ∨ j = 4 ∨ j = 5) with rfl | rfl | rfl | rfl | rfl | rfl
    · exact a0.out
    · exact a1.out
    · exact a2.out
    · exact a3.out
    · exact a4.out
    · exact a5.out⟩⟩
  case round =>
    obtain ⟨m, hm, rfl, BR, AR⟩ := hrel
    clear a0 a1 a2 a3 a4 a5 B0
    have s0 := Below.keep BR.out C0.out
    have s1 := Below.keep BR.out C1.out
    have s2 := Below.keep BR.out C2.out
    have s3 := Below.keep BR.out C3.out
    rcases (by omega : m = 0 ∨ m = 1 ∨ m = 2) with rfl | rfl | rfl
    · have a0 := Hb.mk (show At wr ⟨w.heap.size, 0, none⟩ (.float .f32 0) from AR.out 0 (by decide)); obtain ⟨a0c, a0z, a0l⟩ := a0.out
      have a1 := Hb.mk (show At wr ⟨w.heap.size, 1, none⟩ (.float .f32 0) from AR.out 1 (by decide)); obtain ⟨a1c, a1z, a1l⟩ := a1.out
      have a2 := Hb.mk (show At wr ⟨w.heap.size, 2, none⟩ (.float .f32 0) from AR.out 2 (by decide)); obtain ⟨a2c, a2z, a2l⟩ := a2.out
      have a3 := Hb.mk (show At wr ⟨w.heap.size, 3, none⟩ (.float .f32 0) from AR.out 3 (by decide)); obtain ⟨a3c, a3z, a3l⟩ := a3.out
      have a4 := Hb.mk (show At wr ⟨w.heap.size, 4, none⟩ (.float .f32 0) from AR.out 4 (by decide)); obtain ⟨a4c, a4z, a4l⟩ := a4.out
      have a5 := Hb.mk (show At wr ⟨w.heap.size, 5, none⟩ (.float .f32 0) from AR.out 5 (by decide)); obtain ⟨a5c, a5z, a5l⟩ := a5.out
      clear AR
      go_wp2_with (first | (go_at_call 26; refine (HV0.out _).mono ?_; rintro ex w1 ⟨rfl, b1⟩; have B1 := Hb.mk (Below.on (B := w.heap.size) (a := w) (by repeat (first | exact BR.out | refine Below.drews ?_ | refine Below.drew ?_ | refine Below.alloc ?_ (by have hq_ := BR.out.size; first | omega | (simp <;> omega)) _ | refine Below.setCell ?_ (by have hq_ := BR.out.size; first | omega | (simp <;> omega)) _)) b1 (by have hq_ := BR.out.size; first | omega | (simp <;> omega))); have p0 := Hb.mk (At.keep b1 (p := ⟨wr.heap.size, 0, none⟩) (v := .float .f32 n0) (by simp [go_sem]) (by simp [go_sem])); obtain ⟨p0c, p0z, p0l⟩ := p0.out; have p1 := Hb.mk (At.keep b1 (p := ⟨wr.heap.size, 1, none⟩) (v := .float .f32 e0) (by simp [go_sem]) (by simp [go_sem])); obtain ⟨p1c, p1z, p1l⟩ := p1.out; have a0 := Hb.mk (At.re a0.out b1 (by first | exact a0c | simp [go_sem, a0c, a0l]) (by first | exact a0z | simp [go_sem, a0z, a0l])); obtain ⟨a0c, a0z, a0l⟩ := a0.out; have a1 := Hb.mk (At.re a1.out b1 (by first | exact a1c | simp [go_sem, a1c, a1l]) (by first | exact a1z | simp [go_sem, a1z, a1l])); obtain ⟨a1c, a1z, a1l⟩ := a1.out; have a2 := Hb.mk (At.re a2.out b1 (by first | exact a2c | simp [go_sem, a2c, a2l]) (by first | exact a2z | simp [go_sem, a2z, a2l])); obtain ⟨a2c, a2z, a2l⟩ := a2.out; have a3 := Hb.mk (At.re a3.out b1 (by first | exact a3c | simp [go_sem, a3c, a3l]) (by first | exact a3z | simp [go_sem, a3z, a3l])); obtain ⟨a3c, a3z, a3l⟩ := a3.out; have a4 := Hb.mk (At.re a4.out b1 (by first | exact a4c | simp [go_sem, a4c, a4l]) (by first | exact a4z | simp [go_sem, a4z, a4l])); obtain ⟨a4c, a4z, a4l⟩ := a4.out; have a5 := Hb.mk (At.re a5.out b1 (by first | exact a5c | simp [go_sem, a5c, a5l]) (by first | exact a5z | simp [go_sem, a5z, a5l])); obtain ⟨a5c, a5z, a5l⟩ := a5.out; clear b1) | (go_at_call 122; refine (KW0.out _).mono ?_; rintro ex w2 ⟨rfl, b2⟩; have B2 := Hb.mk (Below.on (B := w.heap.size) (a := w) (by repeat (first | exact B1.out | refine Below.drews ?_ | refine Below.drew ?_ | refine Below.alloc ?_ (by have hq_ := B1.out.size; first | omega | (simp <;> omega)) _ | refine Below.setCell ?_ (by have hq_ := B1.out.size; first | omega | (simp <;> omega)) _)) b2 (by have hq_ := B1.out.size; first | omega | (simp <;> omega))); have a0 := Hb.mk (At.re a0.out b2 (by first | exact a0c | simp [go_sem, a0c, a0l]) (by first | exact a0z | simp [go_sem, a0z, a0l])); obtain ⟨a0c, a0z, a0l⟩ := a0.out; have a1 := Hb.mk (At.re a1.out b2 (by first | exact a1c | simp [go_sem, a1c, a1l]) (by first | exact a1z | simp [go_sem, a1z, a1l])); obtain ⟨a1c, a1z, a1l⟩ := a1.out; have a2 := Hb.mk (At.re a2.out b2 (by first | exact a2c | simp [go_sem, a2c, a2l]) (by first | exact a2z | simp [go_sem, a2z, a2l])); obtain ⟨a2c, a2z, a2l⟩ := a2.out; have a3 := Hb.mk (At.re a3.out b2 (by first | exact a3c | simp [go_sem, a3c, a3l]) (by first | exact a3z | simp [go_sem, a3z, a3l])); obtain ⟨a3c, a3z, a3l⟩ := a3.out; have a4 := Hb.mk (At.re a4.out b2 (by first | exact a4c | simp [go_sem, a4c, a4l]) (by first | exact a4z | simp [go_sem, a4z, a4l])); obtain ⟨a4c, a4z, a4l⟩ := a4.out; have a5 := Hb.mk (At.re a5.out b2 (by first | exact a5c | simp [go_sem, a5c, a5l]) (by first | exact a5z | simp [go_sem, a5z, a5l])); obtain ⟨a5c, a5z, a5l⟩ := a5.out; clear b2))
      go_roundw
      case rel =>
        refine ⟨1, by omega, rfl, ⟨(by repeat (first | exact Below.refl _ _ | exact B2.out | refine Below.drews ?_ | refine Below.drew ?_ | refine Below.alloc ?_ (by first | omega | (simp <;> omega)) _ | refine Below.setCell ?_ (by first | omega | (simp <;> omega)) _))⟩, ⟨fun j hj => ?_⟩⟩
        rcases (by omega : j = 0 ∨ j = 1 ∨ j = 2 ∨ j = 3 ∨ j = 4 ∨ j = 5) with rfl | rfl | rfl | rfl | rfl | rfl
        · refine (show At _ ⟨w.heap.size, 0, none⟩ (.float .f32 x0) from ⟨by simp [go_sem, a0c], by simp [go_sem, a0z], by simp [a0l]⟩)
        · refine (show At _ ⟨w.heap.size, 1, none⟩ (.float .f32 y0) from ⟨by simp [go_sem, a1c], by simp [go_sem, a1z], by simp [a1l]⟩)
        · refine (show At _ ⟨w.heap.size, 2, none⟩ (.float .f32 z0) from ⟨by simp [go_sem, a2c], by simp [go_sem, a2z], by simp [a2l]⟩)
        · refine (show At _ ⟨w.heap.size, 3, none⟩ (.float .f32 0) from ⟨by simp [go_sem, a3c], by simp [go_sem, a3z], by simp [a3l]⟩)
        · refine (show At _ ⟨w.heap.size, 4, none⟩ (.float .f32 0) from ⟨by simp [go_sem, a4c], by simp [go_sem, a4z], by simp [a4l]⟩)
        · refine (show At _ ⟨w.heap.size, 5, none⟩ (.float .f32 0) from ⟨by simp [go_sem, a5c], by simp [go_sem, a5z], by simp [a5l]⟩)
      case measure => simp [intOf]
    · have a0 := Hb.mk (show At wr ⟨w.heap.size, 0, none⟩ (.float .f32 x0) from AR.out 0 (by decide)); obtain ⟨a0c, a0z, a0l⟩ := a0.out
      have a1 := Hb.mk (show At wr ⟨w.heap.size, 1, none⟩ (.float .f32 y0) from AR.out 1 (by decide)); obtain ⟨a1c, a1z, a1l⟩ := a1.out
      have a2 := Hb.mk (show At wr ⟨w.heap.size, 2, none⟩ (.float .f32 z0) from AR.out 2 (by decide)); obtain ⟨a2c, a2z, a2l⟩ := a2.out
      have a3 := Hb.mk (show At wr ⟨w.heap.size, 3, none⟩ (.float .f32 0) from AR.out 3 (by decide)); obtain ⟨a3c, a3z, a3l⟩ := a3.out
      have a4 := Hb.mk (show At wr ⟨w.heap.size, 4, none⟩ (.float .f32 0) from AR.out 4 (by decide)); obtain ⟨a4c, a4z, a4l⟩ := a4.out
      have a5 := Hb.mk (show At wr ⟨w.heap.size, 5, none⟩ (.float .f32 0) from AR.out 5 (by decide)); obtain ⟨a5c, a5z, a5l⟩ := a5.out
      clear AR
      go_wp2_with (first | (go_at_call 26; refine (HV1.out _).mono ?_; rintro ex w1 ⟨rfl, b1⟩; have B1 := Hb.mk (Below.on (B := w.heap.size) (a := w) (by repeat (first | exact BR.out | refine Below.drews ?_ | refine Below.drew ?_ | refine Below.alloc ?_ (by have hq_ := BR.out.size; first | omega | (simp <;> omega)) _ | refine Below.setCell ?_ (by have hq_ := BR.out.size; first | omega | (simp <;> omega)) _)) b1 (by have hq_ := BR.out.size; first | omega | (simp <;> omega))); have p0 := Hb.mk (At.keep b1 (p := ⟨wr.heap.size, 0, none⟩) (v := .float .f32 n1) (by simp [go_sem]) (by simp [go_sem])); obtain ⟨p0c, p0z, p0l⟩ := p0.out; have p1 := Hb.mk (At.keep b1 (p := ⟨wr.heap.size, 1, none⟩) (v := .float .f32 e1) (by simp [go_sem]) (by simp [go_sem])); obtain ⟨p1c, p1z, p1l⟩ := p1.out; have a0 := Hb.mk (At.re a0.out b1 (by first | exact a0c | simp [go_sem, a0c, a0l]) (by first | exact a0z | simp [go_sem, a0z, a0l])); obtain ⟨a0c, a0z, a0l⟩ := a0.out; have a1 := Hb.mk (At.re a1.out b1 (by first | exact a1c | simp [go_sem, a1c, a1l]) (by first | exact a1z | simp [go_sem, a1z, a1l])); obtain ⟨a1c, a1z, a1l⟩ := a1.out; have a2 := Hb.mk (At.re a2.out b1 (by first | exact a2c | simp [go_sem, a2c, a2l]) (by first | exact a2z | simp [go_sem, a2z, a2l])); obtain ⟨a2c, a2z, a2l⟩ := a2.out; have a3 := Hb.mk (At.re a3.out b1 (by first | exact a3c | simp [go_sem, a3c, a3l]) (by first | exact a3z | simp [go_sem, a3z, a3l])); obtain ⟨a3c, a3z, a3l⟩ := a3.out; have a4 := Hb.mk (At.re a4.out b1 (by first | exact a4c | simp [go_sem, a4c, a4l]) (by first | exact a4z | simp [go_sem, a4z, a4l])); obtain ⟨a4c, a4z, a4l⟩ := a4.out; have a5 := Hb.mk (At.re a5.out b1 (by first | exact a5c | simp [go_sem, a5c, a5l]) (by first | exact a5z | simp [go_sem, a5z, a5l])); obtain ⟨a5c, a5z, a5l⟩ := a5.out; clear b1) | (go_at_call 122; refine (KW1.out _).mono ?_; rintro ex w2 ⟨rfl, b2⟩; have B2 := Hb.mk (Below.on (B := w.heap.size) (a := w) (by repeat (first | exact B1.out | refine Below.drews ?_ | refine Below.drew ?_ | refine Below.alloc ?_ (by have hq_ := B1.out.size; first | omega | (simp <;> omega)) _ | refine Below.setCell ?_ (by have hq_ := B1.out.size; first | omega | (simp <;> omega)) _)) b2 (by have hq_ := B1.out.size; first | omega | (simp <;> omega))); have a0 := Hb.mk (At.re a0.out b2 (by first | exact a0c | simp [go_sem, a0c, a0l]) (by first | exact a0z | simp [go_sem, a0z, a0l])); obtain ⟨a0c, a0z, a0l⟩ := a0.out; have a1 := Hb.mk (At.re a1.out b2 (by first | exact a1c | simp [go_sem, a1c, a1l]) (by first | exact a1z | simp [go_sem, a1z, a1l])); obtain ⟨a1c, a1z, a1l⟩ := a1.out; have a2 := Hb.mk (At.re a2.out b2 (by first | exact a2c | simp [go_sem, a2c, a2l]) (by first | exact a2z | simp [go_sem, a2z, a2l])); obtain ⟨a2c, a2z, a2l⟩ := a2.out; have a3 := Hb.mk (At.re a3.out b2 (by first | exact a3c | simp [go_sem, a3c, a3l]) (by first | exact a3z | simp [go_sem, a3z, a3l])); obtain ⟨a3c, a3z, a3l⟩ := a3.out; have a4 := Hb.mk (At.re a4.out b2 (by first | exact a4c | simp [go_sem, a4c, a4l]) (by first | exact a4z | simp [go_sem, a4z, a4l])); obtain ⟨a4c, a4z, a4l⟩ := a4.out; have a5 := Hb.mk (At.re a5.out b2 (by first | exact a5c | simp [go_sem, a5c, a5l]) (by first | exact a5z | simp [go_sem, a5z, a5l])); obtain ⟨a5c, a5z, a5l⟩ := a5.out; clear b2))
      go_roundw
      case rel =>
        refine ⟨2, by omega, rfl, ⟨(by repeat (first | exact Below.refl _ _ | exact B2.out | refine Below.drews ?_ | refine Below.drew ?_ | refine Below.alloc ?_ (by first | omega | (simp <;> omega)) _ | refine Below.setCell ?_ (by first | omega | (simp <;> omega)) _))⟩, ⟨fun j hj => ?_⟩⟩
        rcases (by omega : j = 0 ∨ j = 1 ∨ j = 2 ∨ j = 3 ∨ j = 4 ∨ j = 5) with rfl | rfl | rfl | rfl | rfl | rfl
        · refine (show At _ ⟨w.heap.size, 0, none⟩ (.float .f32 x0) from ⟨by simp [go_sem, a0c], by simp [go_sem, a0z], by simp [a0l]⟩)
        · refine (show At _ ⟨w.heap.size, 1, none⟩ (.float .f32 y0) from ⟨by simp [go_sem, a1c], by simp [go_sem, a1z], by simp [a1l]⟩)
        · refine (show At _ ⟨w.heap.size, 2, none⟩ (.float .f32 z0) from ⟨by simp [go_sem, a2c], by simp [go_sem, a2z], by simp [a2l]⟩)
        · refine (show At _ ⟨w.heap.size, 3, none⟩ (.float .f32 x1) from ⟨by simp [go_sem, a3c], by simp [go_sem, a3z], by simp [a3l]⟩)
        · refine (show At _ ⟨w.heap.size, 4, none⟩ (.float .f32 y1) from ⟨by simp [go_sem, a4c], by simp [go_sem, a4z], by simp [a4l]⟩)
        · refine (show At _ ⟨w.heap.size, 5, none⟩ (.float .f32 z1) from ⟨by simp [go_sem, a5c], by simp [go_sem, a5z], by simp [a5l]⟩)
      case measure => simp [intOf]
    · have a0 := Hb.mk (show At wr ⟨w.heap.size, 0, none⟩ (.float .f32 x0) from AR.out 0 (by decide)); obtain ⟨a0c, a0z, a0l⟩ := a0.out
      have a1 := Hb.mk (show At wr ⟨w.heap.size, 1, none⟩ (.float .f32 y0) from AR.out 1 (by decide)); obtain ⟨a1c, a1z, a1l⟩ := a1.out
      have a2 := Hb.mk (show At wr ⟨w.heap.size, 2, none⟩ (.float .f32 z0) from AR.out 2 (by decide)); obtain ⟨a2c, a2z, a2l⟩ := a2.out
      have a3 := Hb.mk (show At wr ⟨w.heap.size, 3, none⟩ (.float .f32 x1) from AR.out 3 (by decide)); obtain ⟨a3c, a3z, a3l⟩ := a3.out
      have a4 := Hb.mk (show At wr ⟨w.heap.size, 4, none⟩ (.float .f32 y1) from AR.out 4 (by decide)); obtain ⟨a4c, a4z, a4l⟩ := a4.out
      have a5 := Hb.mk (show At wr ⟨w.heap.size, 5, none⟩ (.float .f32 z1) from AR.out 5 (by decide)); obtain ⟨a5c, a5z, a5l⟩ := a5.out
      clear AR
      go_wp2
      go_ret2
      refine ⟨rfl, BR.out, a0l, fun j hj => ?_⟩
      rcases (by omega : j = 0 ∨ j = 1 ∨ j = 2 ∨ j = 3 ∨ j = 4 ∨ j = 5) with rfl | rfl | rfl | rfl | rfl | rfl
      · exact a0c
      · exact a1c
      · exact a2c
      · exact a3c
      · exact a4c
      · exact a5c
set_option maxHeartbeats 4000000 in
theorem ws2_no0 {g n0 e0 n1 e1 cn ce : Nat} (f0 : Fl .f32 cn n0) (h0 : Fl .f32 ce e0)  (v0 : validC cn ce = false)  (w : World) (c0 : w.cell? ⟨g, 0, none⟩ = some (.float .f32 n0)) (c1 : w.cell? ⟨g, 1, none⟩ = some (.float .f32 e0)) (c2 : w.cell? ⟨g, 2, none⟩ = some (.float .f32 n1)) (c3 : w.cell? ⟨g, 3, none⟩ = some (.float .f32 e1)) : Calls Tryz.prog 95 #[.slice (some ⟨g, 0, none⟩) 2 2] w (RNo w) := by
  have KV0 := iValidPlace_any f0 h0
  rw [v0] at KV0
  have HV0 := Hb.mk KV0
  clear KV0 v0
  obtain ⟨i0, hi, hz0, hz1, hz2⟩ := info_parts (P := Tryz.prog) (e := 87) (z := wy 0 0 0) (size := 3) (bytes := 12) (by kernel_rfl)
  have C0 := Hb.mk c0
  have C1 := Hb.mk c1
  have C2 := Hb.mk c2
  have C3 := Hb.mk c3
  clear c0 c1 c2 c3
  go_enter Tryz.func95, Tryz.ntmps95
  go_wp2_with (at_make; refine wpList_make_full _ rfl _ _ 94 rfl w.heap.size 87 i0 _ 3 Tryz.underlying94 hi hz0 hz1 .i64 .i64 _ _ 2 rfl rfl rfl rfl (by rw [hz2]; decide) (by unfold maxLen; omega) (Nat.le_refl _) ?_; intro w0 hown0 hgrow0; simp only [Act.put, List.setIfInBounds_toArray, List.set_cons_succ, List.set_cons_zero])
  have B0 := Hb.mk ((Below.refl w.heap.size w).grown hgrow0 (Nat.le_refl _) (fun k h => by cases h))
  have r0 : w0.cell? ⟨w.heap.size, 0, none⟩ = some (.float .f32 0) := (hown0.cellAt 0 (by decide)).trans (by kernel_rfl)
  have a0 := Hb.mk (At.mk r0 (hown0.frozenAt 0) (block_lt_of_cell r0))
  clear r0
  have r1 : w0.cell? ⟨w.heap.size, 1, none⟩ = some (.float .f32 0) := (hown0.cellAt 1 (by decide)).trans (by kernel_rfl)
  have a1 := Hb.mk (At.mk r1 (hown0.frozenAt 1) (block_lt_of_cell r1))
  clear r1
  have r2 : w0.cell? ⟨w.heap.size, 2, none⟩ = some (.float .f32 0) := (hown0.cellAt 2 (by decide)).trans (by kernel_rfl)
  have a2 := Hb.mk (At.mk r2 (hown0.frozenAt 2) (block_lt_of_cell r2))
  clear r2
  have r3 : w0.cell? ⟨w.heap.size, 3, none⟩ = some (.float .f32 0) := (hown0.cellAt 3 (by decide)).trans (by kernel_rfl)
  have a3 := Hb.mk (At.mk r3 (hown0.frozenAt 3) (block_lt_of_cell r3))
  clear r3
  have r4 : w0.cell? ⟨w.heap.size, 4, none⟩ = some (.float .f32 0) := (hown0.cellAt 4 (by decide)).trans (by kernel_rfl)
  have a4 := Hb.mk (At.mk r4 (hown0.frozenAt 4) (block_lt_of_cell r4))
  clear r4
  have r5 : w0.cell? ⟨w.heap.size, 5, none⟩ = some (.float .f32 0) := (hown0.cellAt 5 (by decide)).trans (by kernel_rfl)
  have a5 := Hb.mk (At.mk r5 (hown0.frozenAt 5) (block_lt_of_cell r5))
  clear r5
  clear hown0 hgrow0
  go_loopw [12] (fun i wr => ∃ m : Nat, m ≤ 0 ∧ i = .int .i64 m ∧ Hb (Below w.heap.size w wr) ∧ Hb (∀ j, j < 6 → At wr ⟨w.heap.size, j, none⟩ (.float .f32 (vals [0, 0, 0, 0, 0, 0] m j)))) (fun i _ => (2 - (intOf i).toNat))
  case atStart => exact ⟨0, by omega, rfl, B0, ⟨fun j hj => by
    rcases (by omega : j = 0 ∨ j = 1 ∨ j = 2 ∨ j = 3 ∨ j = 4 ∨ j = 5) with rfl | rfl | rfl | rfl | rfl | rfl
    · exact a0.out
    · exact a1.out
    · exact a2.out
    · exact a3.out
    · exact a4.out
    · exact a5.out⟩⟩
  case round =>
    obtain ⟨m, hm, rfl, BR, AR⟩ := hrel
    clear a0 a1 a2 a3 a4 a5 B0
    have s0 := Below.keep BR.out C0.out
    have s1 := Below.keep BR.out C1.out
    have s2 := Below.keep BR.out C2.out
    have s3 := Below.keep BR.out C3.out
    rcases (by omega : m = 0) with rfl
    · have a0 := Hb.mk (show At wr ⟨w.heap.size, 0, none⟩ (.float .f32 0) from AR.out 0 (by decide)); obtain ⟨a0c, a0z, a0l⟩ := a0.out
      have a1 := Hb.mk (show At wr ⟨w.heap.size, 1, none⟩ (.float .f32 0) from AR.out 1 (by decide)); obtain ⟨a1c, a1z, a1l⟩ := a1.out
      have a2 := Hb.mk (show At wr ⟨w.heap.size, 2, none⟩ (.float .f32 0) from AR.out 2 (by decide)); obtain ⟨a2c, a2z, a2l⟩ := a2.out
      have a3 := Hb.mk (show At wr ⟨w.heap.size, 3, none⟩ (.float .f32 0) from AR.out 3 (by decide)); obtain ⟨a3c, a3z, a3l⟩ := a3.out
      have a4 := Hb.mk (show At wr ⟨w.heap.size, 4, none⟩ (.float .f32 0) from AR.out 4 (by decide)); obtain ⟨a4c, a4z, a4l⟩ := a4.out
      have a5 := Hb.mk (show At wr ⟨w.heap.size, 5, none⟩ (.float .f32 0) from AR.out 5 (by decide)); obtain ⟨a5c, a5z, a5l⟩ := a5.out
      clear AR
      go_wp2_with (first | (go_at_call 26; refine (HV0.out _).mono ?_; rintro ex w1 ⟨rfl, b1⟩; have B1 := Hb.mk (Below.on (B := w.heap.size) (a := w) (by repeat (first | exact BR.out | refine Below.drews ?_ | refine Below.drew ?_ | refine Below.alloc ?_ (by have hq_ := BR.out.size; first | omega | (simp <;> omega)) _ | refine Below.setCell ?_ (by have hq_ := BR.out.size; first | omega | (simp <;> omega)) _)) b1 (by have hq_ := BR.out.size; first | omega | (simp <;> omega))); clear b1))
      go_ret2
      exact ⟨rfl, (by repeat (first | exact Below.refl _ _ | exact B1.out | refine Below.drews ?_ | refine Below.drew ?_ | refine Below.alloc ?_ (by first | omega | (simp <;> omega)) _ | refine Below.setCell ?_ (by first | omega | (simp <;> omega)) _))⟩
set_option maxHeartbeats 4000000 in
theorem ws2_no1 {g n0 e0 n1 e1 cn ce : Nat} (f0 : Fl .f32 n0 n0) (h0 : Fl .f32 e0 e0) (f1 : Fl .f32 cn n1) (h1 : Fl .f32 ce e1) (v0 : validC n0 e0 = true) (v1 : validC cn ce = false) (w : World) (c0 : w.cell? ⟨g, 0, none⟩ = some (.float .f32 n0)) (c1 : w.cell? ⟨g, 1, none⟩ = some (.float .f32 e0)) (c2 : w.cell? ⟨g, 2, none⟩ = some (.float .f32 n1)) (c3 : w.cell? ⟨g, 3, none⟩ = some (.float .f32 e1)) : Calls Tryz.prog 95 #[.slice (some ⟨g, 0, none⟩) 2 2] w (RNo w) := by
  have KV0 := iValidPlace_any f0 h0
  rw [v0] at KV0
  have HV0 := Hb.mk KV0
  obtain ⟨tn0, te0⟩ := turns_of v0
  have KW0 := Hb.mk (wayOf_any f0 h0 tn0 te0)
  clear tn0 te0
  clear KV0 v0
  have KV1 := iValidPlace_any f1 h1
  rw [v1] at KV1
  have HV1 := Hb.mk KV1
  clear KV1 v1
  generalize wxC n0 e0 = x0 at *
  generalize wyC n0 e0 = y0 at *
  generalize sineC n0 = z0 at *
  obtain ⟨i0, hi, hz0, hz1, hz2⟩ := info_parts (P := Tryz.prog) (e := 87) (z := wy 0 0 0) (size := 3) (bytes := 12) (by kernel_rfl)
  have C0 := Hb.mk c0
  have C1 := Hb.mk c1
  have C2 := Hb.mk c2
  have C3 := Hb.mk c3
  clear c0 c1 c2 c3
  go_enter Tryz.func95, Tryz.ntmps95
  go_wp2_with (at_make; refine wpList_make_full _ rfl _ _ 94 rfl w.heap.size 87 i0 _ 3 Tryz.underlying94 hi hz0 hz1 .i64 .i64 _ _ 2 rfl rfl rfl rfl (by rw [hz2]; decide) (by unfold maxLen; omega) (Nat.le_refl _) ?_; intro w0 hown0 hgrow0; simp only [Act.put, List.setIfInBounds_toArray, List.set_cons_succ, List.set_cons_zero])
  have B0 := Hb.mk ((Below.refl w.heap.size w).grown hgrow0 (Nat.le_refl _) (fun k h => by cases h))
  have r0 : w0.cell? ⟨w.heap.size, 0, none⟩ = some (.float .f32 0) := (hown0.cellAt 0 (by decide)).trans (by kernel_rfl)
  have a0 := Hb.mk (At.mk r0 (hown0.frozenAt 0) (block_lt_of_cell r0))
  clear r0
  have r1 : w0.cell? ⟨w.heap.size, 1, none⟩ = some (.float .f32 0) := (hown0.cellAt 1 (by decide)).trans (by kernel_rfl)
  have a1 := Hb.mk (At.mk r1 (hown0.frozenAt 1) (block_lt_of_cell r1))
  clear r1
  have r2 : w0.cell? ⟨w.heap.size, 2, none⟩ = some (.float .f32 0) := (hown0.cellAt 2 (by decide)).trans (by kernel_rfl)
  have a2 := Hb.mk (At.mk r2 (hown0.frozenAt 2) (block_lt_of_cell r2))
  clear r2
  have r3 : w0.cell? ⟨w.heap.size, 3, none⟩ = some (.float .f32 0) := (hown0.cellAt 3 (by decide)).trans (by kernel_rfl)
  have a3 := Hb.mk (At.mk r3 (hown0.frozenAt 3) (block_lt_of_cell r3))
  clear r3
  have r4 : w0.cell? ⟨w.heap.size, 4, none⟩ = some (.float .f32 0) := (hown0.cellAt 4 (by decide)).trans (by kernel_rfl)
  have a4 := Hb.mk (At.mk r4 (hown0.frozenAt 4) (block_lt_of_cell r4))
  clear r4
  have r5 : w0.cell? ⟨w.heap.size, 5, none⟩ = some (.float .f32 0) := (hown0.cellAt 5 (by decide)).trans (by kernel_rfl)
  have a5 := Hb.mk (At.mk r5 (hown0.frozenAt 5) (block_lt_of_cell r5))
  clear r5
  clear hown0 hgrow0
  go_loopw [12] (fun i wr => ∃ m : Nat, m ≤ 1 ∧ i = .int .i64 m ∧ Hb (Below w.heap.size w wr) ∧ Hb (∀ j, j < 6 → At wr ⟨w.heap.size, j, none⟩ (.float .f32 (vals [x0, y0, z0, 0, 0, 0] m j)))) (fun i _ => (2 - (intOf i).toNat))
  case atStart => exact ⟨0, by omega, rfl, B0, ⟨fun j hj => by
    rcases (by omega : j = 0 ∨ j = 1 ∨ j = 2 ∨ j = 3 ∨ j = 4 ∨ j = 5) with rfl | rfl | rfl | rfl | rfl | rfl
    · exact a0.out
    · exact a1.out
    · exact a2.out
    · exact a3.out
    · exact a4.out
    · exact a5.out⟩⟩
  case round =>
    obtain ⟨m, hm, rfl, BR, AR⟩ := hrel
    clear a0 a1 a2 a3 a4 a5 B0
    have s0 := Below.keep BR.out C0.out
    have s1 := Below.keep BR.out C1.out
    have s2 := Below.keep BR.out C2.out
    have s3 := Below.keep BR.out C3.out
    rcases (by omega : m = 0 ∨ m = 1) with rfl | rfl
    · have a0 := Hb.mk (show At wr ⟨w.heap.size, 0, none⟩ (.float .f32 0) from AR.out 0 (by decide)); obtain ⟨a0c, a0z, a0l⟩ := a0.out
      have a1 := Hb.mk (show At wr ⟨w.heap.size, 1, none⟩ (.float .f32 0) from AR.out 1 (by decide)); obtain ⟨a1c, a1z, a1l⟩ := a1.out
      have a2 := Hb.mk (show At wr ⟨w.heap.size, 2, none⟩ (.float .f32 0) from AR.out 2 (by decide)); obtain ⟨a2c, a2z, a2l⟩ := a2.out
      have a3 := Hb.mk (show At wr ⟨w.heap.size, 3, none⟩ (.float .f32 0) from AR.out 3 (by decide)); obtain ⟨a3c, a3z, a3l⟩ := a3.out
      have a4 := Hb.mk (show At wr ⟨w.heap.size, 4, none⟩ (.float .f32 0) from AR.out 4 (by decide)); obtain ⟨a4c, a4z, a4l⟩ := a4.out
      have a5 := Hb.mk (show At wr ⟨w.heap.size, 5, none⟩ (.float .f32 0) from AR.out 5 (by decide)); obtain ⟨a5c, a5z, a5l⟩ := a5.out
      clear AR
      go_wp2_with (first | (go_at_call 26; refine (HV0.out _).mono ?_; rintro ex w1 ⟨rfl, b1⟩; have B1 := Hb.mk (Below.on (B := w.heap.size) (a := w) (by repeat (first | exact BR.out | refine Below.drews ?_ | refine Below.drew ?_ | refine Below.alloc ?_ (by have hq_ := BR.out.size; first | omega | (simp <;> omega)) _ | refine Below.setCell ?_ (by have hq_ := BR.out.size; first | omega | (simp <;> omega)) _)) b1 (by have hq_ := BR.out.size; first | omega | (simp <;> omega))); have p0 := Hb.mk (At.keep b1 (p := ⟨wr.heap.size, 0, none⟩) (v := .float .f32 n0) (by simp [go_sem]) (by simp [go_sem])); obtain ⟨p0c, p0z, p0l⟩ := p0.out; have p1 := Hb.mk (At.keep b1 (p := ⟨wr.heap.size, 1, none⟩) (v := .float .f32 e0) (by simp [go_sem]) (by simp [go_sem])); obtain ⟨p1c, p1z, p1l⟩ := p1.out; have a0 := Hb.mk (At.re a0.out b1 (by first | exact a0c | simp [go_sem, a0c, a0l]) (by first | exact a0z | simp [go_sem, a0z, a0l])); obtain ⟨a0c, a0z, a0l⟩ := a0.out; have a1 := Hb.mk (At.re a1.out b1 (by first | exact a1c | simp [go_sem, a1c, a1l]) (by first | exact a1z | simp [go_sem, a1z, a1l])); obtain ⟨a1c, a1z, a1l⟩ := a1.out; have a2 := Hb.mk (At.re a2.out b1 (by first | exact a2c | simp [go_sem, a2c, a2l]) (by first | exact a2z | simp [go_sem, a2z, a2l])); obtain ⟨a2c, a2z, a2l⟩ := a2.out; have a3 := Hb.mk (At.re a3.out b1 (by first | exact a3c | simp [go_sem, a3c, a3l]) (by first | exact a3z | simp [go_sem, a3z, a3l])); obtain ⟨a3c, a3z, a3l⟩ := a3.out; have a4 := Hb.mk (At.re a4.out b1 (by first | exact a4c | simp [go_sem, a4c, a4l]) (by first | exact a4z | simp [go_sem, a4z, a4l])); obtain ⟨a4c, a4z, a4l⟩ := a4.out; have a5 := Hb.mk (At.re a5.out b1 (by first | exact a5c | simp [go_sem, a5c, a5l]) (by first | exact a5z | simp [go_sem, a5z, a5l])); obtain ⟨a5c, a5z, a5l⟩ := a5.out; clear b1) | (go_at_call 122; refine (KW0.out _).mono ?_; rintro ex w2 ⟨rfl, b2⟩; have B2 := Hb.mk (Below.on (B := w.heap.size) (a := w) (by repeat (first | exact B1.out | refine Below.drews ?_ | refine Below.drew ?_ | refine Below.alloc ?_ (by have hq_ := B1.out.size; first | omega | (simp <;> omega)) _ | refine Below.setCell ?_ (by have hq_ := B1.out.size; first | omega | (simp <;> omega)) _)) b2 (by have hq_ := B1.out.size; first | omega | (simp <;> omega))); have a0 := Hb.mk (At.re a0.out b2 (by first | exact a0c | simp [go_sem, a0c, a0l]) (by first | exact a0z | simp [go_sem, a0z, a0l])); obtain ⟨a0c, a0z, a0l⟩ := a0.out; have a1 := Hb.mk (At.re a1.out b2 (by first | exact a1c | simp [go_sem, a1c, a1l]) (by first | exact a1z | simp [go_sem, a1z, a1l])); obtain ⟨a1c, a1z, a1l⟩ := a1.out; have a2 := Hb.mk (At.re a2.out b2 (by first | exact a2c | simp [go_sem, a2c, a2l]) (by first | exact a2z | simp [go_sem, a2z, a2l])); obtain ⟨a2c, a2z, a2l⟩ := a2.out; have a3 := Hb.mk (At.re a3.out b2 (by first | exact a3c | simp [go_sem, a3c, a3l]) (by first | exact a3z | simp [go_sem, a3z, a3l])); obtain ⟨a3c, a3z, a3l⟩ := a3.out; have a4 := Hb.mk (At.re a4.out b2 (by first | exact a4c | simp [go_sem, a4c, a4l]) (by first | exact a4z | simp [go_sem, a4z, a4l])); obtain ⟨a4c, a4z, a4l⟩ := a4.out; have a5 := Hb.mk (At.re a5.out b2 (by first | exact a5c | simp [go_sem, a5c, a5l]) (by first | exact a5z | simp [go_sem, a5z, a5l])); obtain ⟨a5c, a5z, a5l⟩ := a5.out; clear b2))
      go_roundw
      case rel =>
        refine ⟨1, by omega, rfl, ⟨(by repeat (first | exact Below.refl _ _ | exact B2.out | refine Below.drews ?_ | refine Below.drew ?_ | refine Below.alloc ?_ (by first | omega | (simp <;> omega)) _ | refine Below.setCell ?_ (by first | omega | (simp <;> omega)) _))⟩, ⟨fun j hj => ?_⟩⟩
        rcases (by omega : j = 0 ∨ j = 1 ∨ j = 2 ∨ j = 3 ∨ j = 4 ∨ j = 5) with rfl | rfl | rfl | rfl | rfl | rfl
        · refine (show At _ ⟨w.heap.size, 0, none⟩ (.float .f32 x0) from ⟨by simp [go_sem, a0c], by simp [go_sem, a0z], by simp [a0l]⟩)
        · refine (show At _ ⟨w.heap.size, 1, none⟩ (.float .f32 y0) from ⟨by simp [go_sem, a1c], by simp [go_sem, a1z], by simp [a1l]⟩)
        · refine (show At _ ⟨w.heap.size, 2, none⟩ (.float .f32 z0) from ⟨by simp [go_sem, a2c], by simp [go_sem, a2z], by simp [a2l]⟩)
        · refine (show At _ ⟨w.heap.size, 3, none⟩ (.float .f32 0) from ⟨by simp [go_sem, a3c], by simp [go_sem, a3z], by simp [a3l]⟩)
        · refine (show At _ ⟨w.heap.size, 4, none⟩ (.float .f32 0) from ⟨by simp [go_sem, a4c], by simp [go_sem, a4z], by simp [a4l]⟩)
        · refine (show At _ ⟨w.heap.size, 5, none⟩ (.float .f32 0) from ⟨by simp [go_sem, a5c], by simp [go_sem, a5z], by simp [a5l]⟩)
      case measure => simp [intOf]
    · have a0 := Hb.mk (show At wr ⟨w.heap.size, 0, none⟩ (.float .f32 x0) from AR.out 0 (by decide)); obtain ⟨a0c, a0z, a0l⟩ := a0.out
      have a1 := Hb.mk (show At wr ⟨w.heap.size, 1, none⟩ (.float .f32 y0) from AR.out 1 (by decide)); obtain ⟨a1c, a1z, a1l⟩ := a1.out
      have a2 := Hb.mk (show At wr ⟨w.heap.size, 2, none⟩ (.float .f32 z0) from AR.out 2 (by decide)); obtain ⟨a2c, a2z, a2l⟩ := a2.out
      have a3 := Hb.mk (show At wr ⟨w.heap.size, 3, none⟩ (.float .f32 0) from AR.out 3 (by decide)); obtain ⟨a3c, a3z, a3l⟩ := a3.out
      have a4 := Hb.mk (show At wr ⟨w.heap.size, 4, none⟩ (.float .f32 0) from AR.out 4 (by decide)); obtain ⟨a4c, a4z, a4l⟩ := a4.out
      have a5 := Hb.mk (show At wr ⟨w.heap.size, 5, none⟩ (.float .f32 0) from AR.out 5 (by decide)); obtain ⟨a5c, a5z, a5l⟩ := a5.out
      clear AR
      go_wp2_with (first | (go_at_call 26; refine (HV1.out _).mono ?_; rintro ex w1 ⟨rfl, b1⟩; have B1 := Hb.mk (Below.on (B := w.heap.size) (a := w) (by repeat (first | exact BR.out | refine Below.drews ?_ | refine Below.drew ?_ | refine Below.alloc ?_ (by have hq_ := BR.out.size; first | omega | (simp <;> omega)) _ | refine Below.setCell ?_ (by have hq_ := BR.out.size; first | omega | (simp <;> omega)) _)) b1 (by have hq_ := BR.out.size; first | omega | (simp <;> omega))); clear b1))
      go_ret2
      exact ⟨rfl, (by repeat (first | exact Below.refl _ _ | exact B1.out | refine Below.drews ?_ | refine Below.drew ?_ | refine Below.alloc ?_ (by first | omega | (simp <;> omega)) _ | refine Below.setCell ?_ (by first | omega | (simp <;> omega)) _))⟩
set_option maxHeartbeats 4000000 in
theorem ws3 {g n0 e0 n1 e1 n2 e2 : Nat} (f0 : Fl .f32 n0 n0) (h0 : Fl .f32 e0 e0) (f1 : Fl .f32 n1 n1) (h1 : Fl .f32 e1 e1) (f2 : Fl .f32 n2 n2) (h2 : Fl .f32 e2 e2) (v0 : validC n0 e0 = true) (v1 : validC n1 e1 = true) (v2 : validC n2 e2 = true) (w : World) (c0 : w.cell? ⟨g, 0, none⟩ = some (.float .f32 n0)) (c1 : w.cell? ⟨g, 1, none⟩ = some (.float .f32 e0)) (c2 : w.cell? ⟨g, 2, none⟩ = some (.float .f32 n1)) (c3 : w.cell? ⟨g, 3, none⟩ = some (.float .f32 e1)) (c4 : w.cell? ⟨g, 4, none⟩ = some (.float .f32 n2)) (c5 : w.cell? ⟨g, 5, none⟩ = some (.float .f32 e2)) : Calls Tryz.prog 95 #[.slice (some ⟨g, 0, none⟩) 3 3] w (RWs [wxC n0 e0, wyC n0 e0, sineC n0, wxC n1 e1, wyC n1 e1, sineC n1, wxC n2 e2, wyC n2 e2, sineC n2] 3 w) := by
  have KV0 := iValidPlace_any f0 h0
  rw [v0] at KV0
  have HV0 := Hb.mk KV0
  obtain ⟨tn0, te0⟩ := turns_of v0
  have KW0 := Hb.mk (wayOf_any f0 h0 tn0 te0)
  clear tn0 te0
  clear KV0 v0
  have KV1 := iValidPlace_any f1 h1
  rw [v1] at KV1
  have HV1 := Hb.mk KV1
  obtain ⟨tn1, te1⟩ := turns_of v1
  have KW1 := Hb.mk (wayOf_any f1 h1 tn1 te1)
  clear tn1 te1
  clear KV1 v1
  have KV2 := iValidPlace_any f2 h2
  rw [v2] at KV2
  have HV2 := Hb.mk KV2
  obtain ⟨tn2, te2⟩ := turns_of v2
  have KW2 := Hb.mk (wayOf_any f2 h2 tn2 te2)
  clear tn2 te2
  clear KV2 v2
  generalize wxC n0 e0 = x0 at *
  generalize wyC n0 e0 = y0 at *
  generalize sineC n0 = z0 at *
  generalize wxC n1 e1 = x1 at *
  generalize wyC n1 e1 = y1 at *
  generalize sineC n1 = z1 at *
  generalize wxC n2 e2 = x2 at *
  generalize wyC n2 e2 = y2 at *
  generalize sineC n2 = z2 at *
  obtain ⟨i0, hi, hz0, hz1, hz2⟩ := info_parts (P := Tryz.prog) (e := 87) (z := wy 0 0 0) (size := 3) (bytes := 12) (by kernel_rfl)
  have C0 := Hb.mk c0
  have C1 := Hb.mk c1
  have C2 := Hb.mk c2
  have C3 := Hb.mk c3
  have C4 := Hb.mk c4
  have C5 := Hb.mk c5
  clear c0 c1 c2 c3 c4 c5
  go_enter Tryz.func95, Tryz.ntmps95
  go_wp2_with (at_make; refine wpList_make_full _ rfl _ _ 94 rfl w.heap.size 87 i0 _ 3 Tryz.underlying94 hi hz0 hz1 .i64 .i64 _ _ 3 rfl rfl rfl rfl (by rw [hz2]; decide) (by unfold maxLen; omega) (Nat.le_refl _) ?_; intro w0 hown0 hgrow0; simp only [Act.put, List.setIfInBounds_toArray, List.set_cons_succ, List.set_cons_zero])
  have B0 := Hb.mk ((Below.refl w.heap.size w).grown hgrow0 (Nat.le_refl _) (fun k h => by cases h))
  have r0 : w0.cell? ⟨w.heap.size, 0, none⟩ = some (.float .f32 0) := (hown0.cellAt 0 (by decide)).trans (by kernel_rfl)
  have a0 := Hb.mk (At.mk r0 (hown0.frozenAt 0) (block_lt_of_cell r0))
  clear r0
  have r1 : w0.cell? ⟨w.heap.size, 1, none⟩ = some (.float .f32 0) := (hown0.cellAt 1 (by decide)).trans (by kernel_rfl)
  have a1 := Hb.mk (At.mk r1 (hown0.frozenAt 1) (block_lt_of_cell r1))
  clear r1
  have r2 : w0.cell? ⟨w.heap.size, 2, none⟩ = some (.float .f32 0) := (hown0.cellAt 2 (by decide)).trans (by kernel_rfl)
  have a2 := Hb.mk (At.mk r2 (hown0.frozenAt 2) (block_lt_of_cell r2))
  clear r2
  have r3 : w0.cell? ⟨w.heap.size, 3, none⟩ = some (.float .f32 0) := (hown0.cellAt 3 (by decide)).trans (by kernel_rfl)
  have a3 := Hb.mk (At.mk r3 (hown0.frozenAt 3) (block_lt_of_cell r3))
  clear r3
  have r4 : w0.cell? ⟨w.heap.size, 4, none⟩ = some (.float .f32 0) := (hown0.cellAt 4 (by decide)).trans (by kernel_rfl)
  have a4 := Hb.mk (At.mk r4 (hown0.frozenAt 4) (block_lt_of_cell r4))
  clear r4
  have r5 : w0.cell? ⟨w.heap.size, 5, none⟩ = some (.float .f32 0) := (hown0.cellAt 5 (by decide)).trans (by kernel_rfl)
  have a5 := Hb.mk (At.mk r5 (hown0.frozenAt 5) (block_lt_of_cell r5))
  clear r5
  have r6 : w0.cell? ⟨w.heap.size, 6, none⟩ = some (.float .f32 0) := (hown0.cellAt 6 (by decide)).trans (by kernel_rfl)
  have a6 := Hb.mk (At.mk r6 (hown0.frozenAt 6) (block_lt_of_cell r6))
  clear r6
  have r7 : w0.cell? ⟨w.heap.size, 7, none⟩ = some (.float .f32 0) := (hown0.cellAt 7 (by decide)).trans (by kernel_rfl)
  have a7 := Hb.mk (At.mk r7 (hown0.frozenAt 7) (block_lt_of_cell r7))
  clear r7
  have r8 : w0.cell? ⟨w.heap.size, 8, none⟩ = some (.float .f32 0) := (hown0.cellAt 8 (by decide)).trans (by kernel_rfl)
  have a8 := Hb.mk (At.mk r8 (hown0.frozenAt 8) (block_lt_of_cell r8))
  clear r8
  clear hown0 hgrow0
  go_loopw [12] (fun i wr => ∃ m : Nat, m ≤ 3 ∧ i = .int .i64 m ∧ Hb (Below w.heap.size w wr) ∧ Hb (∀ j, j < 9 → At wr ⟨w.heap.size, j, none⟩ (.float .f32 (vals [x0, y0, z0, x1, y1, z1, x2, y2, z2] m j)))) (fun i _ => (3 - (intOf i).toNat))
  case atStart => exact ⟨0, by omega, rfl, B0, ⟨fun j hj => by
    rcases (by omega : j = 0 ∨ j = 1 ∨ j = 2 ∨ j = 3 ∨ j = 4 ∨ j = 5 ∨ j = 6 ∨ j = 7 ∨ j = 8) with rfl | rfl | rfl | rfl | rfl | rfl | rfl | rfl | rfl
    · exact a0.out
    · exact a1.out
    · exact a2.out
    · exact a3.out
    · exact a4.out
    · exact a5.out
    · exact a6.out
    · exact a7.out
    · exact a8.out⟩⟩
  case round =>
    obtain ⟨m, hm, rfl, BR, AR⟩ := hrel
    clear a0 a1 a2 a3 a4 a5 a6 a7 a8 B0
    have s0 := Below.keep BR.out C0.out
    have s1 := Below.keep BR.out C1.out
    have s2 := Below.keep BR.out C2.out
    have s3 := Below.keep BR.out C3.out
    have s4 := Below.keep BR.out C4.out
    have s5 := Below.keep BR.out C5.out
    rcases (by omega : m = 0 ∨ m = 1 ∨ m = 2 ∨ m = 3) with rfl | rfl | rfl | rfl
    · have a0 := Hb.mk (show At wr ⟨w.heap.size, 0, none⟩ (.float .f32 0) from AR.out 0 (by decide)); obtain ⟨a0c, a0z, a0l⟩ := a0.out
      have a1 := Hb.mk (show At wr ⟨w.heap.size, 1, none⟩ (.float .f32 0) from AR.out 1 (by decide)); obtain ⟨a1c, a1z, a1l⟩ := a1.out
      have a2 := Hb.mk (show At wr ⟨w.heap.size, 2, none⟩ (.float .f32 0) from AR.out 2 (by decide)); obtain ⟨a2c, a2z, a2l⟩ := a2.out
      have a3 := Hb.mk (show At wr ⟨w.heap.size, 3, none⟩ (.float .f32 0) from AR.out 3 (by decide)); obtain ⟨a3c, a3z, a3l⟩ := a3.out
      have a4 := Hb.mk (show At wr ⟨w.heap.size, 4, none⟩ (.float .f32 0) from AR.out 4 (by decide)); obtain ⟨a4c, a4z, a4l⟩ := a4.out
      have a5 := Hb.mk (show At wr ⟨w.heap.size, 5, none⟩ (.float .f32 0) from AR.out 5 (by decide)); obtain ⟨a5c, a5z, a5l⟩ := a5.out
      have a6 := Hb.mk (show At wr ⟨w.heap.size, 6, none⟩ (.float .f32 0) from AR.out 6 (by decide)); obtain ⟨a6c, a6z, a6l⟩ := a6.out
      have a7 := Hb.mk (show At wr ⟨w.heap.size, 7, none⟩ (.float .f32 0) from AR.out 7 (by decide)); obtain ⟨a7c, a7z, a7l⟩ := a7.out
      have a8 := Hb.mk (show At wr ⟨w.heap.size, 8, none⟩ (.float .f32 0) from AR.out 8 (by decide)); obtain ⟨a8c, a8z, a8l⟩ := a8.out
      clear AR
      go_wp2_with (first | (go_at_call 26; refine (HV0.out _).mono ?_; rintro ex w1 ⟨rfl, b1⟩; have B1 := Hb.mk (Below.on (B := w.heap.size) (a := w) (by repeat (first | exact BR.out | refine Below.drews ?_ | refine Below.drew ?_ | refine Below.alloc ?_ (by have hq_ := BR.out.size; first | omega | (simp <;> omega)) _ | refine Below.setCell ?_ (by have hq_ := BR.out.size; first | omega | (simp <;> omega)) _)) b1 (by have hq_ := BR.out.size; first | omega | (simp <;> omega))); have p0 := Hb.mk (At.keep b1 (p := ⟨wr.heap.size, 0, none⟩) (v := .float .f32 n0) (by simp [go_sem]) (by simp [go_sem])); obtain ⟨p0c, p0z, p0l⟩ := p0.out; have p1 := Hb.mk (At.keep b1 (p := ⟨wr.heap.size, 1, none⟩) (v := .float .f32 e0) (by simp [go_sem]) (by simp [go_sem])); obtain ⟨p1c, p1z, p1l⟩ := p1.out; have a0 := Hb.mk (At.re a0.out b1 (by first | exact a0c | simp [go_sem, a0c, a0l]) (by first | exact a0z | simp [go_sem, a0z, a0l])); obtain ⟨a0c, a0z, a0l⟩ := a0.out; have a1 := Hb.mk (At.re a1.out b1 (by first | exact a1c | simp [go_sem, a1c, a1l]) (by first | exact a1z | simp [go_sem, a1z, a1l])); obtain ⟨a1c, a1z, a1l⟩ := a1.out; have a2 := Hb.mk (At.re a2.out b1 (by first | exact a2c | simp [go_sem, a2c, a2l]) (by first | exact a2z | simp [go_sem, a2z, a2l])); obtain ⟨a2c, a2z, a2l⟩ := a2.out; have a3 := Hb.mk (At.re a3.out b1 (by first | exact a3c | simp [go_sem, a3c, a3l]) (by first | exact a3z | simp [go_sem, a3z, a3l])); obtain ⟨a3c, a3z, a3l⟩ := a3.out; have a4 := Hb.mk (At.re a4.out b1 (by first | exact a4c | simp [go_sem, a4c, a4l]) (by first | exact a4z | simp [go_sem, a4z, a4l])); obtain ⟨a4c, a4z, a4l⟩ := a4.out; have a5 := Hb.mk (At.re a5.out b1 (by first | exact a5c | simp [go_sem, a5c, a5l]) (by first | exact a5z | simp [go_sem, a5z, a5l])); obtain ⟨a5c, a5z, a5l⟩ := a5.out; have a6 := Hb.mk (At.re a6.out b1 (by first | exact a6c | simp [go_sem, a6c, a6l]) (by first | exact a6z | simp [go_sem, a6z, a6l])); obtain ⟨a6c, a6z, a6l⟩ := a6.out; have a7 := Hb.mk (At.re a7.out b1 (by first | exact a7c | simp [go_sem, a7c, a7l]) (by first | exact a7z | simp [go_sem, a7z, a7l])); obtain ⟨a7c, a7z, a7l⟩ := a7.out; have a8 := Hb.mk (At.re a8.out b1 (by first | exact a8c | simp [go_sem, a8c, a8l]) (by first | exact a8z | simp [go_sem, a8z, a8l])); obtain ⟨a8c, a8z, a8l⟩ := a8.out; clear b1) | (go_at_call 122; refine (KW0.out _).mono ?_; rintro ex w2 ⟨rfl, b2⟩; have B2 := Hb.mk (Below.on (B := w.heap.size) (a := w) (by repeat (first | exact B1.out | refine Below.drews ?_ | refine Below.drew ?_ | refine Below.alloc ?_ (by have hq_ := B1.out.size; first | omega | (simp <;> omega)) _ | refine Below.setCell ?_ (by have hq_ := B1.out.size; first | omega | (simp <;> omega)) _)) b2 (by have hq_ := B1.out.size; first | omega | (simp <;> omega))); have a0 := Hb.mk (At.re a0.out b2 (by first | exact a0c | simp [go_sem, a0c, a0l]) (by first | exact a0z | simp [go_sem, a0z, a0l])); obtain ⟨a0c, a0z, a0l⟩ := a0.out; have a1 := Hb.mk (At.re a1.out b2 (by first | exact a1c | simp [go_sem, a1c, a1l]) (by first | exact a1z | simp [go_sem, a1z, a1l])); obtain ⟨a1c, a1z, a1l⟩ := a1.out; have a2 := Hb.mk (At.re a2.out b2 (by first | exact a2c | simp [go_sem, a2c, a2l]) (by first | exact a2z | simp [go_sem, a2z, a2l])); obtain ⟨a2c, a2z, a2l⟩ := a2.out; have a3 := Hb.mk (At.re a3.out b2 (by first | exact a3c | simp [go_sem, a3c, a3l]) (by first | exact a3z | simp [go_sem, a3z, a3l])); obtain ⟨a3c, a3z, a3l⟩ := a3.out; have a4 := Hb.mk (At.re a4.out b2 (by first | exact a4c | simp [go_sem, a4c, a4l]) (by first | exact a4z | simp [go_sem, a4z, a4l])); obtain ⟨a4c, a4z, a4l⟩ := a4.out; have a5 := Hb.mk (At.re a5.out b2 (by first | exact a5c | simp [go_sem, a5c, a5l]) (by first | exact a5z | simp [go_sem, a5z, a5l])); obtain ⟨a5c, a5z, a5l⟩ := a5.out; have a6 := Hb.mk (At.re a6.out b2 (by first | exact a6c | simp [go_sem, a6c, a6l]) (by first | exact a6z | simp [go_sem, a6z, a6l])); obtain ⟨a6c, a6z, a6l⟩ := a6.out; have a7 := Hb.mk (At.re a7.out b2 (by first | exact a7c | simp [go_sem, a7c, a7l]) (by first | exact a7z | simp [go_sem, a7z, a7l])); obtain ⟨a7c, a7z, a7l⟩ := a7.out; have a8 := Hb.mk (At.re a8.out b2 (by first | exact a8c | simp [go_sem, a8c, a8l]) (by first | exact a8z | simp [go_sem, a8z, a8l])); obtain ⟨a8c, a8z, a8l⟩ := a8.out; clear b2))
      go_roundw
      case rel =>
        refine ⟨1, by omega, rfl, ⟨(by repeat (first | exact Below.refl _ _ | exact B2.out | refine Below.drews ?_ | refine Below.drew ?_ | refine Below.alloc ?_ (by first | omega | (simp <;> omega)) _ | refine Below.setCell ?_ (by first | omega | (simp <;> omega)) _))⟩, ⟨fun j hj => ?_⟩⟩
        rcases (by omega : j = 0 ∨ j = 1 ∨ j = 2 ∨ j = 3 ∨ j = 4 ∨ j = 5 ∨ j = 6 ∨ j = 7 ∨ j = 8) with rfl | rfl | rfl | rfl | rfl | rfl | rfl | rfl | rfl
        · refine (show At _ ⟨w.heap.size, 0, none⟩ (.float .f32 x0) from ⟨by simp [go_sem, a0c], by simp [go_sem, a0z], by simp [a0l]⟩)
        · refine (show At _ ⟨w.heap.size, 1, none⟩ (.float .f32 y0) from ⟨by simp [go_sem, a1c], by simp [go_sem, a1z], by simp [a1l]⟩)
        · refine (show At _ ⟨w.heap.size, 2, none⟩ (.float .f32 z0) from ⟨by simp [go_sem, a2c], by simp [go_sem, a2z], by simp [a2l]⟩)
        · refine (show At _ ⟨w.heap.size, 3, none⟩ (.float .f32 0) from ⟨by simp [go_sem, a3c], by simp [go_sem, a3z], by simp [a3l]⟩)
        · refine (show At _ ⟨w.heap.size, 4, none⟩ (.float .f32 0) from ⟨by simp [go_sem, a4c], by simp [go_sem, a4z], by simp [a4l]⟩)
        · refine (show At _ ⟨w.heap.size, 5, none⟩ (.float .f32 0) from ⟨by simp [go_sem, a5c], by simp [go_sem, a5z], by simp [a5l]⟩)
        · refine (show At _ ⟨w.heap.size, 6, none⟩ (.float .f32 0) from ⟨by simp [go_sem, a6c], by simp [go_sem, a6z], by simp [a6l]⟩)
        · refine (show At _ ⟨w.heap.size, 7, none⟩ (.float .f32 0) from ⟨by simp [go_sem, a7c], by simp [go_sem, a7z], by simp [a7l]⟩)
        · refine (show At _ ⟨w.heap.size, 8, none⟩ (.float .f32 0) from ⟨by simp [go_sem, a8c], by simp [go_sem, a8z], by simp [a8l]⟩)
      case measure => simp [intOf]
    · have a0 := Hb.mk (show At wr ⟨w.heap.size, 0, none⟩ (.float .f32 x0) from AR.out 0 (by decide)); obtain ⟨a0c, a0z, a0l⟩ := a0.out
      have a1 := Hb.mk (show At wr ⟨w.heap.size, 1, none⟩ (.float .f32 y0) from AR.out 1 (by decide)); obtain ⟨a1c, a1z, a1l⟩ := a1.out
      have a2 := Hb.mk (show At wr ⟨w.heap.size, 2, none⟩ (.float .f32 z0) from AR.out 2 (by decide)); obtain ⟨a2c, a2z, a2l⟩ := a2.out
      have a3 := Hb.mk (show At wr ⟨w.heap.size, 3, none⟩ (.float .f32 0) from AR.out 3 (by decide)); obtain ⟨a3c, a3z, a3l⟩ := a3.out
      have a4 := Hb.mk (show At wr ⟨w.heap.size, 4, none⟩ (.float .f32 0) from AR.out 4 (by decide)); obtain ⟨a4c, a4z, a4l⟩ := a4.out
      have a5 := Hb.mk (show At wr ⟨w.heap.size, 5, none⟩ (.float .f32 0) from AR.out 5 (by decide)); obtain ⟨a5c, a5z, a5l⟩ := a5.out
      have a6 := Hb.mk (show At wr ⟨w.heap.size, 6, none⟩ (.float .f32 0) from AR.out 6 (by decide)); obtain ⟨a6c, a6z, a6l⟩ := a6.out
      have a7 := Hb.mk (show At wr ⟨w.heap.size, 7, none⟩ (.float .f32 0) from AR.out 7 (by decide)); obtain ⟨a7c, a7z, a7l⟩ := a7.out
      have a8 := Hb.mk (show At wr ⟨w.heap.size, 8, none⟩ (.float .f32 0) from AR.out 8 (by decide)); obtain ⟨a8c, a8z, a8l⟩ := a8.out
      clear AR
      go_wp2_with (first | (go_at_call 26; refine (HV1.out _).mono ?_; rintro ex w1 ⟨rfl, b1⟩; have B1 := Hb.mk (Below.on (B := w.heap.size) (a := w) (by repeat (first | exact BR.out | refine Below.drews ?_ | refine Below.drew ?_ | refine Below.alloc ?_ (by have hq_ := BR.out.size; first | omega | (simp <;> omega)) _ | refine Below.setCell ?_ (by have hq_ := BR.out.size; first | omega | (simp <;> omega)) _)) b1 (by have hq_ := BR.out.size; first | omega | (simp <;> omega))); have p0 := Hb.mk (At.keep b1 (p := ⟨wr.heap.size, 0, none⟩) (v := .float .f32 n1) (by simp [go_sem]) (by simp [go_sem])); obtain ⟨p0c, p0z, p0l⟩ := p0.out; have p1 := Hb.mk (At.keep b1 (p := ⟨wr.heap.size, 1, none⟩) (v := .float .f32 e1) (by simp [go_sem]) (by simp [go_sem])); obtain ⟨p1c, p1z, p1l⟩ := p1.out; have a0 := Hb.mk (At.re a0.out b1 (by first | exact a0c | simp [go_sem, a0c, a0l]) (by first | exact a0z | simp [go_sem, a0z, a0l])); obtain ⟨a0c, a0z, a0l⟩ := a0.out; have a1 := Hb.mk (At.re a1.out b1 (by first | exact a1c | simp [go_sem, a1c, a1l]) (by first | exact a1z | simp [go_sem, a1z, a1l])); obtain ⟨a1c, a1z, a1l⟩ := a1.out; have a2 := Hb.mk (At.re a2.out b1 (by first | exact a2c | simp [go_sem, a2c, a2l]) (by first | exact a2z | simp [go_sem, a2z, a2l])); obtain ⟨a2c, a2z, a2l⟩ := a2.out; have a3 := Hb.mk (At.re a3.out b1 (by first | exact a3c | simp [go_sem, a3c, a3l]) (by first | exact a3z | simp [go_sem, a3z, a3l])); obtain ⟨a3c, a3z, a3l⟩ := a3.out; have a4 := Hb.mk (At.re a4.out b1 (by first | exact a4c | simp [go_sem, a4c, a4l]) (by first | exact a4z | simp [go_sem, a4z, a4l])); obtain ⟨a4c, a4z, a4l⟩ := a4.out; have a5 := Hb.mk (At.re a5.out b1 (by first | exact a5c | simp [go_sem, a5c, a5l]) (by first | exact a5z | simp [go_sem, a5z, a5l])); obtain ⟨a5c, a5z, a5l⟩ := a5.out; have a6 := Hb.mk (At.re a6.out b1 (by first | exact a6c | simp [go_sem, a6c, a6l]) (by first | exact a6z | simp [go_sem, a6z, a6l])); obtain ⟨a6c, a6z, a6l⟩ := a6.out; have a7 := Hb.mk (At.re a7.out b1 (by first | exact a7c | simp [go_sem, a7c, a7l]) (by first | exact a7z | simp [go_sem, a7z, a7l])); obtain ⟨a7c, a7z, a7l⟩ := a7.out; have a8 := Hb.mk (At.re a8.out b1 (by first | exact a8c | simp [go_sem, a8c, a8l]) (by first | exact a8z | simp [go_sem, a8z, a8l])); obtain ⟨a8c, a8z, a8l⟩ := a8.out; clear b1) | (go_at_call 122; refine (KW1.out _).mono ?_; rintro ex w2 ⟨rfl, b2⟩; have B2 := Hb.mk (Below.on (B := w.heap.size) (a := w) (by repeat (first | exact B1.out | refine Below.drews ?_ | refine Below.drew ?_ | refine Below.alloc ?_ (by have hq_ := B1.out.size; first | omega | (simp <;> omega)) _ | refine Below.setCell ?_ (by have hq_ := B1.out.size; first | omega | (simp <;> omega)) _)) b2 (by have hq_ := B1.out.size; first | omega | (simp <;> omega))); have a0 := Hb.mk (At.re a0.out b2 (by first | exact a0c | simp [go_sem, a0c, a0l]) (by first | exact a0z | simp [go_sem, a0z, a0l])); obtain ⟨a0c, a0z, a0l⟩ := a0.out; have a1 := Hb.mk (At.re a1.out b2 (by first | exact a1c | simp [go_sem, a1c, a1l]) (by first | exact a1z | simp [go_sem, a1z, a1l])); obtain ⟨a1c, a1z, a1l⟩ := a1.out; have a2 := Hb.mk (At.re a2.out b2 (by first | exact a2c | simp [go_sem, a2c, a2l]) (by first | exact a2z | simp [go_sem, a2z, a2l])); obtain ⟨a2c, a2z, a2l⟩ := a2.out; have a3 := Hb.mk (At.re a3.out b2 (by first | exact a3c | simp [go_sem, a3c, a3l]) (by first | exact a3z | simp [go_sem, a3z, a3l])); obtain ⟨a3c, a3z, a3l⟩ := a3.out; have a4 := Hb.mk (At.re a4.out b2 (by first | exact a4c | simp [go_sem, a4c, a4l]) (by first | exact a4z | simp [go_sem, a4z, a4l])); obtain ⟨a4c, a4z, a4l⟩ := a4.out; have a5 := Hb.mk (At.re a5.out b2 (by first | exact a5c | simp [go_sem, a5c, a5l]) (by first | exact a5z | simp [go_sem, a5z, a5l])); obtain ⟨a5c, a5z, a5l⟩ := a5.out; have a6 := Hb.mk (At.re a6.out b2 (by first | exact a6c | simp [go_sem, a6c, a6l]) (by first | exact a6z | simp [go_sem, a6z, a6l])); obtain ⟨a6c, a6z, a6l⟩ := a6.out; have a7 := Hb.mk (At.re a7.out b2 (by first | exact a7c | simp [go_sem, a7c, a7l]) (by first | exact a7z | simp [go_sem, a7z, a7l])); obtain ⟨a7c, a7z, a7l⟩ := a7.out; have a8 := Hb.mk (At.re a8.out b2 (by first | exact a8c | simp [go_sem, a8c, a8l]) (by first | exact a8z | simp [go_sem, a8z, a8l])); obtain ⟨a8c, a8z, a8l⟩ := a8.out; clear b2))
      go_roundw
      case rel =>
        refine ⟨2, by omega, rfl, ⟨(by repeat (first | exact Below.refl _ _ | exact B2.out | refine Below.drews ?_ | refine Below.drew ?_ | refine Below.alloc ?_ (by first | omega | (simp <;> omega)) _ | refine Below.setCell ?_ (by first | omega | (simp <;> omega)) _))⟩, ⟨fun j hj => ?_⟩⟩
        rcases (by omega : j = 0 ∨ j = 1 ∨ j = 2 ∨ j = 3 ∨ j = 4 ∨ j = 5 ∨ j = 6 ∨ j = 7 ∨ j = 8) with rfl | rfl | rfl | rfl | rfl | rfl | rfl | rfl | rfl
        · refine (show At _ ⟨w.heap.size, 0, none⟩ (.float .f32 x0) from ⟨by simp [go_sem, a0c], by simp [go_sem, a0z], by simp [a0l]⟩)
        · refine (show At _ ⟨w.heap.size, 1, none⟩ (.float .f32 y0) from ⟨by simp [go_sem, a1c], by simp [go_sem, a1z], by simp [a1l]⟩)
        · refine (show At _ ⟨w.heap.size, 2, none⟩ (.float .f32 z0) from ⟨by simp [go_sem, a2c], by simp [go_sem, a2z], by simp [a2l]⟩)
        · refine (show At _ ⟨w.heap.size, 3, none⟩ (.float .f32 x1) from ⟨by simp [go_sem, a3c], by simp [go_sem, a3z], by simp [a3l]⟩)
        · refine (show At _ ⟨w.heap.size, 4, none⟩ (.float .f32 y1) from ⟨by simp [go_sem, a4c], by simp [go_sem, a4z], by simp [a4l]⟩)
        · refine (show At _ ⟨w.heap.size, 5, none⟩ (.float .f32 z1) from ⟨by simp [go_sem, a5c], by simp [go_sem, a5z], by simp [a5l]⟩)
        · refine (show At _ ⟨w.heap.size, 6, none⟩ (.float .f32 0) from ⟨by simp [go_sem, a6c], by simp [go_sem, a6z], by simp [a6l]⟩)
        · refine (show At _ ⟨w.heap.size, 7, none⟩ (.float .f32 0) from ⟨by simp [go_sem, a7c], by simp [go_sem, a7z], by simp [a7l]⟩)
        · refine (show At _ ⟨w.heap.size, 8, none⟩ (.float .f32 0) from ⟨by simp [go_sem, a8c], by simp [go_sem, a8z], by simp [a8l]⟩)
      case measure => simp [intOf]
    · have a0 := Hb.mk (show At wr ⟨w.heap.size, 0, none⟩ (.float .f32 x0) from AR.out 0 (by decide)); obtain ⟨a0c, a0z, a0l⟩ := a0.out
      have a1 := Hb.mk (show At wr ⟨w.heap.size, 1, none⟩ (.float .f32 y0) from AR.out 1 (by decide)); obtain ⟨a1c, a1z, a1l⟩ := a1.out
      have a2 := Hb.mk (show At wr ⟨w.heap.size, 2, none⟩ (.float .f32 z0) from AR.out 2 (by decide)); obtain ⟨a2c, a2z, a2l⟩ := a2.out
      have a3 := Hb.mk (show At wr ⟨w.heap.size, 3, none⟩ (.float .f32 x1) from AR.out 3 (by decide)); obtain ⟨a3c, a3z, a3l⟩ := a3.out
      have a4 := Hb.mk (show At wr ⟨w.heap.size, 4, none⟩ (.float .f32 y1) from AR.out 4 (by decide)); obtain ⟨a4c, a4z, a4l⟩ := a4.out
      have a5 := Hb.mk (show At wr ⟨w.heap.size, 5, none⟩ (.float .f32 z1) from AR.out 5 (by decide)); obtain ⟨a5c, a5z, a5l⟩ := a5.out
      have a6 := Hb.mk (show At wr ⟨w.heap.size, 6, none⟩ (.float .f32 0) from AR.out 6 (by decide)); obtain ⟨a6c, a6z, a6l⟩ := a6.out
      have a7 := Hb.mk (show At wr ⟨w.heap.size, 7, none⟩ (.float .f32 0) from AR.out 7 (by decide)); obtain ⟨a7c, a7z, a7l⟩ := a7.out
      have a8 := Hb.mk (show At wr ⟨w.heap.size, 8, none⟩ (.float .f32 0) from AR.out 8 (by decide)); obtain ⟨a8c, a8z, a8l⟩ := a8.out
      clear AR
      go_wp2_with (first | (go_at_call 26; refine (HV2.out _).mono ?_; rintro ex w1 ⟨rfl, b1⟩; have B1 := Hb.mk (Below.on (B := w.heap.size) (a := w) (by repeat (first | exact BR.out | refine Below.drews ?_ | refine Below.drew ?_ | refine Below.alloc ?_ (by have hq_ := BR.out.size; first | omega | (simp <;> omega)) _ | refine Below.setCell ?_ (by have hq_ := BR.out.size; first | omega | (simp <;> omega)) _)) b1 (by have hq_ := BR.out.size; first | omega | (simp <;> omega))); have p0 := Hb.mk (At.keep b1 (p := ⟨wr.heap.size, 0, none⟩) (v := .float .f32 n2) (by simp [go_sem]) (by simp [go_sem])); obtain ⟨p0c, p0z, p0l⟩ := p0.out; have p1 := Hb.mk (At.keep b1 (p := ⟨wr.heap.size, 1, none⟩) (v := .float .f32 e2) (by simp [go_sem]) (by simp [go_sem])); obtain ⟨p1c, p1z, p1l⟩ := p1.out; have a0 := Hb.mk (At.re a0.out b1 (by first | exact a0c | simp [go_sem, a0c, a0l]) (by first | exact a0z | simp [go_sem, a0z, a0l])); obtain ⟨a0c, a0z, a0l⟩ := a0.out; have a1 := Hb.mk (At.re a1.out b1 (by first | exact a1c | simp [go_sem, a1c, a1l]) (by first | exact a1z | simp [go_sem, a1z, a1l])); obtain ⟨a1c, a1z, a1l⟩ := a1.out; have a2 := Hb.mk (At.re a2.out b1 (by first | exact a2c | simp [go_sem, a2c, a2l]) (by first | exact a2z | simp [go_sem, a2z, a2l])); obtain ⟨a2c, a2z, a2l⟩ := a2.out; have a3 := Hb.mk (At.re a3.out b1 (by first | exact a3c | simp [go_sem, a3c, a3l]) (by first | exact a3z | simp [go_sem, a3z, a3l])); obtain ⟨a3c, a3z, a3l⟩ := a3.out; have a4 := Hb.mk (At.re a4.out b1 (by first | exact a4c | simp [go_sem, a4c, a4l]) (by first | exact a4z | simp [go_sem, a4z, a4l])); obtain ⟨a4c, a4z, a4l⟩ := a4.out; have a5 := Hb.mk (At.re a5.out b1 (by first | exact a5c | simp [go_sem, a5c, a5l]) (by first | exact a5z | simp [go_sem, a5z, a5l])); obtain ⟨a5c, a5z, a5l⟩ := a5.out; have a6 := Hb.mk (At.re a6.out b1 (by first | exact a6c | simp [go_sem, a6c, a6l]) (by first | exact a6z | simp [go_sem, a6z, a6l])); obtain ⟨a6c, a6z, a6l⟩ := a6.out; have a7 := Hb.mk (At.re a7.out b1 (by first | exact a7c | simp [go_sem, a7c, a7l]) (by first | exact a7z | simp [go_sem, a7z, a7l])); obtain ⟨a7c, a7z, a7l⟩ := a7.out; have a8 := Hb.mk (At.re a8.out b1 (by first | exact a8c | simp [go_sem, a8c, a8l]) (by first | exact a8z | simp [go_sem, a8z, a8l])); obtain ⟨a8c, a8z, a8l⟩ := a8.out; clear b1) | (go_at_call 122; refine (KW2.out _).mono ?_; rintro ex w2 ⟨rfl, b2⟩; have B2 := Hb.mk (Below.on (B := w.heap.size) (a := w) (by repeat (first | exact B1.out | refine Below.drews ?_ | refine Below.drew ?_ | refine Below.alloc ?_ (by have hq_ := B1.out.size; first | omega | (simp <;> omega)) _ | refine Below.setCell ?_ (by have hq_ := B1.out.size; first | omega | (simp <;> omega)) _)) b2 (by have hq_ := B1.out.size; first | omega | (simp <;> omega))); have a0 := Hb.mk (At.re a0.out b2 (by first | exact a0c | simp [go_sem, a0c, a0l]) (by first | exact a0z | simp [go_sem, a0z, a0l])); obtain ⟨a0c, a0z, a0l⟩ := a0.out; have a1 := Hb.mk (At.re a1.out b2 (by first | exact a1c | simp [go_sem, a1c, a1l]) (by first | exact a1z | simp [go_sem, a1z, a1l])); obtain ⟨a1c, a1z, a1l⟩ := a1.out; have a2 := Hb.mk (At.re a2.out b2 (by first | exact a2c | simp [go_sem, a2c, a2l]) (by first | exact a2z | simp [go_sem, a2z, a2l])); obtain ⟨a2c, a2z, a2l⟩ := a2.out; have a3 := Hb.mk (At.re a3.out b2 (by first | exact a3c | simp [go_sem, a3c, a3l]) (by first | exact a3z | simp [go_sem, a3z, a3l])); obtain ⟨a3c, a3z, a3l⟩ := a3.out; have a4 := Hb.mk (At.re a4.out b2 (by first | exact a4c | simp [go_sem, a4c, a4l]) (by first | exact a4z | simp [go_sem, a4z, a4l])); obtain ⟨a4c, a4z, a4l⟩ := a4.out; have a5 := Hb.mk (At.re a5.out b2 (by first | exact a5c | simp [go_sem, a5c, a5l]) (by first | exact a5z | simp [go_sem, a5z, a5l])); obtain ⟨a5c, a5z, a5l⟩ := a5.out; have a6 := Hb.mk (At.re a6.out b2 (by first | exact a6c | simp [go_sem, a6c, a6l]) (by first | exact a6z | simp [go_sem, a6z, a6l])); obtain ⟨a6c, a6z, a6l⟩ := a6.out; have a7 := Hb.mk (At.re a7.out b2 (by first | exact a7c | simp [go_sem, a7c, a7l]) (by first | exact a7z | simp [go_sem, a7z, a7l])); obtain ⟨a7c, a7z, a7l⟩ := a7.out; have a8 := Hb.mk (At.re a8.out b2 (by first | exact a8c | simp [go_sem, a8c, a8l]) (by first | exact a8z | simp [go_sem, a8z, a8l])); obtain ⟨a8c, a8z, a8l⟩ := a8.out; clear b2))
      go_roundw
      case rel =>
        refine ⟨3, by omega, rfl, ⟨(by repeat (first | exact Below.refl _ _ | exact B2.out | refine Below.drews ?_ | refine Below.drew ?_ | refine Below.alloc ?_ (by first | omega | (simp <;> omega)) _ | refine Below.setCell ?_ (by first | omega | (simp <;> omega)) _))⟩, ⟨fun j hj => ?_⟩⟩
        rcases (by omega : j = 0 ∨ j = 1 ∨ j = 2 ∨ j = 3 ∨ j = 4 ∨ j = 5 ∨ j = 6 ∨ j = 7 ∨ j = 8) with rfl | rfl | rfl | rfl | rfl | rfl | rfl | rfl | rfl
        · refine (show At _ ⟨w.heap.size, 0, none⟩ (.float .f32 x0) from ⟨by simp [go_sem, a0c], by simp [go_sem, a0z], by simp [a0l]⟩)
        · refine (show At _ ⟨w.heap.size, 1, none⟩ (.float .f32 y0) from ⟨by simp [go_sem, a1c], by simp [go_sem, a1z], by simp [a1l]⟩)
        · refine (show At _ ⟨w.heap.size, 2, none⟩ (.float .f32 z0) from ⟨by simp [go_sem, a2c], by simp [go_sem, a2z], by simp [a2l]⟩)
        · refine (show At _ ⟨w.heap.size, 3, none⟩ (.float .f32 x1) from ⟨by simp [go_sem, a3c], by simp [go_sem, a3z], by simp [a3l]⟩)
        · refine (show At _ ⟨w.heap.size, 4, none⟩ (.float .f32 y1) from ⟨by simp [go_sem, a4c], by simp [go_sem, a4z], by simp [a4l]⟩)
        · refine (show At _ ⟨w.heap.size, 5, none⟩ (.float .f32 z1) from ⟨by simp [go_sem, a5c], by simp [go_sem, a5z], by simp [a5l]⟩)
        · refine (show At _ ⟨w.heap.size, 6, none⟩ (.float .f32 x2) from ⟨by simp [go_sem, a6c], by simp [go_sem, a6z], by simp [a6l]⟩)
        · refine (show At _ ⟨w.heap.size, 7, none⟩ (.float .f32 y2) from ⟨by simp [go_sem, a7c], by simp [go_sem, a7z], by simp [a7l]⟩)
        · refine (show At _ ⟨w.heap.size, 8, none⟩ (.float .f32 z2) from ⟨by simp [go_sem, a8c], by simp [go_sem, a8z], by simp [a8l]⟩)
      case measure => simp [intOf]
    · have a0 := Hb.mk (show At wr ⟨w.heap.size, 0, none⟩ (.float .f32 x0) from AR.out 0 (by decide)); obtain ⟨a0c, a0z, a0l⟩ := a0.out
      have a1 := Hb.mk (show At wr ⟨w.heap.size, 1, none⟩ (.float .f32 y0) from AR.out 1 (by decide)); obtain ⟨a1c, a1z, a1l⟩ := a1.out
      have a2 := Hb.mk (show At wr ⟨w.heap.size, 2, none⟩ (.float .f32 z0) from AR.out 2 (by decide)); obtain ⟨a2c, a2z, a2l⟩ := a2.out
      have a3 := Hb.mk (show At wr ⟨w.heap.size, 3, none⟩ (.float .f32 x1) from AR.out 3 (by decide)); obtain ⟨a3c, a3z, a3l⟩ := a3.out
      have a4 := Hb.mk (show At wr ⟨w.heap.size, 4, none⟩ (.float .f32 y1) from AR.out 4 (by decide)); obtain ⟨a4c, a4z, a4l⟩ := a4.out
      have a5 := Hb.mk (show At wr ⟨w.heap.size, 5, none⟩ (.float .f32 z1) from AR.out 5 (by decide)); obtain ⟨a5c, a5z, a5l⟩ := a5.out
      have a6 := Hb.mk (show At wr ⟨w.heap.size, 6, none⟩ (.float .f32 x2) from AR.out 6 (by decide)); obtain ⟨a6c, a6z, a6l⟩ := a6.out
      have a7 := Hb.mk (show At wr ⟨w.heap.size, 7, none⟩ (.float .f32 y2) from AR.out 7 (by decide)); obtain ⟨a7c, a7z, a7l⟩ := a7.out
      have a8 := Hb.mk (show At wr ⟨w.heap.size, 8, none⟩ (.float .f32 z2) from AR.out 8 (by decide)); obtain ⟨a8c, a8z, a8l⟩ := a8.out
      clear AR
      go_wp2
      go_ret2
      refine ⟨rfl, BR.out, a0l, fun j hj => ?_⟩
      rcases (by omega : j = 0 ∨ j = 1 ∨ j = 2 ∨ j = 3 ∨ j = 4 ∨ j = 5 ∨ j = 6 ∨ j = 7 ∨ j = 8) with rfl | rfl | rfl | rfl | rfl | rfl | rfl | rfl | rfl
      · exact a0c
      · exact a1c
      · exact a2c
      · exact a3c
      · exact a4c
      · exact a5c
      · exact a6c
      · exact a7c
      · exact a8c
set_option maxHeartbeats 4000000 in
theorem ws3_no0 {g n0 e0 n1 e1 n2 e2 cn ce : Nat} (f0 : Fl .f32 cn n0) (h0 : Fl .f32 ce e0)   (v0 : validC cn ce = false)   (w : World) (c0 : w.cell? ⟨g, 0, none⟩ = some (.float .f32 n0)) (c1 : w.cell? ⟨g, 1, none⟩ = some (.float .f32 e0)) (c2 : w.cell? ⟨g, 2, none⟩ = some (.float .f32 n1)) (c3 : w.cell? ⟨g, 3, none⟩ = some (.float .f32 e1)) (c4 : w.cell? ⟨g, 4, none⟩ = some (.float .f32 n2)) (c5 : w.cell? ⟨g, 5, none⟩ = some (.float .f32 e2)) : Calls Tryz.prog 95 #[.slice (some ⟨g, 0, none⟩) 3 3] w (RNo w) := by
  have KV0 := iValidPlace_any f0 h0
  rw [v0] at KV0
  have HV0 := Hb.mk KV0
  clear KV0 v0
  obtain ⟨i0, hi, hz0, hz1, hz2⟩ := info_parts (P := Tryz.prog) (e := 87) (z := wy 0 0 0) (size := 3) (bytes := 12) (by kernel_rfl)
  have C0 := Hb.mk c0
  have C1 := Hb.mk c1
  have C2 := Hb.mk c2
  have C3 := Hb.mk c3
  have C4 := Hb.mk c4
  have C5 := Hb.mk c5
  clear c0 c1 c2 c3 c4 c5
  go_enter Tryz.func95, Tryz.ntmps95
  go_wp2_with (at_make; refine wpList_make_full _ rfl _ _ 94 rfl w.heap.size 87 i0 _ 3 Tryz.underlying94 hi hz0 hz1 .i64 .i64 _ _ 3 rfl rfl rfl rfl (by rw [hz2]; decide) (by unfold maxLen; omega) (Nat.le_refl _) ?_; intro w0 hown0 hgrow0; simp only [Act.put, List.setIfInBounds_toArray, List.set_cons_succ, List.set_cons_zero])
  have B0 := Hb.mk ((Below.refl w.heap.size w).grown hgrow0 (Nat.le_refl _) (fun k h => by cases h))
  have r0 : w0.cell? ⟨w.heap.size, 0, none⟩ = some (.float .f32 0) := (hown0.cellAt 0 (by decide)).trans (by kernel_rfl)
  have a0 := Hb.mk (At.mk r0 (hown0.frozenAt 0) (block_lt_of_cell r0))
  clear r0
  have r1 : w0.cell? ⟨w.heap.size, 1, none⟩ = some (.float .f32 0) := (hown0.cellAt 1 (by decide)).trans (by kernel_rfl)
  have a1 := Hb.mk (At.mk r1 (hown0.frozenAt 1) (block_lt_of_cell r1))
  clear r1
  have r2 : w0.cell? ⟨w.heap.size, 2, none⟩ = some (.float .f32 0) := (hown0.cellAt 2 (by decide)).trans (by kernel_rfl)
  have a2 := Hb.mk (At.mk r2 (hown0.frozenAt 2) (block_lt_of_cell r2))
  clear r2
  have r3 : w0.cell? ⟨w.heap.size, 3, none⟩ = some (.float .f32 0) := (hown0.cellAt 3 (by decide)).trans (by kernel_rfl)
  have a3 := Hb.mk (At.mk r3 (hown0.frozenAt 3) (block_lt_of_cell r3))
  clear r3
  have r4 : w0.cell? ⟨w.heap.size, 4, none⟩ = some (.float .f32 0) := (hown0.cellAt 4 (by decide)).trans (by kernel_rfl)
  have a4 := Hb.mk (At.mk r4 (hown0.frozenAt 4) (block_lt_of_cell r4))
  clear r4
  have r5 : w0.cell? ⟨w.heap.size, 5, none⟩ = some (.float .f32 0) := (hown0.cellAt 5 (by decide)).trans (by kernel_rfl)
  have a5 := Hb.mk (At.mk r5 (hown0.frozenAt 5) (block_lt_of_cell r5))
  clear r5
  have r6 : w0.cell? ⟨w.heap.size, 6, none⟩ = some (.float .f32 0) := (hown0.cellAt 6 (by decide)).trans (by kernel_rfl)
  have a6 := Hb.mk (At.mk r6 (hown0.frozenAt 6) (block_lt_of_cell r6))
  clear r6
  have r7 : w0.cell? ⟨w.heap.size, 7, none⟩ = some (.float .f32 0) := (hown0.cellAt 7 (by decide)).trans (by kernel_rfl)
  have a7 := Hb.mk (At.mk r7 (hown0.frozenAt 7) (block_lt_of_cell r7))
  clear r7
  have r8 : w0.cell? ⟨w.heap.size, 8, none⟩ = some (.float .f32 0) := (hown0.cellAt 8 (by decide)).trans (by kernel_rfl)
  have a8 := Hb.mk (At.mk r8 (hown0.frozenAt 8) (block_lt_of_cell r8))
  clear r8
  clear hown0 hgrow0
  go_loopw [12] (fun i wr => ∃ m : Nat, m ≤ 0 ∧ i = .int .i64 m ∧ Hb (Below w.heap.size w wr) ∧ Hb (∀ j, j < 9 → At wr ⟨w.heap.size, j, none⟩ (.float .f32 (vals [0, 0, 0, 0, 0, 0, 0, 0, 0] m j)))) (fun i _ => (3 - (intOf i).toNat))
  case atStart => exact ⟨0, by omega, rfl, B0, ⟨fun j hj => by
    rcases (by omega : j = 0 ∨ j = 1 ∨ j = 2 ∨ j = 3 ∨ j = 4 ∨ j = 5 ∨ j = 6 ∨ j = 7 ∨ j = 8) with rfl | rfl | rfl | rfl | rfl | rfl | rfl | rfl | rfl
    · exact a0.out
    · exact a1.out
    · exact a2.out
    · exact a3.out
    · exact a4.out
    · exact a5.out
    · exact a6.out
    · exact a7.out
    · exact a8.out⟩⟩
  case round =>
    obtain ⟨m, hm, rfl, BR, AR⟩ := hrel
    clear a0 a1 a2 a3 a4 a5 a6 a7 a8 B0
    have s0 := Below.keep BR.out C0.out
    have s1 := Below.keep BR.out C1.out
    have s2 := Below.keep BR.out C2.out
    have s3 := Below.keep BR.out C3.out
    have s4 := Below.keep BR.out C4.out
    have s5 := Below.keep BR.out C5.out
    rcases (by omega : m = 0) with rfl
    · have a0 := Hb.mk (show At wr ⟨w.heap.size, 0, none⟩ (.float .f32 0) from AR.out 0 (by decide)); obtain ⟨a0c, a0z, a0l⟩ := a0.out
      have a1 := Hb.mk (show At wr ⟨w.heap.size, 1, none⟩ (.float .f32 0) from AR.out 1 (by decide)); obtain ⟨a1c, a1z, a1l⟩ := a1.out
      have a2 := Hb.mk (show At wr ⟨w.heap.size, 2, none⟩ (.float .f32 0) from AR.out 2 (by decide)); obtain ⟨a2c, a2z, a2l⟩ := a2.out
      have a3 := Hb.mk (show At wr ⟨w.heap.size, 3, none⟩ (.float .f32 0) from AR.out 3 (by decide)); obtain ⟨a3c, a3z, a3l⟩ := a3.out
      have a4 := Hb.mk (show At wr ⟨w.heap.size, 4, none⟩ (.float .f32 0) from AR.out 4 (by decide)); obtain ⟨a4c, a4z, a4l⟩ := a4.out
      have a5 := Hb.mk (show At wr ⟨w.heap.size, 5, none⟩ (.float .f32 0) from AR.out 5 (by decide)); obtain ⟨a5c, a5z, a5l⟩ := a5.out
      have a6 := Hb.mk (show At wr ⟨w.heap.size, 6, none⟩ (.float .f32 0) from AR.out 6 (by decide)); obtain ⟨a6c, a6z, a6l⟩ := a6.out
      have a7 := Hb.mk (show At wr ⟨w.heap.size, 7, none⟩ (.float .f32 0) from AR.out 7 (by decide)); obtain ⟨a7c, a7z, a7l⟩ := a7.out
      have a8 := Hb.mk (show At wr ⟨w.heap.size, 8, none⟩ (.float .f32 0) from AR.out 8 (by decide)); obtain ⟨a8c, a8z, a8l⟩ := a8.out
      clear AR
      go_wp2_with (first | (go_at_call 26; refine (HV0.out _).mono ?_; rintro ex w1 ⟨rfl, b1⟩; have B1 := Hb.mk (Below.on (B := w.heap.size) (a := w) (by repeat (first | exact BR.out | refine Below.drews ?_ | refine Below.drew ?_ | refine Below.alloc ?_ (by have hq_ := BR.out.size; first | omega | (simp <;> omega)) _ | refine Below.setCell ?_ (by have hq_ := BR.out.size; first | omega | (simp <;> omega)) _)) b1 (by have hq_ := BR.out.size; first | omega | (simp <;> omega))); clear b1))
      go_ret2
      exact ⟨rfl, (by repeat (first | exact Below.refl _ _ | exact B1.out | refine Below.drews ?_ | refine Below.drew ?_ | refine Below.alloc ?_ (by first | omega | (simp <;> omega)) _ | refine Below.setCell ?_ (by first | omega | (simp <;> omega)) _))⟩
set_option maxHeartbeats 4000000 in
theorem ws3_no1 {g n0 e0 n1 e1 n2 e2 cn ce : Nat} (f0 : Fl .f32 n0 n0) (h0 : Fl .f32 e0 e0) (f1 : Fl .f32 cn n1) (h1 : Fl .f32 ce e1)  (v0 : validC n0 e0 = true) (v1 : validC cn ce = false)  (w : World) (c0 : w.cell? ⟨g, 0, none⟩ = some (.float .f32 n0)) (c1 : w.cell? ⟨g, 1, none⟩ = some (.float .f32 e0)) (c2 : w.cell? ⟨g, 2, none⟩ = some (.float .f32 n1)) (c3 : w.cell? ⟨g, 3, none⟩ = some (.float .f32 e1)) (c4 : w.cell? ⟨g, 4, none⟩ = some (.float .f32 n2)) (c5 : w.cell? ⟨g, 5, none⟩ = some (.float .f32 e2)) : Calls Tryz.prog 95 #[.slice (some ⟨g, 0, none⟩) 3 3] w (RNo w) := by
  have KV0 := iValidPlace_any f0 h0
  rw [v0] at KV0
  have HV0 := Hb.mk KV0
  obtain ⟨tn0, te0⟩ := turns_of v0
  have KW0 := Hb.mk (wayOf_any f0 h0 tn0 te0)
  clear tn0 te0
  clear KV0 v0
  have KV1 := iValidPlace_any f1 h1
  rw [v1] at KV1
  have HV1 := Hb.mk KV1
  clear KV1 v1
  generalize wxC n0 e0 = x0 at *
  generalize wyC n0 e0 = y0 at *
  generalize sineC n0 = z0 at *
  obtain ⟨i0, hi, hz0, hz1, hz2⟩ := info_parts (P := Tryz.prog) (e := 87) (z := wy 0 0 0) (size := 3) (bytes := 12) (by kernel_rfl)
  have C0 := Hb.mk c0
  have C1 := Hb.mk c1
  have C2 := Hb.mk c2
  have C3 := Hb.mk c3
  have C4 := Hb.mk c4
  have C5 := Hb.mk c5
  clear c0 c1 c2 c3 c4 c5
  go_enter Tryz.func95, Tryz.ntmps95
  go_wp2_with (at_make; refine wpList_make_full _ rfl _ _ 94 rfl w.heap.size 87 i0 _ 3 Tryz.underlying94 hi hz0 hz1 .i64 .i64 _ _ 3 rfl rfl rfl rfl (by rw [hz2]; decide) (by unfold maxLen; omega) (Nat.le_refl _) ?_; intro w0 hown0 hgrow0; simp only [Act.put, List.setIfInBounds_toArray, List.set_cons_succ, List.set_cons_zero])
  have B0 := Hb.mk ((Below.refl w.heap.size w).grown hgrow0 (Nat.le_refl _) (fun k h => by cases h))
  have r0 : w0.cell? ⟨w.heap.size, 0, none⟩ = some (.float .f32 0) := (hown0.cellAt 0 (by decide)).trans (by kernel_rfl)
  have a0 := Hb.mk (At.mk r0 (hown0.frozenAt 0) (block_lt_of_cell r0))
  clear r0
  have r1 : w0.cell? ⟨w.heap.size, 1, none⟩ = some (.float .f32 0) := (hown0.cellAt 1 (by decide)).trans (by kernel_rfl)
  have a1 := Hb.mk (At.mk r1 (hown0.frozenAt 1) (block_lt_of_cell r1))
  clear r1
  have r2 : w0.cell? ⟨w.heap.size, 2, none⟩ = some (.float .f32 0) := (hown0.cellAt 2 (by decide)).trans (by kernel_rfl)
  have a2 := Hb.mk (At.mk r2 (hown0.frozenAt 2) (block_lt_of_cell r2))
  clear r2
  have r3 : w0.cell? ⟨w.heap.size, 3, none⟩ = some (.float .f32 0) := (hown0.cellAt 3 (by decide)).trans (by kernel_rfl)
  have a3 := Hb.mk (At.mk r3 (hown0.frozenAt 3) (block_lt_of_cell r3))
  clear r3
  have r4 : w0.cell? ⟨w.heap.size, 4, none⟩ = some (.float .f32 0) := (hown0.cellAt 4 (by decide)).trans (by kernel_rfl)
  have a4 := Hb.mk (At.mk r4 (hown0.frozenAt 4) (block_lt_of_cell r4))
  clear r4
  have r5 : w0.cell? ⟨w.heap.size, 5, none⟩ = some (.float .f32 0) := (hown0.cellAt 5 (by decide)).trans (by kernel_rfl)
  have a5 := Hb.mk (At.mk r5 (hown0.frozenAt 5) (block_lt_of_cell r5))
  clear r5
  have r6 : w0.cell? ⟨w.heap.size, 6, none⟩ = some (.float .f32 0) := (hown0.cellAt 6 (by decide)).trans (by kernel_rfl)
  have a6 := Hb.mk (At.mk r6 (hown0.frozenAt 6) (block_lt_of_cell r6))
  clear r6
  have r7 : w0.cell? ⟨w.heap.size, 7, none⟩ = some (.float .f32 0) := (hown0.cellAt 7 (by decide)).trans (by kernel_rfl)
  have a7 := Hb.mk (At.mk r7 (hown0.frozenAt 7) (block_lt_of_cell r7))
  clear r7
  have r8 : w0.cell? ⟨w.heap.size, 8, none⟩ = some (.float .f32 0) := (hown0.cellAt 8 (by decide)).trans (by kernel_rfl)
  have a8 := Hb.mk (At.mk r8 (hown0.frozenAt 8) (block_lt_of_cell r8))
  clear r8
  clear hown0 hgrow0
  go_loopw [12] (fun i wr => ∃ m : Nat, m ≤ 1 ∧ i = .int .i64 m ∧ Hb (Below w.heap.size w wr) ∧ Hb (∀ j, j < 9 → At wr ⟨w.heap.size, j, none⟩ (.float .f32 (vals [x0, y0, z0, 0, 0, 0, 0, 0, 0] m j)))) (fun i _ => (3 - (intOf i).toNat))
  case atStart => exact ⟨0, by omega, rfl, B0, ⟨fun j hj => by
    rcases (by omega : j = 0 ∨ j = 1 ∨ j = 2 ∨ j = 3 ∨ j = 4 ∨ j = 5 ∨ j = 6 ∨ j = 7 ∨ j = 8) with rfl | rfl | rfl | rfl | rfl | rfl | rfl | rfl | rfl
    · exact a0.out
    · exact a1.out
    · exact a2.out
    · exact a3.out
    · exact a4.out
    · exact a5.out
    · exact a6.out
    · exact a7.out
    · exact a8.out⟩⟩
  case round =>
    obtain ⟨m, hm, rfl, BR, AR⟩ := hrel
    clear a0 a1 a2 a3 a4 a5 a6 a7 a8 B0
    have s0 := Below.keep BR.out C0.out
    have s1 := Below.keep BR.out C1.out
    have s2 := Below.keep BR.out C2.out
    have s3 := Below.keep BR.out C3.out
    have s4 := Below.keep BR.out C4.out
    have s5 := Below.keep BR.out C5.out
    rcases (by omega : m = 0 ∨ m = 1) with rfl | rfl
    · have a0 := Hb.mk (show At wr ⟨w.heap.size, 0, none⟩ (.float .f32 0) from AR.out 0 (by decide)); obtain ⟨a0c, a0z, a0l⟩ := a0.out
      have a1 := Hb.mk (show At wr ⟨w.heap.size, 1, none⟩ (.float .f32 0) from AR.out 1 (by decide)); obtain ⟨a1c, a1z, a1l⟩ := a1.out
      have a2 := Hb.mk (show At wr ⟨w.heap.size, 2, none⟩ (.float .f32 0) from AR.out 2 (by decide)); obtain ⟨a2c, a2z, a2l⟩ := a2.out
      have a3 := Hb.mk (show At wr ⟨w.heap.size, 3, none⟩ (.float .f32 0) from AR.out 3 (by decide)); obtain ⟨a3c, a3z, a3l⟩ := a3.out
      have a4 := Hb.mk (show At wr ⟨w.heap.size, 4, none⟩ (.float .f32 0) from AR.out 4 (by decide)); obtain ⟨a4c, a4z, a4l⟩ := a4.out
      have a5 := Hb.mk (show At wr ⟨w.heap.size, 5, none⟩ (.float .f32 0) from AR.out 5 (by decide)); obtain ⟨a5c, a5z, a5l⟩ := a5.out
      have a6 := Hb.mk (show At wr ⟨w.heap.size, 6, none⟩ (.float .f32 0) from AR.out 6 (by decide)); obtain ⟨a6c, a6z, a6l⟩ := a6.out
      have a7 := Hb.mk (show At wr ⟨w.heap.size, 7, none⟩ (.float .f32 0) from AR.out 7 (by decide)); obtain ⟨a7c, a7z, a7l⟩ := a7.out
      have a8 := Hb.mk (show At wr ⟨w.heap.size, 8, none⟩ (.float .f32 0) from AR.out 8 (by decide)); obtain ⟨a8c, a8z, a8l⟩ := a8.out
      clear AR
      go_wp2_with (first | (go_at_call 26; refine (HV0.out _).mono ?_; rintro ex w1 ⟨rfl, b1⟩; have B1 := Hb.mk (Below.on (B := w.heap.size) (a := w) (by repeat (first | exact BR.out | refine Below.drews ?_ | refine Below.drew ?_ | refine Below.alloc ?_ (by have hq_ := BR.out.size; first | omega | (simp <;> omega)) _ | refine Below.setCell ?_ (by have hq_ := BR.out.size; first | omega | (simp <;> omega)) _)) b1 (by have hq_ := BR.out.size; first | omega | (simp <;> omega))); have p0 := Hb.mk (At.keep b1 (p := ⟨wr.heap.size, 0, none⟩) (v := .float .f32 n0) (by simp [go_sem]) (by simp [go_sem])); obtain ⟨p0c, p0z, p0l⟩ := p0.out; have p1 := Hb.mk (At.keep b1 (p := ⟨wr.heap.size, 1, none⟩) (v := .float .f32 e0) (by simp [go_sem]) (by simp [go_sem])); obtain ⟨p1c, p1z, p1l⟩ := p1.out; have a0 := Hb.mk (At.re a0.out b1 (by first | exact a0c | simp [go_sem, a0c, a0l]) (by first | exact a0z | simp [go_sem, a0z, a0l])); obtain ⟨a0c, a0z, a0l⟩ := a0.out; have a1 := Hb.mk (At.re a1.out b1 (by first | exact a1c | simp [go_sem, a1c, a1l]) (by first | exact a1z | simp [go_sem, a1z, a1l])); obtain ⟨a1c, a1z, a1l⟩ := a1.out; have a2 := Hb.mk (At.re a2.out b1 (by first | exact a2c | simp [go_sem, a2c, a2l]) (by first | exact a2z | simp [go_sem, a2z, a2l])); obtain ⟨a2c, a2z, a2l⟩ := a2.out; have a3 := Hb.mk (At.re a3.out b1 (by first | exact a3c | simp [go_sem, a3c, a3l]) (by first | exact a3z | simp [go_sem, a3z, a3l])); obtain ⟨a3c, a3z, a3l⟩ := a3.out; have a4 := Hb.mk (At.re a4.out b1 (by first | exact a4c | simp [go_sem, a4c, a4l]) (by first | exact a4z | simp [go_sem, a4z, a4l])); obtain ⟨a4c, a4z, a4l⟩ := a4.out; have a5 := Hb.mk (At.re a5.out b1 (by first | exact a5c | simp [go_sem, a5c, a5l]) (by first | exact a5z | simp [go_sem, a5z, a5l])); obtain ⟨a5c, a5z, a5l⟩ := a5.out; have a6 := Hb.mk (At.re a6.out b1 (by first | exact a6c | simp [go_sem, a6c, a6l]) (by first | exact a6z | simp [go_sem, a6z, a6l])); obtain ⟨a6c, a6z, a6l⟩ := a6.out; have a7 := Hb.mk (At.re a7.out b1 (by first | exact a7c | simp [go_sem, a7c, a7l]) (by first | exact a7z | simp [go_sem, a7z, a7l])); obtain ⟨a7c, a7z, a7l⟩ := a7.out; have a8 := Hb.mk (At.re a8.out b1 (by first | exact a8c | simp [go_sem, a8c, a8l]) (by first | exact a8z | simp [go_sem, a8z, a8l])); obtain ⟨a8c, a8z, a8l⟩ := a8.out; clear b1) | (go_at_call 122; refine (KW0.out _).mono ?_; rintro ex w2 ⟨rfl, b2⟩; have B2 := Hb.mk (Below.on (B := w.heap.size) (a := w) (by repeat (first | exact B1.out | refine Below.drews ?_ | refine Below.drew ?_ | refine Below.alloc ?_ (by have hq_ := B1.out.size; first | omega | (simp <;> omega)) _ | refine Below.setCell ?_ (by have hq_ := B1.out.size; first | omega | (simp <;> omega)) _)) b2 (by have hq_ := B1.out.size; first | omega | (simp <;> omega))); have a0 := Hb.mk (At.re a0.out b2 (by first | exact a0c | simp [go_sem, a0c, a0l]) (by first | exact a0z | simp [go_sem, a0z, a0l])); obtain ⟨a0c, a0z, a0l⟩ := a0.out; have a1 := Hb.mk (At.re a1.out b2 (by first | exact a1c | simp [go_sem, a1c, a1l]) (by first | exact a1z | simp [go_sem, a1z, a1l])); obtain ⟨a1c, a1z, a1l⟩ := a1.out; have a2 := Hb.mk (At.re a2.out b2 (by first | exact a2c | simp [go_sem, a2c, a2l]) (by first | exact a2z | simp [go_sem, a2z, a2l])); obtain ⟨a2c, a2z, a2l⟩ := a2.out; have a3 := Hb.mk (At.re a3.out b2 (by first | exact a3c | simp [go_sem, a3c, a3l]) (by first | exact a3z | simp [go_sem, a3z, a3l])); obtain ⟨a3c, a3z, a3l⟩ := a3.out; have a4 := Hb.mk (At.re a4.out b2 (by first | exact a4c | simp [go_sem, a4c, a4l]) (by first | exact a4z | simp [go_sem, a4z, a4l])); obtain ⟨a4c, a4z, a4l⟩ := a4.out; have a5 := Hb.mk (At.re a5.out b2 (by first | exact a5c | simp [go_sem, a5c, a5l]) (by first | exact a5z | simp [go_sem, a5z, a5l])); obtain ⟨a5c, a5z, a5l⟩ := a5.out; have a6 := Hb.mk (At.re a6.out b2 (by first | exact a6c | simp [go_sem, a6c, a6l]) (by first | exact a6z | simp [go_sem, a6z, a6l])); obtain ⟨a6c, a6z, a6l⟩ := a6.out; have a7 := Hb.mk (At.re a7.out b2 (by first | exact a7c | simp [go_sem, a7c, a7l]) (by first | exact a7z | simp [go_sem, a7z, a7l])); obtain ⟨a7c, a7z, a7l⟩ := a7.out; have a8 := Hb.mk (At.re a8.out b2 (by first | exact a8c | simp [go_sem, a8c, a8l]) (by first | exact a8z | simp [go_sem, a8z, a8l])); obtain ⟨a8c, a8z, a8l⟩ := a8.out; clear b2))
      go_roundw
      case rel =>
        refine ⟨1, by omega, rfl, ⟨(by repeat (first | exact Below.refl _ _ | exact B2.out | refine Below.drews ?_ | refine Below.drew ?_ | refine Below.alloc ?_ (by first | omega | (simp <;> omega)) _ | refine Below.setCell ?_ (by first | omega | (simp <;> omega)) _))⟩, ⟨fun j hj => ?_⟩⟩
        rcases (by omega : j = 0 ∨ j = 1 ∨ j = 2 ∨ j = 3 ∨ j = 4 ∨ j = 5 ∨ j = 6 ∨ j = 7 ∨ j = 8) with rfl | rfl | rfl | rfl | rfl | rfl | rfl | rfl | rfl
        · refine (show At _ ⟨w.heap.size, 0, none⟩ (.float .f32 x0) from ⟨by simp [go_sem, a0c], by simp [go_sem, a0z], by simp [a0l]⟩)
        · refine (show At _ ⟨w.heap.size, 1, none⟩ (.float .f32 y0) from ⟨by simp [go_sem, a1c], by simp [go_sem, a1z], by simp [a1l]⟩)
        · refine (show At _ ⟨w.heap.size, 2, none⟩ (.float .f32 z0) from ⟨by simp [go_sem, a2c], by simp [go_sem, a2z], by simp [a2l]⟩)
        · refine (show At _ ⟨w.heap.size, 3, none⟩ (.float .f32 0) from ⟨by simp [go_sem, a3c], by simp [go_sem, a3z], by simp [a3l]⟩)
        · refine (show At _ ⟨w.heap.size, 4, none⟩ (.float .f32 0) from ⟨by simp [go_sem, a4c], by simp [go_sem, a4z], by simp [a4l]⟩)
        · refine (show At _ ⟨w.heap.size, 5, none⟩ (.float .f32 0) from ⟨by simp [go_sem, a5c], by simp [go_sem, a5z], by simp [a5l]⟩)
        · refine (show At _ ⟨w.heap.size, 6, none⟩ (.float .f32 0) from ⟨by simp [go_sem, a6c], by simp [go_sem, a6z], by simp [a6l]⟩)
        · refine (show At _ ⟨w.heap.size, 7, none⟩ (.float .f32 0) from ⟨by simp [go_sem, a7c], by simp [go_sem, a7z], by simp [a7l]⟩)
        · refine (show At _ ⟨w.heap.size, 8, none⟩ (.float .f32 0) from ⟨by simp [go_sem, a8c], by simp [go_sem, a8z], by simp [a8l]⟩)
      case measure => simp [intOf]
    · have a0 := Hb.mk (show At wr ⟨w.heap.size, 0, none⟩ (.float .f32 x0) from AR.out 0 (by decide)); obtain ⟨a0c, a0z, a0l⟩ := a0.out
      have a1 := Hb.mk (show At wr ⟨w.heap.size, 1, none⟩ (.float .f32 y0) from AR.out 1 (by decide)); obtain ⟨a1c, a1z, a1l⟩ := a1.out
      have a2 := Hb.mk (show At wr ⟨w.heap.size, 2, none⟩ (.float .f32 z0) from AR.out 2 (by decide)); obtain ⟨a2c, a2z, a2l⟩ := a2.out
      have a3 := Hb.mk (show At wr ⟨w.heap.size, 3, none⟩ (.float .f32 0) from AR.out 3 (by decide)); obtain ⟨a3c, a3z, a3l⟩ := a3.out
      have a4 := Hb.mk (show At wr ⟨w.heap.size, 4, none⟩ (.float .f32 0) from AR.out 4 (by decide)); obtain ⟨a4c, a4z, a4l⟩ := a4.out
      have a5 := Hb.mk (show At wr ⟨w.heap.size, 5, none⟩ (.float .f32 0) from AR.out 5 (by decide)); obtain ⟨a5c, a5z, a5l⟩ := a5.out
      have a6 := Hb.mk (show At wr ⟨w.heap.size, 6, none⟩ (.float .f32 0) from AR.out 6 (by decide)); obtain ⟨a6c, a6z, a6l⟩ := a6.out
      have a7 := Hb.mk (show At wr ⟨w.heap.size, 7, none⟩ (.float .f32 0) from AR.out 7 (by decide)); obtain ⟨a7c, a7z, a7l⟩ := a7.out
      have a8 := Hb.mk (show At wr ⟨w.heap.size, 8, none⟩ (.float .f32 0) from AR.out 8 (by decide)); obtain ⟨a8c, a8z, a8l⟩ := a8.out
      clear AR
      go_wp2_with (first | (go_at_call 26; refine (HV1.out _).mono ?_; rintro ex w1 ⟨rfl, b1⟩; have B1 := Hb.mk (Below.on (B := w.heap.size) (a := w) (by repeat (first | exact BR.out | refine Below.drews ?_ | refine Below.drew ?_ | refine Below.alloc ?_ (by have hq_ := BR.out.size; first | omega | (simp <;> omega)) _ | refine Below.setCell ?_ (by have hq_ := BR.out.size; first | omega | (simp <;> omega)) _)) b1 (by have hq_ := BR.out.size; first | omega | (simp <;> omega))); clear b1))
      go_ret2
      exact ⟨rfl, (by repeat (first | exact Below.refl _ _ | exact B1.out | refine Below.drews ?_ | refine Below.drew ?_ | refine Below.alloc ?_ (by first | omega | (simp <;> omega)) _ | refine Below.setCell ?_ (by first | omega | (simp <;> omega)) _))⟩
set_option maxHeartbeats 4000000 in
theorem ws3_no2 {g n0 e0 n1 e1 n2 e2 cn ce : Nat} (f0 : Fl .f32 n0 n0) (h0 : Fl .f32 e0 e0) (f1 : Fl .f32 n1 n1) (h1 : Fl .f32 e1 e1) (f2 : Fl .f32 cn n2) (h2 : Fl .f32 ce e2) (v0 : validC n0 e0 = true) (v1 : validC n1 e1 = true) (v2 : validC cn ce = false) (w : World) (c0 : w.cell? ⟨g, 0, none⟩ = some (.float .f32 n0)) (c1 : w.cell? ⟨g, 1, none⟩ = some (.float .f32 e0)) (c2 : w.cell? ⟨g, 2, none⟩ = some (.float .f32 n1)) (c3 : w.cell? ⟨g, 3, none⟩ = some (.float .f32 e1)) (c4 : w.cell? ⟨g, 4, none⟩ = some (.float .f32 n2)) (c5 : w.cell? ⟨g, 5, none⟩ = some (.float .f32 e2)) : Calls Tryz.prog 95 #[.slice (some ⟨g, 0, none⟩) 3 3] w (RNo w) := by
  have KV0 := iValidPlace_any f0 h0
  rw [v0] at KV0
  have HV0 := Hb.mk KV0
  obtain ⟨tn0, te0⟩ := turns_of v0
  have KW0 := Hb.mk (wayOf_any f0 h0 tn0 te0)
  clear tn0 te0
  clear KV0 v0
  have KV1 := iValidPlace_any f1 h1
  rw [v1] at KV1
  have HV1 := Hb.mk KV1
  obtain ⟨tn1, te1⟩ := turns_of v1
  have KW1 := Hb.mk (wayOf_any f1 h1 tn1 te1)
  clear tn1 te1
  clear KV1 v1
  have KV2 := iValidPlace_any f2 h2
  rw [v2] at KV2
  have HV2 := Hb.mk KV2
  clear KV2 v2
  generalize wxC n0 e0 = x0 at *
  generalize wyC n0 e0 = y0 at *
  generalize sineC n0 = z0 at *
  generalize wxC n1 e1 = x1 at *
  generalize wyC n1 e1 = y1 at *
  generalize sineC n1 = z1 at *
  obtain ⟨i0, hi, hz0, hz1, hz2⟩ := info_parts (P := Tryz.prog) (e := 87) (z := wy 0 0 0) (size := 3) (bytes := 12) (by kernel_rfl)
  have C0 := Hb.mk c0
  have C1 := Hb.mk c1
  have C2 := Hb.mk c2
  have C3 := Hb.mk c3
  have C4 := Hb.mk c4
  have C5 := Hb.mk c5
  clear c0 c1 c2 c3 c4 c5
  go_enter Tryz.func95, Tryz.ntmps95
  go_wp2_with (at_make; refine wpList_make_full _ rfl _ _ 94 rfl w.heap.size 87 i0 _ 3 Tryz.underlying94 hi hz0 hz1 .i64 .i64 _ _ 3 rfl rfl rfl rfl (by rw [hz2]; decide) (by unfold maxLen; omega) (Nat.le_refl _) ?_; intro w0 hown0 hgrow0; simp only [Act.put, List.setIfInBounds_toArray, List.set_cons_succ, List.set_cons_zero])
  have B0 := Hb.mk ((Below.refl w.heap.size w).grown hgrow0 (Nat.le_refl _) (fun k h => by cases h))
  have r0 : w0.cell? ⟨w.heap.size, 0, none⟩ = some (.float .f32 0) := (hown0.cellAt 0 (by decide)).trans (by kernel_rfl)
  have a0 := Hb.mk (At.mk r0 (hown0.frozenAt 0) (block_lt_of_cell r0))
  clear r0
  have r1 : w0.cell? ⟨w.heap.size, 1, none⟩ = some (.float .f32 0) := (hown0.cellAt 1 (by decide)).trans (by kernel_rfl)
  have a1 := Hb.mk (At.mk r1 (hown0.frozenAt 1) (block_lt_of_cell r1))
  clear r1
  have r2 : w0.cell? ⟨w.heap.size, 2, none⟩ = some (.float .f32 0) := (hown0.cellAt 2 (by decide)).trans (by kernel_rfl)
  have a2 := Hb.mk (At.mk r2 (hown0.frozenAt 2) (block_lt_of_cell r2))
  clear r2
  have r3 : w0.cell? ⟨w.heap.size, 3, none⟩ = some (.float .f32 0) := (hown0.cellAt 3 (by decide)).trans (by kernel_rfl)
  have a3 := Hb.mk (At.mk r3 (hown0.frozenAt 3) (block_lt_of_cell r3))
  clear r3
  have r4 : w0.cell? ⟨w.heap.size, 4, none⟩ = some (.float .f32 0) := (hown0.cellAt 4 (by decide)).trans (by kernel_rfl)
  have a4 := Hb.mk (At.mk r4 (hown0.frozenAt 4) (block_lt_of_cell r4))
  clear r4
  have r5 : w0.cell? ⟨w.heap.size, 5, none⟩ = some (.float .f32 0) := (hown0.cellAt 5 (by decide)).trans (by kernel_rfl)
  have a5 := Hb.mk (At.mk r5 (hown0.frozenAt 5) (block_lt_of_cell r5))
  clear r5
  have r6 : w0.cell? ⟨w.heap.size, 6, none⟩ = some (.float .f32 0) := (hown0.cellAt 6 (by decide)).trans (by kernel_rfl)
  have a6 := Hb.mk (At.mk r6 (hown0.frozenAt 6) (block_lt_of_cell r6))
  clear r6
  have r7 : w0.cell? ⟨w.heap.size, 7, none⟩ = some (.float .f32 0) := (hown0.cellAt 7 (by decide)).trans (by kernel_rfl)
  have a7 := Hb.mk (At.mk r7 (hown0.frozenAt 7) (block_lt_of_cell r7))
  clear r7
  have r8 : w0.cell? ⟨w.heap.size, 8, none⟩ = some (.float .f32 0) := (hown0.cellAt 8 (by decide)).trans (by kernel_rfl)
  have a8 := Hb.mk (At.mk r8 (hown0.frozenAt 8) (block_lt_of_cell r8))
  clear r8
  clear hown0 hgrow0
  go_loopw [12] (fun i wr => ∃ m : Nat, m ≤ 2 ∧ i = .int .i64 m ∧ Hb (Below w.heap.size w wr) ∧ Hb (∀ j, j < 9 → At wr ⟨w.heap.size, j, none⟩ (.float .f32 (vals [x0, y0, z0, x1, y1, z1, 0, 0, 0] m j)))) (fun i _ => (3 - (intOf i).toNat))
  case atStart => exact ⟨0, by omega, rfl, B0, ⟨fun j hj => by
    rcases (by omega : j = 0 ∨ j = 1 ∨ j = 2 ∨ j = 3 ∨ j = 4 ∨ j = 5 ∨ j = 6 ∨ j = 7 ∨ j = 8) with rfl | rfl | rfl | rfl | rfl | rfl | rfl | rfl | rfl
    · exact a0.out
    · exact a1.out
    · exact a2.out
    · exact a3.out
    · exact a4.out
    · exact a5.out
    · exact a6.out
    · exact a7.out
    · exact a8.out⟩⟩
  case round =>
    obtain ⟨m, hm, rfl, BR, AR⟩ := hrel
    clear a0 a1 a2 a3 a4 a5 a6 a7 a8 B0
    have s0 := Below.keep BR.out C0.out
    have s1 := Below.keep BR.out C1.out
    have s2 := Below.keep BR.out C2.out
    have s3 := Below.keep BR.out C3.out
    have s4 := Below.keep BR.out C4.out
    have s5 := Below.keep BR.out C5.out
    rcases (by omega : m = 0 ∨ m = 1 ∨ m = 2) with rfl | rfl | rfl
    · have a0 := Hb.mk (show At wr ⟨w.heap.size, 0, none⟩ (.float .f32 0) from AR.out 0 (by decide)); obtain ⟨a0c, a0z, a0l⟩ := a0.out
      have a1 := Hb.mk (show At wr ⟨w.heap.size, 1, none⟩ (.float .f32 0) from AR.out 1 (by decide)); obtain ⟨a1c, a1z, a1l⟩ := a1.out
      have a2 := Hb.mk (show At wr ⟨w.heap.size, 2, none⟩ (.float .f32 0) from AR.out 2 (by decide)); obtain ⟨a2c, a2z, a2l⟩ := a2.out
      have a3 := Hb.mk (show At wr ⟨w.heap.size, 3, none⟩ (.float .f32 0) from AR.out 3 (by decide)); obtain ⟨a3c, a3z, a3l⟩ := a3.out
      have a4 := Hb.mk (show At wr ⟨w.heap.size, 4, none⟩ (.float .f32 0) from AR.out 4 (by decide)); obtain ⟨a4c, a4z, a4l⟩ := a4.out
      have a5 := Hb.mk (show At wr ⟨w.heap.size, 5, none⟩ (.float .f32 0) from AR.out 5 (by decide)); obtain ⟨a5c, a5z, a5l⟩ := a5.out
      have a6 := Hb.mk (show At wr ⟨w.heap.size, 6, none⟩ (.float .f32 0) from AR.out 6 (by decide)); obtain ⟨a6c, a6z, a6l⟩ := a6.out
      have a7 := Hb.mk (show At wr ⟨w.heap.size, 7, none⟩ (.float .f32 0) from AR.out 7 (by decide)); obtain ⟨a7c, a7z, a7l⟩ := a7.out
      have a8 := Hb.mk (show At wr ⟨w.heap.size, 8, none⟩ (.float .f32 0) from AR.out 8 (by decide)); obtain ⟨a8c, a8z, a8l⟩ := a8.out
      clear AR
      go_wp2_with (first | (go_at_call 26; refine (HV0.out _).mono ?_; rintro ex w1 ⟨rfl, b1⟩; have B1 := Hb.mk (Below.on (B := w.heap.size) (a := w) (by repeat (first | exact BR.out | refine Below.drews ?_ | refine Below.drew ?_ | refine Below.alloc ?_ (by have hq_ := BR.out.size; first | omega | (simp <;> omega)) _ | refine Below.setCell ?_ (by have hq_ := BR.out.size; first | omega | (simp <;> omega)) _)) b1 (by have hq_ := BR.out.size; first | omega | (simp <;> omega))); have p0 := Hb.mk (At.keep b1 (p := ⟨wr.heap.size, 0, none⟩) (v := .float .f32 n0) (by simp [go_sem]) (by simp [go_sem])); obtain ⟨p0c, p0z, p0l⟩ := p0.out; have p1 := Hb.mk (At.keep b1 (p := ⟨wr.heap.size, 1, none⟩) (v := .float .f32 e0) (by simp [go_sem]) (by simp [go_sem])); obtain ⟨p1c, p1z, p1l⟩ := p1.out; have a0 := Hb.mk (At.re a0.out b1 (by first | exact a0c | simp [go_sem, a0c, a0l]) (by first | exact a0z | simp [go_sem, a0z, a0l])); obtain ⟨a0c, a0z, a0l⟩ := a0.out; have a1 := Hb.mk (At.re a1.out b1 (by first | exact a1c | simp [go_sem, a1c, a1l]) (by first | exact a1z | simp [go_sem, a1z, a1l])); obtain ⟨a1c, a1z, a1l⟩ := a1.out; have a2 := Hb.mk (At.re a2.out b1 (by first | exact a2c | simp [go_sem, a2c, a2l]) (by first | exact a2z | simp [go_sem, a2z, a2l])); obtain ⟨a2c, a2z, a2l⟩ := a2.out; have a3 := Hb.mk (At.re a3.out b1 (by first | exact a3c | simp [go_sem, a3c, a3l]) (by first | exact a3z | simp [go_sem, a3z, a3l])); obtain ⟨a3c, a3z, a3l⟩ := a3.out; have a4 := Hb.mk (At.re a4.out b1 (by first | exact a4c | simp [go_sem, a4c, a4l]) (by first | exact a4z | simp [go_sem, a4z, a4l])); obtain ⟨a4c, a4z, a4l⟩ := a4.out; have a5 := Hb.mk (At.re a5.out b1 (by first | exact a5c | simp [go_sem, a5c, a5l]) (by first | exact a5z | simp [go_sem, a5z, a5l])); obtain ⟨a5c, a5z, a5l⟩ := a5.out; have a6 := Hb.mk (At.re a6.out b1 (by first | exact a6c | simp [go_sem, a6c, a6l]) (by first | exact a6z | simp [go_sem, a6z, a6l])); obtain ⟨a6c, a6z, a6l⟩ := a6.out; have a7 := Hb.mk (At.re a7.out b1 (by first | exact a7c | simp [go_sem, a7c, a7l]) (by first | exact a7z | simp [go_sem, a7z, a7l])); obtain ⟨a7c, a7z, a7l⟩ := a7.out; have a8 := Hb.mk (At.re a8.out b1 (by first | exact a8c | simp [go_sem, a8c, a8l]) (by first | exact a8z | simp [go_sem, a8z, a8l])); obtain ⟨a8c, a8z, a8l⟩ := a8.out; clear b1) | (go_at_call 122; refine (KW0.out _).mono ?_; rintro ex w2 ⟨rfl, b2⟩; have B2 := Hb.mk (Below.on (B := w.heap.size) (a := w) (by repeat (first | exact B1.out | refine Below.drews ?_ | refine Below.drew ?_ | refine Below.alloc ?_ (by have hq_ := B1.out.size; first | omega | (simp <;> omega)) _ | refine Below.setCell ?_ (by have hq_ := B1.out.size; first | omega | (simp <;> omega)) _)) b2 (by have hq_ := B1.out.size; first | omega | (simp <;> omega))); have a0 := Hb.mk (At.re a0.out b2 (by first | exact a0c | simp [go_sem, a0c, a0l]) (by first | exact a0z | simp [go_sem, a0z, a0l])); obtain ⟨a0c, a0z, a0l⟩ := a0.out; have a1 := Hb.mk (At.re a1.out b2 (by first | exact a1c | simp [go_sem, a1c, a1l]) (by first | exact a1z | simp [go_sem, a1z, a1l])); obtain ⟨a1c, a1z, a1l⟩ := a1.out; have a2 := Hb.mk (At.re a2.out b2 (by first | exact a2c | simp [go_sem, a2c, a2l]) (by first | exact a2z | simp [go_sem, a2z, a2l])); obtain ⟨a2c, a2z, a2l⟩ := a2.out; have a3 := Hb.mk (At.re a3.out b2 (by first | exact a3c | simp [go_sem, a3c, a3l]) (by first | exact a3z | simp [go_sem, a3z, a3l])); obtain ⟨a3c, a3z, a3l⟩ := a3.out; have a4 := Hb.mk (At.re a4.out b2 (by first | exact a4c | simp [go_sem, a4c, a4l]) (by first | exact a4z | simp [go_sem, a4z, a4l])); obtain ⟨a4c, a4z, a4l⟩ := a4.out; have a5 := Hb.mk (At.re a5.out b2 (by first | exact a5c | simp [go_sem, a5c, a5l]) (by first | exact a5z | simp [go_sem, a5z, a5l])); obtain ⟨a5c, a5z, a5l⟩ := a5.out; have a6 := Hb.mk (At.re a6.out b2 (by first | exact a6c | simp [go_sem, a6c, a6l]) (by first | exact a6z | simp [go_sem, a6z, a6l])); obtain ⟨a6c, a6z, a6l⟩ := a6.out; have a7 := Hb.mk (At.re a7.out b2 (by first | exact a7c | simp [go_sem, a7c, a7l]) (by first | exact a7z | simp [go_sem, a7z, a7l])); obtain ⟨a7c, a7z, a7l⟩ := a7.out; have a8 := Hb.mk (At.re a8.out b2 (by first | exact a8c | simp [go_sem, a8c, a8l]) (by first | exact a8z | simp [go_sem, a8z, a8l])); obtain ⟨a8c, a8z, a8l⟩ := a8.out; clear b2))
      go_roundw
      case rel =>
        refine ⟨1, by omega, rfl, ⟨(by repeat (first | exact Below.refl _ _ | exact B2.out | refine Below.drews ?_ | refine Below.drew ?_ | refine Below.alloc ?_ (by first | omega | (simp <;> omega)) _ | refine Below.setCell ?_ (by first | omega | (simp <;> omega)) _))⟩, ⟨fun j hj => ?_⟩⟩
        rcases (by omega : j = 0 ∨ j = 1 ∨ j = 2 ∨ j = 3 ∨ j = 4 ∨ j = 5 ∨ j = 6 ∨ j = 7 ∨ j = 8) with rfl | rfl | rfl | rfl | rfl | rfl | rfl | rfl | rfl
        · refine (show At _ ⟨w.heap.size, 0, none⟩ (.float .f32 x0) from ⟨by simp [go_sem, a0c], by simp [go_sem, a0z], by simp [a0l]⟩)
        · refine (show At _ ⟨w.heap.size, 1, none⟩ (.float .f32 y0) from ⟨by simp [go_sem, a1c], by simp [go_sem, a1z], by simp [a1l]⟩)
        · refine (show At _ ⟨w.heap.size, 2, none⟩ (.float .f32 z0) from ⟨by simp [go_sem, a2c], by simp [go_sem, a2z], by simp [a2l]⟩)
        · refine (show At _ ⟨w.heap.size, 3, none⟩ (.float .f32 0) from ⟨by simp [go_sem, a3c], by simp [go_sem, a3z], by simp [a3l]⟩)
        · refine (show At _ ⟨w.heap.size, 4, none⟩ (.float .f32 0) from ⟨by simp [go_sem, a4c], by simp [go_sem, a4z], by simp [a4l]⟩)
        · refine (show At _ ⟨w.heap.size, 5, none⟩ (.float .f32 0) from ⟨by simp [go_sem, a5c], by simp [go_sem, a5z], by simp [a5l]⟩)
        · refine (show At _ ⟨w.heap.size, 6, none⟩ (.float .f32 0) from ⟨by simp [go_sem, a6c], by simp [go_sem, a6z], by simp [a6l]⟩)
        · refine (show At _ ⟨w.heap.size, 7, none⟩ (.float .f32 0) from ⟨by simp [go_sem, a7c], by simp [go_sem, a7z], by simp [a7l]⟩)
        · refine (show At _ ⟨w.heap.size, 8, none⟩ (.float .f32 0) from ⟨by simp [go_sem, a8c], by simp [go_sem, a8z], by simp [a8l]⟩)
      case measure => simp [intOf]
    · have a0 := Hb.mk (show At wr ⟨w.heap.size, 0, none⟩ (.float .f32 x0) from AR.out 0 (by decide)); obtain ⟨a0c, a0z, a0l⟩ := a0.out
      have a1 := Hb.mk (show At wr ⟨w.heap.size, 1, none⟩ (.float .f32 y0) from AR.out 1 (by decide)); obtain ⟨a1c, a1z, a1l⟩ := a1.out
      have a2 := Hb.mk (show At wr ⟨w.heap.size, 2, none⟩ (.float .f32 z0) from AR.out 2 (by decide)); obtain ⟨a2c, a2z, a2l⟩ := a2.out
      have a3 := Hb.mk (show At wr ⟨w.heap.size, 3, none⟩ (.float .f32 0) from AR.out 3 (by decide)); obtain ⟨a3c, a3z, a3l⟩ := a3.out
      have a4 := Hb.mk (show At wr ⟨w.heap.size, 4, none⟩ (.float .f32 0) from AR.out 4 (by decide)); obtain ⟨a4c, a4z, a4l⟩ := a4.out
      have a5 := Hb.mk (show At wr ⟨w.heap.size, 5, none⟩ (.float .f32 0) from AR.out 5 (by decide)); obtain ⟨a5c, a5z, a5l⟩ := a5.out
      have a6 := Hb.mk (show At wr ⟨w.heap.size, 6, none⟩ (.float .f32 0) from AR.out 6 (by decide)); obtain ⟨a6c, a6z, a6l⟩ := a6.out
      have a7 := Hb.mk (show At wr ⟨w.heap.size, 7, none⟩ (.float .f32 0) from AR.out 7 (by decide)); obtain ⟨a7c, a7z, a7l⟩ := a7.out
      have a8 := Hb.mk (show At wr ⟨w.heap.size, 8, none⟩ (.float .f32 0) from AR.out 8 (by decide)); obtain ⟨a8c, a8z, a8l⟩ := a8.out
      clear AR
      go_wp2_with (first | (go_at_call 26; refine (HV1.out _).mono ?_; rintro ex w1 ⟨rfl, b1⟩; have B1 := Hb.mk (Below.on (B := w.heap.size) (a := w) (by repeat (first | exact BR.out | refine Below.drews ?_ | refine Below.drew ?_ | refine Below.alloc ?_ (by have hq_ := BR.out.size; first | omega | (simp <;> omega)) _ | refine Below.setCell ?_ (by have hq_ := BR.out.size; first | omega | (simp <;> omega)) _)) b1 (by have hq_ := BR.out.size; first | omega | (simp <;> omega))); have p0 := Hb.mk (At.keep b1 (p := ⟨wr.heap.size, 0, none⟩) (v := .float .f32 n1) (by simp [go_sem]) (by simp [go_sem])); obtain ⟨p0c, p0z, p0l⟩ := p0.out; have p1 := Hb.mk (At.keep b1 (p := ⟨wr.heap.size, 1, none⟩) (v := .float .f32 e1) (by simp [go_sem]) (by simp [go_sem])); obtain ⟨p1c, p1z, p1l⟩ := p1.out; have a0 := Hb.mk (At.re a0.out b1 (by first | exact a0c | simp [go_sem, a0c, a0l]) (by first | exact a0z | simp [go_sem, a0z, a0l])); obtain ⟨a0c, a0z, a0l⟩ := a0.out; have a1 := Hb.mk (At.re a1.out b1 (by first | exact a1c | simp [go_sem, a1c, a1l]) (by first | exact a1z | simp [go_sem, a1z, a1l])); obtain ⟨a1c, a1z, a1l⟩ := a1.out; have a2 := Hb.mk (At.re a2.out b1 (by first | exact a2c | simp [go_sem, a2c, a2l]) (by first | exact a2z | simp [go_sem, a2z, a2l])); obtain ⟨a2c, a2z, a2l⟩ := a2.out; have a3 := Hb.mk (At.re a3.out b1 (by first | exact a3c | simp [go_sem, a3c, a3l]) (by first | exact a3z | simp [go_sem, a3z, a3l])); obtain ⟨a3c, a3z, a3l⟩ := a3.out; have a4 := Hb.mk (At.re a4.out b1 (by first | exact a4c | simp [go_sem, a4c, a4l]) (by first | exact a4z | simp [go_sem, a4z, a4l])); obtain ⟨a4c, a4z, a4l⟩ := a4.out; have a5 := Hb.mk (At.re a5.out b1 (by first | exact a5c | simp [go_sem, a5c, a5l]) (by first | exact a5z | simp [go_sem, a5z, a5l])); obtain ⟨a5c, a5z, a5l⟩ := a5.out; have a6 := Hb.mk (At.re a6.out b1 (by first | exact a6c | simp [go_sem, a6c, a6l]) (by first | exact a6z | simp [go_sem, a6z, a6l])); obtain ⟨a6c, a6z, a6l⟩ := a6.out; have a7 := Hb.mk (At.re a7.out b1 (by first | exact a7c | simp [go_sem, a7c, a7l]) (by first | exact a7z | simp [go_sem, a7z, a7l])); obtain ⟨a7c, a7z, a7l⟩ := a7.out; have a8 := Hb.mk (At.re a8.out b1 (by first | exact a8c | simp [go_sem, a8c, a8l]) (by first | exact a8z | simp [go_sem, a8z, a8l])); obtain ⟨a8c, a8z, a8l⟩ := a8.out; clear b1) | (go_at_call 122; refine (KW1.out _).mono ?_; rintro ex w2 ⟨rfl, b2⟩; have B2 := Hb.mk (Below.on (B := w.heap.size) (a := w) (by repeat (first | exact B1.out | refine Below.drews ?_ | refine Below.drew ?_ | refine Below.alloc ?_ (by have hq_ := B1.out.size; first | omega | (simp <;> omega)) _ | refine Below.setCell ?_ (by have hq_ := B1.out.size; first | omega | (simp <;> omega)) _)) b2 (by have hq_ := B1.out.size; first | omega | (simp <;> omega))); have a0 := Hb.mk (At.re a0.out b2 (by first | exact a0c | simp [go_sem, a0c, a0l]) (by first | exact a0z | simp [go_sem, a0z, a0l])); obtain ⟨a0c, a0z, a0l⟩ := a0.out; have a1 := Hb.mk (At.re a1.out b2 (by first | exact a1c | simp [go_sem, a1c, a1l]) (by first | exact a1z | simp [go_sem, a1z, a1l])); obtain ⟨a1c, a1z, a1l⟩ := a1.out; have a2 := Hb.mk (At.re a2.out b2 (by first | exact a2c | simp [go_sem, a2c, a2l]) (by first | exact a2z | simp [go_sem, a2z, a2l])); obtain ⟨a2c, a2z, a2l⟩ := a2.out; have a3 := Hb.mk (At.re a3.out b2 (by first | exact a3c | simp [go_sem, a3c, a3l]) (by first | exact a3z | simp [go_sem, a3z, a3l])); obtain ⟨a3c, a3z, a3l⟩ := a3.out; have a4 := Hb.mk (At.re a4.out b2 (by first | exact a4c | simp [go_sem, a4c, a4l]) (by first | exact a4z | simp [go_sem, a4z, a4l])); obtain ⟨a4c, a4z, a4l⟩ := a4.out; have a5 := Hb.mk (At.re a5.out b2 (by first | exact a5c | simp [go_sem, a5c, a5l]) (by first | exact a5z | simp [go_sem, a5z, a5l])); obtain ⟨a5c, a5z, a5l⟩ := a5.out; have a6 := Hb.mk (At.re a6.out b2 (by first | exact a6c | simp [go_sem, a6c, a6l]) (by first | exact a6z | simp [go_sem, a6z, a6l])); obtain ⟨a6c, a6z, a6l⟩ := a6.out; have a7 := Hb.mk (At.re a7.out b2 (by first | exact a7c | simp [go_sem, a7c, a7l]) (by first | exact a7z | simp [go_sem, a7z, a7l])); obtain ⟨a7c, a7z, a7l⟩ := a7.out; have a8 := Hb.mk (At.re a8.out b2 (by first | exact a8c | simp [go_sem, a8c, a8l]) (by first | exact a8z | simp [go_sem, a8z, a8l])); obtain ⟨a8c, a8z, a8l⟩ := a8.out; clear b2))
      go_roundw
      case rel =>
        refine ⟨2, by omega, rfl, ⟨(by repeat (first | exact Below.refl _ _ | exact B2.out | refine Below.drews ?_ | refine Below.drew ?_ | refine Below.alloc ?_ (by first | omega | (simp <;> omega)) _ | refine Below.setCell ?_ (by first | omega | (simp <;> omega)) _))⟩, ⟨fun j hj => ?_⟩⟩
        rcases (by omega : j = 0 ∨ j = 1 ∨ j = 2 ∨ j = 3 ∨ j = 4 ∨ j = 5 ∨ j = 6 ∨ j = 7 ∨ j = 8) with rfl | rfl | rfl | rfl | rfl | rfl | rfl | rfl | rfl
        · refine (show At _ ⟨w.heap.size, 0, none⟩ (.float .f32 x0) from ⟨by simp [go_sem, a0c], by simp [go_sem, a0z], by simp [a0l]⟩)
        · refine (show At _ ⟨w.heap.size, 1, none⟩ (.float .f32 y0) from ⟨by simp [go_sem, a1c], by simp [go_sem, a1z], by simp [a1l]⟩)
        · refine (show At _ ⟨w.heap.size, 2, none⟩ (.float .f32 z0) from ⟨by simp [go_sem, a2c], by simp [go_sem, a2z], by simp [a2l]⟩)
        · refine (show At _ ⟨w.heap.size, 3, none⟩ (.float .f32 x1) from ⟨by simp [go_sem, a3c], by simp [go_sem, a3z], by simp [a3l]⟩)
        · refine (show At _ ⟨w.heap.size, 4, none⟩ (.float .f32 y1) from ⟨by simp [go_sem, a4c], by simp [go_sem, a4z], by simp [a4l]⟩)
        · refine (show At _ ⟨w.heap.size, 5, none⟩ (.float .f32 z1) from ⟨by simp [go_sem, a5c], by simp [go_sem, a5z], by simp [a5l]⟩)
        · refine (show At _ ⟨w.heap.size, 6, none⟩ (.float .f32 0) from ⟨by simp [go_sem, a6c], by simp [go_sem, a6z], by simp [a6l]⟩)
        · refine (show At _ ⟨w.heap.size, 7, none⟩ (.float .f32 0) from ⟨by simp [go_sem, a7c], by simp [go_sem, a7z], by simp [a7l]⟩)
        · refine (show At _ ⟨w.heap.size, 8, none⟩ (.float .f32 0) from ⟨by simp [go_sem, a8c], by simp [go_sem, a8z], by simp [a8l]⟩)
      case measure => simp [intOf]
    · have a0 := Hb.mk (show At wr ⟨w.heap.size, 0, none⟩ (.float .f32 x0) from AR.out 0 (by decide)); obtain ⟨a0c, a0z, a0l⟩ := a0.out
      have a1 := Hb.mk (show At wr ⟨w.heap.size, 1, none⟩ (.float .f32 y0) from AR.out 1 (by decide)); obtain ⟨a1c, a1z, a1l⟩ := a1.out
      have a2 := Hb.mk (show At wr ⟨w.heap.size, 2, none⟩ (.float .f32 z0) from AR.out 2 (by decide)); obtain ⟨a2c, a2z, a2l⟩ := a2.out
      have a3 := Hb.mk (show At wr ⟨w.heap.size, 3, none⟩ (.float .f32 x1) from AR.out 3 (by decide)); obtain ⟨a3c, a3z, a3l⟩ := a3.out
      have a4 := Hb.mk (show At wr ⟨w.heap.size, 4, none⟩ (.float .f32 y1) from AR.out 4 (by decide)); obtain ⟨a4c, a4z, a4l⟩ := a4.out
      have a5 := Hb.mk (show At wr ⟨w.heap.size, 5, none⟩ (.float .f32 z1) from AR.out 5 (by decide)); obtain ⟨a5c, a5z, a5l⟩ := a5.out
      have a6 := Hb.mk (show At wr ⟨w.heap.size, 6, none⟩ (.float .f32 0) from AR.out 6 (by decide)); obtain ⟨a6c, a6z, a6l⟩ := a6.out
      have a7 := Hb.mk (show At wr ⟨w.heap.size, 7, none⟩ (.float .f32 0) from AR.out 7 (by decide)); obtain ⟨a7c, a7z, a7l⟩ := a7.out
      have a8 := Hb.mk (show At wr ⟨w.heap.size, 8, none⟩ (.float .f32 0) from AR.out 8 (by decide)); obtain ⟨a8c, a8z, a8l⟩ := a8.out
      clear AR
      go_wp2_with (first | (go_at_call 26; refine (HV2.out _).mono ?_; rintro ex w1 ⟨rfl, b1⟩; have B1 := Hb.mk (Below.on (B := w.heap.size) (a := w) (by repeat (first | exact BR.out | refine Below.drews ?_ | refine Below.drew ?_ | refine Below.alloc ?_ (by have hq_ := BR.out.size; first | omega | (simp <;> omega)) _ | refine Below.setCell ?_ (by have hq_ := BR.out.size; first | omega | (simp <;> omega)) _)) b1 (by have hq_ := BR.out.size; first | omega | (simp <;> omega))); clear b1))
      go_ret2
      exact ⟨rfl, (by repeat (first | exact Below.refl _ _ | exact B1.out | refine Below.drews ?_ | refine Below.drew ?_ | refine Below.alloc ?_ (by first | omega | (simp <;> omega)) _ | refine Below.setCell ?_ (by first | omega | (simp <;> omega)) _))⟩
set_option maxHeartbeats 4000000 in
theorem ws4 {g n0 e0 n1 e1 n2 e2 n3 e3 : Nat} (f0 : Fl .f32 n0 n0) (h0 : Fl .f32 e0 e0) (f1 : Fl .f32 n1 n1) (h1 : Fl .f32 e1 e1) (f2 : Fl .f32 n2 n2) (h2 : Fl .f32 e2 e2) (f3 : Fl .f32 n3 n3) (h3 : Fl .f32 e3 e3) (v0 : validC n0 e0 = true) (v1 : validC n1 e1 = true) (v2 : validC n2 e2 = true) (v3 : validC n3 e3 = true) (w : World) (c0 : w.cell? ⟨g, 0, none⟩ = some (.float .f32 n0)) (c1 : w.cell? ⟨g, 1, none⟩ = some (.float .f32 e0)) (c2 : w.cell? ⟨g, 2, none⟩ = some (.float .f32 n1)) (c3 : w.cell? ⟨g, 3, none⟩ = some (.float .f32 e1)) (c4 : w.cell? ⟨g, 4, none⟩ = some (.float .f32 n2)) (c5 : w.cell? ⟨g, 5, none⟩ = some (.float .f32 e2)) (c6 : w.cell? ⟨g, 6, none⟩ = some (.float .f32 n3)) (c7 : w.cell? ⟨g, 7, none⟩ = some (.float .f32 e3)) : Calls Tryz.prog 95 #[.slice (some ⟨g, 0, none⟩) 4 4] w (RWs [wxC n0 e0, wyC n0 e0, sineC n0, wxC n1 e1, wyC n1 e1, sineC n1, wxC n2 e2, wyC n2 e2, sineC n2, wxC n3 e3, wyC n3 e3, sineC n3] 4 w) := by
  have KV0 := iValidPlace_any f0 h0
  rw [v0] at KV0
  have HV0 := Hb.mk KV0
  obtain ⟨tn0, te0⟩ := turns_of v0
  have KW0 := Hb.mk (wayOf_any f0 h0 tn0 te0)
  clear tn0 te0
  clear KV0 v0
  have KV1 := iValidPlace_any f1 h1
  rw [v1] at KV1
  have HV1 := Hb.mk KV1
  obtain ⟨tn1, te1⟩ := turns_of v1
  have KW1 := Hb.mk (wayOf_any f1 h1 tn1 te1)
  clear tn1 te1
  clear KV1 v1
  have KV2 := iValidPlace_any f2 h2
  rw [v2] at KV2
  have HV2 := Hb.mk KV2
  obtain ⟨tn2, te2⟩ := turns_of v2
  have KW2 := Hb.mk (wayOf_any f2 h2 tn2 te2)
  clear tn2 te2
  clear KV2 v2
  have KV3 := iValidPlace_any f3 h3
  rw [v3] at KV3
  have HV3 := Hb.mk KV3
  obtain ⟨tn3, te3⟩ := turns_of v3
  have KW3 := Hb.mk (wayOf_any f3 h3 tn3 te3)
  clear tn3 te3
  clear KV3 v3
  generalize wxC n0 e0 = x0 at *
  generalize wyC n0 e0 = y0 at *
  generalize sineC n0 = z0 at *
  generalize wxC n1 e1 = x1 at *
  generalize wyC n1 e1 = y1 at *
  generalize sineC n1 = z1 at *
  generalize wxC n2 e2 = x2 at *
  generalize wyC n2 e2 = y2 at *
  generalize sineC n2 = z2 at *
  generalize wxC n3 e3 = x3 at *
  generalize wyC n3 e3 = y3 at *
  generalize sineC n3 = z3 at *
  obtain ⟨i0, hi, hz0, hz1, hz2⟩ := info_parts (P := Tryz.prog) (e := 87) (z := wy 0 0 0) (size := 3) (bytes := 12) (by kernel_rfl)
  have C0 := Hb.mk c0
  have C1 := Hb.mk c1
  have C2 := Hb.mk c2
  have C3 := Hb.mk c3
  have C4 := Hb.mk c4
  have C5 := Hb.mk c5
  have C6 := Hb.mk c6
  have C7 := Hb.mk c7
  clear c0 c1 c2 c3 c4 c5 c6 c7
  go_enter Tryz.func95, Tryz.ntmps95
  go_wp2_with (at_make; refine wpList_make_full _ rfl _ _ 94 rfl w.heap.size 87 i0 _ 3 Tryz.underlying94 hi hz0 hz1 .i64 .i64 _ _ 4 rfl rfl rfl rfl (by rw [hz2]; decide) (by unfold maxLen; omega) (Nat.le_refl _) ?_; intro w0 hown0 hgrow0; simp only [Act.put, List.setIfInBounds_toArray, List.set_cons_succ, List.set_cons_zero])
  have B0 := Hb.mk ((Below.refl w.heap.size w).grown hgrow0 (Nat.le_refl _) (fun k h => by cases h))
  have r0 : w0.cell? ⟨w.heap.size, 0, none⟩ = some (.float .f32 0) := (hown0.cellAt 0 (by decide)).trans (by kernel_rfl)
  have a0 := Hb.mk (At.mk r0 (hown0.frozenAt 0) (block_lt_of_cell r0))
  clear r0
  have r1 : w0.cell? ⟨w.heap.size, 1, none⟩ = some (.float .f32 0) := (hown0.cellAt 1 (by decide)).trans (by kernel_rfl)
  have a1 := Hb.mk (At.mk r1 (hown0.frozenAt 1) (block_lt_of_cell r1))
  clear r1
  have r2 : w0.cell? ⟨w.heap.size, 2, none⟩ = some (.float .f32 0) := (hown0.cellAt 2 (by decide)).trans (by kernel_rfl)
  have a2 := Hb.mk (At.mk r2 (hown0.frozenAt 2) (block_lt_of_cell r2))
  clear r2
  have r3 : w0.cell? ⟨w.heap.size, 3, none⟩ = some (.float .f32 0) := (hown0.cellAt 3 (by decide)).trans (by kernel_rfl)
  have a3 := Hb.mk (At.mk r3 (hown0.frozenAt 3) (block_lt_of_cell r3))
  clear r3
  have r4 : w0.cell? ⟨w.heap.size, 4, none⟩ = some (.float .f32 0) := (hown0.cellAt 4 (by decide)).trans (by kernel_rfl)
  have a4 := Hb.mk (At.mk r4 (hown0.frozenAt 4) (block_lt_of_cell r4))
  clear r4
  have r5 : w0.cell? ⟨w.heap.size, 5, none⟩ = some (.float .f32 0) := (hown0.cellAt 5 (by decide)).trans (by kernel_rfl)
  have a5 := Hb.mk (At.mk r5 (hown0.frozenAt 5) (block_lt_of_cell r5))
  clear r5
  have r6 : w0.cell? ⟨w.heap.size, 6, none⟩ = some (.float .f32 0) := (hown0.cellAt 6 (by decide)).trans (by kernel_rfl)
  have a6 := Hb.mk (At.mk r6 (hown0.frozenAt 6) (block_lt_of_cell r6))
  clear r6
  have r7 : w0.cell? ⟨w.heap.size, 7, none⟩ = some (.float .f32 0) := (hown0.cellAt 7 (by decide)).trans (by kernel_rfl)
  have a7 := Hb.mk (At.mk r7 (hown0.frozenAt 7) (block_lt_of_cell r7))
  clear r7
  have r8 : w0.cell? ⟨w.heap.size, 8, none⟩ = some (.float .f32 0) := (hown0.cellAt 8 (by decide)).trans (by kernel_rfl)
  have a8 := Hb.mk (At.mk r8 (hown0.frozenAt 8) (block_lt_of_cell r8))
  clear r8
  have r9 : w0.cell? ⟨w.heap.size, 9, none⟩ = some (.float .f32 0) := (hown0.cellAt 9 (by decide)).trans (by kernel_rfl)
  have a9 := Hb.mk (At.mk r9 (hown0.frozenAt 9) (block_lt_of_cell r9))
  clear r9
  have r10 : w0.cell? ⟨w.heap.size, 10, none⟩ = some (.float .f32 0) := (hown0.cellAt 10 (by decide)).trans (by kernel_rfl)
  have a10 := Hb.mk (At.mk r10 (hown0.frozenAt 10) (block_lt_of_cell r10))
  clear r10
  have r11 : w0.cell? ⟨w.heap.size, 11, none⟩ = some (.float .f32 0) := (hown0.cellAt 11 (by decide)).trans (by kernel_rfl)
  have a11 := Hb.mk (At.mk r11 (hown0.frozenAt 11) (block_lt_of_cell r11))
  clear r11
  clear hown0 hgrow0
  go_loopw [12] (fun i wr => ∃ m : Nat, m ≤ 4 ∧ i = .int .i64 m ∧ Hb (Below w.heap.size w wr) ∧ Hb (∀ j, j < 12 → At wr ⟨w.heap.size, j, none⟩ (.float .f32 (vals [x0, y0, z0, x1, y1, z1, x2, y2, z2, x3, y3, z3] m j)))) (fun i _ => (4 - (intOf i).toNat))
  case atStart => exact ⟨0, by omega, rfl, B0, ⟨fun j hj => by
    rcases (by omega : j = 0 ∨ j = 1 ∨ j = 2 ∨ j = 3 ∨ j = 4 ∨ j = 5 ∨ j = 6 ∨ j = 7 ∨ j = 8 ∨ j = 9 ∨ j = 10 ∨ j = 11) with rfl | rfl | rfl | rfl | rfl | rfl | rfl | rfl | rfl | rfl | rfl | rfl
    · exact a0.out
    · exact a1.out
    · exact a2.out
    · exact a3.out
    · exact a4.out
    · exact a5.out
    · exact a6.out
    · exact a7.out
    · exact a8.out
    · exact a9.out
    · exact a10.out
    · exact a11.out⟩⟩
  case round =>
    obtain ⟨m, hm, rfl, BR, AR⟩ := hrel
    clear a0 a1 a2 a3 a4 a5 a6 a7 a8 a9 a10 a11 B0
    have s0 := Below.keep BR.out C0.out
    have s1 := Below.keep BR.out C1.out
    have s2 := Below.keep BR.out C2.out
    have s3 := Below.keep BR.out C3.out
    have s4 := Below.keep BR.out C4.out
    have s5 := Below.keep BR.out C5.out
    have s6 := Below.keep BR.out C6.out
    have s7 := Below.keep BR.out C7.out
    rcases (by omega : m = 0 ∨ m = 1 ∨ m = 2 ∨ m = 3 ∨ m = 4) with rfl | rfl | rfl | rfl | rfl
    · have a0 := Hb.mk (show At wr ⟨w.heap.size, 0, none⟩ (.float .f32 0) from AR.out 0 (by decide)); obtain ⟨a0c, a0z, a0l⟩ := a0.out
      have a1 := Hb.mk (show At wr ⟨w.heap.size, 1, none⟩ (.float .f32 0) from AR.out 1 (by decide)); obtain ⟨a1c, a1z, a1l⟩ := a1.out
      have a2 := Hb.mk (show At wr ⟨w.heap.size, 2, none⟩ (.float .f32 0) from AR.out 2 (by decide)); obtain ⟨a2c, a2z, a2l⟩ := a2.out
      have a3 := Hb.mk (show At wr ⟨w.heap.size, 3, none⟩ (.float .f32 0) from AR.out 3 (by decide)); obtain ⟨a3c, a3z, a3l⟩ := a3.out
      have a4 := Hb.mk (show At wr ⟨w.heap.size, 4, none⟩ (.float .f32 0) from AR.out 4 (by decide)); obtain ⟨a4c, a4z, a4l⟩ := a4.out
      have a5 := Hb.mk (show At wr ⟨w.heap.size, 5, none⟩ (.float .f32 0) from AR.out 5 (by decide)); obtain ⟨a5c, a5z, a5l⟩ := a5.out
      have a6 := Hb.mk (show At wr ⟨w.heap.size, 6, none⟩ (.float .f32 0) from AR.out 6 (by decide)); obtain ⟨a6c, a6z, a6l⟩ := a6.out
      have a7 := Hb.mk (show At wr ⟨w.heap.size, 7, none⟩ (.float .f32 0) from AR.out 7 (by decide)); obtain ⟨a7c, a7z, a7l⟩ := a7.out
      have a8 := Hb.mk (show At wr ⟨w.heap.size, 8, none⟩ (.float .f32 0) from AR.out 8 (by decide)); obtain ⟨a8c, a8z, a8l⟩ := a8.out
      have a9 := Hb.mk (show At wr ⟨w.heap.size, 9, none⟩ (.float .f32 0) from AR.out 9 (by decide)); obtain ⟨a9c, a9z, a9l⟩ := a9.out
      have a10 := Hb.mk (show At wr ⟨w.heap.size, 10, none⟩ (.float .f32 0) from AR.out 10 (by decide)); obtain ⟨a10c, a10z, a10l⟩ := a10.out
      have a11 := Hb.mk (show At wr ⟨w.heap.size, 11, none⟩ (.float .f32 0) from AR.out 11 (by decide)); obtain ⟨a11c, a11z, a11l⟩ := a11.out
      clear AR
      go_wp2_with (first | (go_at_call 26; refine (HV0.out _).mono ?_; rintro ex w1 ⟨rfl, b1⟩; have B1 := Hb.mk (Below.on (B := w.heap.size) (a := w) (by repeat (first | exact BR.out | refine Below.drews ?_ | refine Below.drew ?_ | refine Below.alloc ?_ (by have hq_ := BR.out.size; first | omega | (simp <;> omega)) _ | refine Below.setCell ?_ (by have hq_ := BR.out.size; first | omega | (simp <;> omega)) _)) b1 (by have hq_ := BR.out.size; first | omega | (simp <;> omega))); have p0 := Hb.mk (At.keep b1 (p := ⟨wr.heap.size, 0, none⟩) (v := .float .f32 n0) (by simp [go_sem]) (by simp [go_sem])); obtain ⟨p0c, p0z, p0l⟩ := p0.out; have p1 := Hb.mk (At.keep b1 (p := ⟨wr.heap.size, 1, none⟩) (v := .float .f32 e0) (by simp [go_sem]) (by simp [go_sem])); obtain ⟨p1c, p1z, p1l⟩ := p1.out; have a0 := Hb.mk (At.re a0.out b1 (by first | exact a0c | simp [go_sem, a0c, a0l]) (by first | exact a0z | simp [go_sem, a0z, a0l])); obtain ⟨a0c, a0z, a0l⟩ := a0.out; have a1 := Hb.mk (At.re a1.out b1 (by first | exact a1c | simp [go_sem, a1c, a1l]) (by first | exact a1z | simp [go_sem, a1z, a1l])); obtain ⟨a1c, a1z, a1l⟩ := a1.out; have a2 := Hb.mk (At.re a2.out b1 (by first | exact a2c | simp [go_sem, a2c, a2l]) (by first | exact a2z | simp [go_sem, a2z, a2l])); obtain ⟨a2c, a2z, a2l⟩ := a2.out; have a3 := Hb.mk (At.re a3.out b1 (by first | exact a3c | simp [go_sem, a3c, a3l]) (by first | exact a3z | simp [go_sem, a3z, a3l])); obtain ⟨a3c, a3z, a3l⟩ := a3.out; have a4 := Hb.mk (At.re a4.out b1 (by first | exact a4c | simp [go_sem, a4c, a4l]) (by first | exact a4z | simp [go_sem, a4z, a4l])); obtain ⟨a4c, a4z, a4l⟩ := a4.out; have a5 := Hb.mk (At.re a5.out b1 (by first | exact a5c | simp [go_sem, a5c, a5l]) (by first | exact a5z | simp [go_sem, a5z, a5l])); obtain ⟨a5c, a5z, a5l⟩ := a5.out; have a6 := Hb.mk (At.re a6.out b1 (by first | exact a6c | simp [go_sem, a6c, a6l]) (by first | exact a6z | simp [go_sem, a6z, a6l])); obtain ⟨a6c, a6z, a6l⟩ := a6.out; have a7 := Hb.mk (At.re a7.out b1 (by first | exact a7c | simp [go_sem, a7c, a7l]) (by first | exact a7z | simp [go_sem, a7z, a7l])); obtain ⟨a7c, a7z, a7l⟩ := a7.out; have a8 := Hb.mk (At.re a8.out b1 (by first | exact a8c | simp [go_sem, a8c, a8l]) (by first | exact a8z | simp [go_sem, a8z, a8l])); obtain ⟨a8c, a8z, a8l⟩ := a8.out; have a9 := Hb.mk (At.re a9.out b1 (by first | exact a9c | simp [go_sem, a9c, a9l]) (by first | exact a9z | simp [go_sem, a9z, a9l])); obtain ⟨a9c, a9z, a9l⟩ := a9.out; have a10 := Hb.mk (At.re a10.out b1 (by first | exact a10c | simp [go_sem, a10c, a10l]) (by first | exact a10z | simp [go_sem, a10z, a10l])); obtain ⟨a10c, a10z, a10l⟩ := a10.out; have a11 := Hb.mk (At.re a11.out b1 (by first | exact a11c | simp [go_sem, a11c, a11l]) (by first | exact a11z | simp [go_sem, a11z, a11l])); obtain ⟨a11c, a11z, a11l⟩ := a11.out; clear b1) | (go_at_call 122; refine (KW0.out _).mono ?_; rintro ex w2 ⟨rfl, b2⟩; have B2 := Hb.mk (Below.on (B := w.heap.size) (a := w) (by repeat (first | exact B1.out | refine Below.drews ?_ | refine Below.drew ?_ | refine Below.alloc ?_ (by have hq_ := B1.out.size; first | omega | (simp <;> omega)) _ | refine Below.setCell ?_ (by have hq_ := B1.out.size; first | omega | (simp <;> omega)) _)) b2 (by have hq_ := B1.out.size; first | omega | (simp <;> omega))); have a0 := Hb.mk (At.re a0.out b2 (by first | exact a0c | simp [go_sem, a0c, a0l]) (by first | exact a0z | simp [go_sem, a0z, a0l])); obtain ⟨a0c, a0z, a0l⟩ := a0.out; have a1 := Hb.mk (At.re a1.out b2 (by first | exact a1c | simp [go_sem, a1c, a1l]) (by first | exact a1z | simp [go_sem, a1z, a1l])); obtain ⟨a1c, a1z, a1l⟩ := a1.out; have a2 := Hb.mk (At.re a2.out b2 (by first | exact a2c | simp [go_sem, a2c, a2l]) (by first | exact a2z | simp [go_sem, a2z, a2l])); obtain ⟨a2c, a2z, a2l⟩ := a2.out; have a3 := Hb.mk (At.re a3.out b2 (by first | exact a3c | simp [go_sem, a3c, a3l]) (by first | exact a3z | simp [go_sem, a3z, a3l])); obtain ⟨a3c, a3z, a3l⟩ := a3.out; have a4 := Hb.mk (At.re a4.out b2 (by first | exact a4c | simp [go_sem, a4c, a4l]) (by first | exact a4z | simp [go_sem, a4z, a4l])); obtain ⟨a4c, a4z, a4l⟩ := a4.out; have a5 := Hb.mk (At.re a5.out b2 (by first | exact a5c | simp [go_sem, a5c, a5l]) (by first | exact a5z | simp [go_sem, a5z, a5l])); obtain ⟨a5c, a5z, a5l⟩ := a5.out; have a6 := Hb.mk (At.re a6.out b2 (by first | exact a6c | simp [go_sem, a6c, a6l]) (by first | exact a6z | simp [go_sem, a6z, a6l])); obtain ⟨a6c, a6z, a6l⟩ := a6.out; have a7 := Hb.mk (At.re a7.out b2 (by first | exact a7c | simp [go_sem, a7c, a7l]) (by first | exact a7z | simp [go_sem, a7z, a7l])); obtain ⟨a7c, a7z, a7l⟩ := a7.out; have a8 := Hb.mk (At.re a8.out b2 (by first | exact a8c | simp [go_sem, a8c, a8l]) (by first | exact a8z | simp [go_sem, a8z, a8l])); obtain ⟨a8c, a8z, a8l⟩ := a8.out; have a9 := Hb.mk (At.re a9.out b2 (by first | exact a9c | simp [go_sem, a9c, a9l]) (by first | exact a9z | simp [go_sem, a9z, a9l])); obtain ⟨a9c, a9z, a9l⟩ := a9.out; have a10 := Hb.mk (At.re a10.out b2 (by first | exact a10c | simp [go_sem, a10c, a10l]) (by first | exact a10z | simp [go_sem, a10z, a10l])); obtain ⟨a10c, a10z, a10l⟩ := a10.out; have a11 := Hb.mk (At.re a11.out b2 (by first | exact a11c | simp [go_sem, a11c, a11l]) (by first | exact a11z | simp [go_sem, a11z, a11l])); obtain ⟨a11c, a11z, a11l⟩ := a11.out; clear b2))
      go_roundw
      case rel =>
        refine ⟨1, by omega, rfl, ⟨(by repeat (first | exact Below.refl _ _ | exact B2.out | refine Below.drews ?_ | refine Below.drew ?_ | refine Below.alloc ?_ (by first | omega | (simp <;> omega)) _ | refine Below.setCell ?_ (by first | omega | (simp <;> omega)) _))⟩, ⟨fun j hj => ?_⟩⟩
        rcases (by omega : j = 0 ∨ j = 1 ∨ j = 2 ∨ j = 3 ∨ j = 4 ∨ j = 5 ∨ j = 6 ∨ j = 7 ∨ j = 8 ∨ j = 9 ∨ j = 10 ∨ j = 11) with rfl | rfl | rfl | rfl | rfl | rfl | rfl | rfl | rfl | rfl | rfl | rfl
        · refine (show At _ ⟨w.heap.size, 0, none⟩ (.float .f32 x0) from ⟨by simp [go_sem, a0c], by simp [go_sem, a0z], by simp [a0l]⟩)
        · refine (show At _ ⟨w.heap.size, 1, none⟩ (.float .f32 y0) from ⟨by simp [go_sem, a1c], by simp [go_sem, a1z], by simp [a1l]⟩)
        · refine (show At _ ⟨w.heap.size, 2, none⟩ (.float .f32 z0) from ⟨by simp [go_sem, a2c], by simp [go_sem, a2z], by simp [a2l]⟩)
        · refine (show At _ ⟨w.heap.size, 3, none⟩ (.float .f32 0) from ⟨by simp [go_sem, a3c], by simp [go_sem, a3z], by simp [a3l]⟩)
        · refine (show At _ ⟨w.heap.size, 4, none⟩ (.float .f32 0) from ⟨by simp [go_sem, a4c], by simp [go_sem, a4z], by simp [a4l]⟩)
        · refine (show At _ ⟨w.heap.size, 5, none⟩ (.float .f32 0) from ⟨by simp [go_sem, a5c], by simp [go_sem, a5z], by simp [a5l]⟩)
        · refine (show At _ ⟨w.heap.size, 6, none⟩ (.float .f32 0) from ⟨by simp [go_sem, a6c], by simp [go_sem, a6z], by simp [a6l]⟩)
        · refine (show At _ ⟨w.heap.size, 7, none⟩ (.float .f32 0) from ⟨by simp [go_sem, a7c], by simp [go_sem, a7z], by simp [a7l]⟩)
        · refine (show At _ ⟨w.heap.size, 8, none⟩ (.float .f32 0) from ⟨by simp [go_sem, a8c], by simp [go_sem, a8z], by simp [a8l]⟩)
        · refine (show At _ ⟨w.heap.size, 9, none⟩ (.float .f32 0) from ⟨by simp [go_sem, a9c], by simp [go_sem, a9z], by simp [a9l]⟩)
        · refine (show At _ ⟨w.heap.size, 10, none⟩ (.float .f32 0) from ⟨by simp [go_sem, a10c], by simp [go_sem, a10z], by simp [a10l]⟩)
        · refine (show At _ ⟨w.heap.size, 11, none⟩ (.float .f32 0) from ⟨by simp [go_sem, a11c], by simp [go_sem, a11z], by simp [a11l]⟩)
      case measure => simp [intOf]
    · have a0 := Hb.mk (show At wr ⟨w.heap.size, 0, none⟩ (.float .f32 x0) from AR.out 0 (by decide)); obtain ⟨a0c, a0z, a0l⟩ := a0.out
      have a1 := Hb.mk (show At wr ⟨w.heap.size, 1, none⟩ (.float .f32 y0) from AR.out 1 (by decide)); obtain ⟨a1c, a1z, a1l⟩ := a1.out
      have a2 := Hb.mk (show At wr ⟨w.heap.size, 2, none⟩ (.float .f32 z0) from AR.out 2 (by decide)); obtain ⟨a2c, a2z, a2l⟩ := a2.out
      have a3 := Hb.mk (show At wr ⟨w.heap.size, 3, none⟩ (.float .f32 0) from AR.out 3 (by decide)); obtain ⟨a3c, a3z, a3l⟩ := a3.out
      have a4 := Hb.mk (show At wr ⟨w.heap.size, 4, none⟩ (.float .f32 0) from AR.out 4 (by decide)); obtain ⟨a4c, a4z, a4l⟩ := a4.out
      have a5 := Hb.mk (show At wr ⟨w.heap.size, 5, none⟩ (.float .f32 0) from AR.out 5 (by decide)); obtain ⟨a5c, a5z, a5l⟩ := a5.out
      have a6 := Hb.mk (show At wr ⟨w.heap.size, 6, none⟩ (.float .f32 0) from AR.out 6 (by decide)); obtain ⟨a6c, a6z, a6l⟩ := a6.out
      have a7 := Hb.mk (show At wr ⟨w.heap.size, 7, none⟩ (.float .f32 0) from AR.out 7 (by decide)); obtain ⟨a7c, a7z, a7l⟩ := a7.out
      have a8 := Hb.mk (show At wr ⟨w.heap.size, 8, none⟩ (.float .f32 0) from AR.out 8 (by decide)); obtain ⟨a8c, a8z, a8l⟩ := a8.out
      have a9 := Hb.mk (show At wr ⟨w.heap.size, 9, none⟩ (.float .f32 0) from AR.out 9 (by decide)); obtain ⟨a9c, a9z, a9l⟩ := a9.out
      have a10 := Hb.mk (show At wr ⟨w.heap.size, 10, none⟩ (.float .f32 0) from AR.out 10 (by decide)); obtain ⟨a10c, a10z, a10l⟩ := a10.out
      have a11 := Hb.mk (show At wr ⟨w.heap.size, 11, none⟩ (.float .f32 0) from AR.out 11 (by decide)); obtain ⟨a11c, a11z, a11l⟩ := a11.out
      clear AR
      go_wp2_with (first | (go_at_call 26; refine (HV1.out _).mono ?_; rintro ex w1 ⟨rfl, b1⟩; have B1 := Hb.mk (Below.on (B := w.heap.size) (a := w) (by repeat (first | exact BR.out | refine Below.drews ?_ | refine Below.drew ?_ | refine Below.alloc ?_ (by have hq_ := BR.out.size; first | omega | (simp <;> omega)) _ | refine Below.setCell ?_ (by have hq_ := BR.out.size; first | omega | (simp <;> omega)) _)) b1 (by have hq_ := BR.out.size; first | omega | (simp <;> omega))); have p0 := Hb.mk (At.keep b1 (p := ⟨wr.heap.size, 0, none⟩) (v := .float .f32 n1) (by simp [go_sem]) (by simp [go_sem])); obtain ⟨p0c, p0z, p0l⟩ := p0.out; have p1 := Hb.mk (At.keep b1 (p := ⟨wr.heap.size, 1, none⟩) (v := .float .f32 e1) (by simp [go_sem]) (by simp [go_sem])); obtain ⟨p1c, p1z, p1l⟩ := p1.out; have a0 := Hb.mk (At.re a0.out b1 (by first | exact a0c | simp [go_sem, a0c, a0l]) (by first | exact a0z | simp [go_sem, a0z, a0l])); obtain ⟨a0c, a0z, a0l⟩ := a0.out; have a1 := Hb.mk (At.re a1.out b1 (by first | exact a1c | simp [go_sem, a1c, a1l]) (by first | exact a1z | simp [go_sem, a1z, a1l])); obtain ⟨a1c, a1z, a1l⟩ := a1.out; have a2 := Hb.mk (At.re a2.out b1 (by first | exact a2c | simp [go_sem, a2c, a2l]) (by first | exact a2z | simp [go_sem, a2z, a2l])); obtain ⟨a2c, a2z, a2l⟩ := a2.out; have a3 := Hb.mk (At.re a3.out b1 (by first | exact a3c | simp [go_sem, a3c, a3l]) (by first | exact a3z | simp [go_sem, a3z, a3l])); obtain ⟨a3c, a3z, a3l⟩ := a3.out; have a4 := Hb.mk (At.re a4.out b1 (by first | exact a4c | simp [go_sem, a4c, a4l]) (by first | exact a4z | simp [go_sem, a4z, a4l])); obtain ⟨a4c, a4z, a4l⟩ := a4.out; have a5 := Hb.mk (At.re a5.out b1 (by first | exact a5c | simp [go_sem, a5c, a5l]) (by first | exact a5z | simp [go_sem, a5z, a5l])); obtain ⟨a5c, a5z, a5l⟩ := a5.out; have a6 := Hb.mk (At.re a6.out b1 (by first | exact a6c | simp [go_sem, a6c, a6l]) (by first | exact a6z | simp [go_sem, a6z, a6l])); obtain ⟨a6c, a6z, a6l⟩ := a6.out; have a7 := Hb.mk (At.re a7.out b1 (by first | exact a7c | simp [go_sem, a7c, a7l]) (by first | exact a7z | simp [go_sem, a7z, a7l])); obtain ⟨a7c, a7z, a7l⟩ := a7.out; have a8 := Hb.mk (At.re a8.out b1 (by first | exact a8c | simp [go_sem, a8c, a8l]) (by first | exact a8z | simp [go_sem, a8z, a8l])); obtain ⟨a8c, a8z, a8l⟩ := a8.out; have a9 := Hb.mk (At.re a9.out b1 (by first | exact a9c | simp [go_sem, a9c, a9l]) (by first | exact a9z | simp [go_sem, a9z, a9l])); obtain ⟨a9c, a9z, a9l⟩ := a9.out; have a10 := Hb.mk (At.re a10.out b1 (by first | exact a10c | simp [go_sem, a10c, a10l]) (by first | exact a10z | simp [go_sem, a10z, a10l])); obtain ⟨a10c, a10z, a10l⟩ := a10.out; have a11 := Hb.mk (At.re a11.out b1 (by first | exact a11c | simp [go_sem, a11c, a11l]) (by first | exact a11z | simp [go_sem, a11z, a11l])); obtain ⟨a11c, a11z, a11l⟩ := a11.out; clear b1) | (go_at_call 122; refine (KW1.out _).mono ?_; rintro ex w2 ⟨rfl, b2⟩; have B2 := Hb.mk (Below.on (B := w.heap.size) (a := w) (by repeat (first | exact B1.out | refine Below.drews ?_ | refine Below.drew ?_ | refine Below.alloc ?_ (by have hq_ := B1.out.size; first | omega | (simp <;> omega)) _ | refine Below.setCell ?_ (by have hq_ := B1.out.size; first | omega | (simp <;> omega)) _)) b2 (by have hq_ := B1.out.size; first | omega | (simp <;> omega))); have a0 := Hb.mk (At.re a0.out b2 (by first | exact a0c | simp [go_sem, a0c, a0l]) (by first | exact a0z | simp [go_sem, a0z, a0l])); obtain ⟨a0c, a0z, a0l⟩ := a0.out; have a1 := Hb.mk (At.re a1.out b2 (by first | exact a1c | simp [go_sem, a1c, a1l]) (by first | exact a1z | simp [go_sem, a1z, a1l])); obtain ⟨a1c, a1z, a1l⟩ := a1.out; have a2 := Hb.mk (At.re a2.out b2 (by first | exact a2c | simp [go_sem, a2c, a2l]) (by first | exact a2z | simp [go_sem, a2z, a2l])); obtain ⟨a2c, a2z, a2l⟩ := a2.out; have a3 := Hb.mk (At.re a3.out b2 (by first | exact a3c | simp [go_sem, a3c, a3l]) (by first | exact a3z | simp [go_sem, a3z, a3l])); obtain ⟨a3c, a3z, a3l⟩ := a3.out; have a4 := Hb.mk (At.re a4.out b2 (by first | exact a4c | simp [go_sem, a4c, a4l]) (by first | exact a4z | simp [go_sem, a4z, a4l])); obtain ⟨a4c, a4z, a4l⟩ := a4.out; have a5 := Hb.mk (At.re a5.out b2 (by first | exact a5c | simp [go_sem, a5c, a5l]) (by first | exact a5z | simp [go_sem, a5z, a5l])); obtain ⟨a5c, a5z, a5l⟩ := a5.out; have a6 := Hb.mk (At.re a6.out b2 (by first | exact a6c | simp [go_sem, a6c, a6l]) (by first | exact a6z | simp [go_sem, a6z, a6l])); obtain ⟨a6c, a6z, a6l⟩ := a6.out; have a7 := Hb.mk (At.re a7.out b2 (by first | exact a7c | simp [go_sem, a7c, a7l]) (by first | exact a7z | simp [go_sem, a7z, a7l])); obtain ⟨a7c, a7z, a7l⟩ := a7.out; have a8 := Hb.mk (At.re a8.out b2 (by first | exact a8c | simp [go_sem, a8c, a8l]) (by first | exact a8z | simp [go_sem, a8z, a8l])); obtain ⟨a8c, a8z, a8l⟩ := a8.out; have a9 := Hb.mk (At.re a9.out b2 (by first | exact a9c | simp [go_sem, a9c, a9l]) (by first | exact a9z | simp [go_sem, a9z, a9l])); obtain ⟨a9c, a9z, a9l⟩ := a9.out; have a10 := Hb.mk (At.re a10.out b2 (by first | exact a10c | simp [go_sem, a10c, a10l]) (by first | exact a10z | simp [go_sem, a10z, a10l])); obtain ⟨a10c, a10z, a10l⟩ := a10.out; have a11 := Hb.mk (At.re a11.out b2 (by first | exact a11c | simp [go_sem, a11c, a11l]) (by first | exact a11z | simp [go_sem, a11z, a11l])); obtain ⟨a11c, a11z, a11l⟩ := a11.out; clear b2))
      go_roundw
      case rel =>
        refine ⟨2, by omega, rfl, ⟨(by repeat (first | exact Below.refl _ _ | exact B2.out | refine Below.drews ?_ | refine Below.drew ?_ | refine Below.alloc ?_ (by first | omega | (simp <;> omega)) _ | refine Below.setCell ?_ (by first | omega | (simp <;> omega)) _))⟩, ⟨fun j hj => ?_⟩⟩
        rcases (by omega : j = 0 ∨ j = 1 ∨ j = 2 ∨ j = 3 ∨ j = 4 ∨ j = 5 ∨ j = 6 ∨ j = 7 ∨ j = 8 ∨ j = 9 ∨ j = 10 ∨ j = 11) with rfl | rfl | rfl | rfl | rfl | rfl | rfl | rfl | rfl | rfl | rfl | rfl
        · refine (show At _ ⟨w.heap.size, 0, none⟩ (.float .f32 x0) from ⟨by simp [go_sem, a0c], by simp [go_sem, a0z], by simp [a0l]⟩)
        · refine (show At _ ⟨w.heap.size, 1, none⟩ (.float .f32 y0) from ⟨by simp [go_sem, a1c], by simp [go_sem, a1z], by simp [a1l]⟩)
        · refine (show At _ ⟨w.heap.size, 2, none⟩ (.float .f32 z0) from ⟨by simp [go_sem, a2c], by simp [go_sem, a2z], by simp [a2l]⟩)
        · refine (show At _ ⟨w.heap.size, 3, none⟩ (.float .f32 x1) from ⟨by simp [go_sem, a3c], by simp [go_sem, a3z], by simp [a3l]⟩)
        · refine (show At _ ⟨w.heap.size, 4, none⟩ (.float .f32 y1) from ⟨by simp [go_sem, a4c], by simp [go_sem, a4z], by simp [a4l]⟩)
        · refine (show At _ ⟨w.heap.size, 5, none⟩ (.float .f32 z1) from ⟨by simp [go_sem, a5c], by simp [go_sem, a5z], by simp [a5l]⟩)
        · refine (show At _ ⟨w.heap.size, 6, none⟩ (.float .f32 0) from ⟨by simp [go_sem, a6c], by simp [go_sem, a6z], by simp [a6l]⟩)
        · refine (show At _ ⟨w.heap.size, 7, none⟩ (.float .f32 0) from ⟨by simp [go_sem, a7c], by simp [go_sem, a7z], by simp [a7l]⟩)
        · refine (show At _ ⟨w.heap.size, 8, none⟩ (.float .f32 0) from ⟨by simp [go_sem, a8c], by simp [go_sem, a8z], by simp [a8l]⟩)
        · refine (show At _ ⟨w.heap.size, 9, none⟩ (.float .f32 0) from ⟨by simp [go_sem, a9c], by simp [go_sem, a9z], by simp [a9l]⟩)
        · refine (show At _ ⟨w.heap.size, 10, none⟩ (.float .f32 0) from ⟨by simp [go_sem, a10c], by simp [go_sem, a10z], by simp [a10l]⟩)
        · refine (show At _ ⟨w.heap.size, 11, none⟩ (.float .f32 0) from ⟨by simp [go_sem, a11c], by simp [go_sem, a11z], by simp [a11l]⟩)
      case measure => simp [intOf]
    · have a0 := Hb.mk (show At wr ⟨w.heap.size, 0, none⟩ (.float .f32 x0) from AR.out 0 (by decide)); obtain ⟨a0c, a0z, a0l⟩ := a0.out
      have a1 := Hb.mk (show At wr ⟨w.heap.size, 1, none⟩ (.float .f32 y0) from AR.out 1 (by decide)); obtain ⟨a1c, a1z, a1l⟩ := a1.out
      have a2 := Hb.mk (show At wr ⟨w.heap.size, 2, none⟩ (.float .f32 z0) from AR.out 2 (by decide)); obtain ⟨a2c, a2z, a2l⟩ := a2.out
      have a3 := Hb.mk (show At wr ⟨w.heap.size, 3, none⟩ (.float .f32 x1) from AR.out 3 (by decide)); obtain ⟨a3c, a3z, a3l⟩ := a3.out
      have a4 := Hb.mk (show At wr ⟨w.heap.size, 4, none⟩ (.float .f32 y1) from AR.out 4 (by decide)); obtain ⟨a4c, a4z, a4l⟩ := a4.out
      have a5 := Hb.mk (show At wr ⟨w.heap.size, 5, none⟩ (.float .f32 z1) from AR.out 5 (by decide)); obtain ⟨a5c, a5z, a5l⟩ := a5.out
      have a6 := Hb.mk (show At wr ⟨w.heap.size, 6, none⟩ (.float .f32 0) from AR.out 6 (by decide)); obtain ⟨a6c, a6z, a6l⟩ := a6.out
      have a7 := Hb.mk (show At wr ⟨w.heap.size, 7, none⟩ (.float .f32 0) from AR.out 7 (by decide)); obtain ⟨a7c, a7z, a7l⟩ := a7.out
      have a8 := Hb.mk (show At wr ⟨w.heap.size, 8, none⟩ (.float .f32 0) from AR.out 8 (by decide)); obtain ⟨a8c, a8z, a8l⟩ := a8.out
      have a9 := Hb.mk (show At wr ⟨w.heap.size, 9, none⟩ (.float .f32 0) from AR.out 9 (by decide)); obtain ⟨a9c, a9z, a9l⟩ := a9.out
      have a10 := Hb.mk (show At wr ⟨w.heap.size, 10, none⟩ (.float .f32 0) from AR.out 10 (by decide)); obtain ⟨a10c, a10z, a10l⟩ := a10.out
      have a11 := Hb.mk (show At wr ⟨w.heap.size, 11, none⟩ (.float .f32 0) from AR.out 11 (by decide)); obtain ⟨a11c, a11z, a11l⟩ := a11.out
      clear AR
      go_wp2_with (first | (go_at_call 26; refine (HV2.out _).mono ?_; rintro ex w1 ⟨rfl, b1⟩; have B1 := Hb.mk (Below.on (B := w.heap.size) (a := w) (by repeat (first | exact BR.out | refine Below.drews ?_ | refine Below.drew ?_ | refine Below.alloc ?_ (by have hq_ := BR.out.size; first | omega | (simp <;> omega)) _ | refine Below.setCell ?_ (by have hq_ := BR.out.size; first | omega | (simp <;> omega)) _)) b1 (by have hq_ := BR.out.size; first | omega | (simp <;> omega))); have p0 := Hb.mk (At.keep b1 (p := ⟨wr.heap.size, 0, none⟩) (v := .float .f32 n2) (by simp [go_sem]) (by simp [go_sem])); obtain ⟨p0c, p0z, p0l⟩ := p0.out; have p1 := Hb.mk (At.keep b1 (p := ⟨wr.heap.size, 1, none⟩) (v := .float .f32 e2) (by simp [go_sem]) (by simp [go_sem])); obtain ⟨p1c, p1z, p1l⟩ := p1.out; have a0 := Hb.mk (At.re a0.out b1 (by first | exact a0c | simp [go_sem, a0c, a0l]) (by first | exact a0z | simp [go_sem, a0z, a0l])); obtain ⟨a0c, a0z, a0l⟩ := a0.out; have a1 := Hb.mk (At.re a1.out b1 (by first | exact a1c | simp [go_sem, a1c, a1l]) (by first | exact a1z | simp [go_sem, a1z, a1l])); obtain ⟨a1c, a1z, a1l⟩ := a1.out; have a2 := Hb.mk (At.re a2.out b1 (by first | exact a2c | simp [go_sem, a2c, a2l]) (by first | exact a2z | simp [go_sem, a2z, a2l])); obtain ⟨a2c, a2z, a2l⟩ := a2.out; have a3 := Hb.mk (At.re a3.out b1 (by first | exact a3c | simp [go_sem, a3c, a3l]) (by first | exact a3z | simp [go_sem, a3z, a3l])); obtain ⟨a3c, a3z, a3l⟩ := a3.out; have a4 := Hb.mk (At.re a4.out b1 (by first | exact a4c | simp [go_sem, a4c, a4l]) (by first | exact a4z | simp [go_sem, a4z, a4l])); obtain ⟨a4c, a4z, a4l⟩ := a4.out; have a5 := Hb.mk (At.re a5.out b1 (by first | exact a5c | simp [go_sem, a5c, a5l]) (by first | exact a5z | simp [go_sem, a5z, a5l])); obtain ⟨a5c, a5z, a5l⟩ := a5.out; have a6 := Hb.mk (At.re a6.out b1 (by first | exact a6c | simp [go_sem, a6c, a6l]) (by first | exact a6z | simp [go_sem, a6z, a6l])); obtain ⟨a6c, a6z, a6l⟩ := a6.out; have a7 := Hb.mk (At.re a7.out b1 (by first | exact a7c | simp [go_sem, a7c, a7l]) (by first | exact a7z | simp [go_sem, a7z, a7l])); obtain ⟨a7c, a7z, a7l⟩ := a7.out; have a8 := Hb.mk (At.re a8.out b1 (by first | exact a8c | simp [go_sem, a8c, a8l]) (by first | exact a8z | simp [go_sem, a8z, a8l])); obtain ⟨a8c, a8z, a8l⟩ := a8.out; have a9 := Hb.mk (At.re a9.out b1 (by first | exact a9c | simp [go_sem, a9c, a9l]) (by first | exact a9z | simp [go_sem, a9z, a9l])); obtain ⟨a9c, a9z, a9l⟩ := a9.out; have a10 := Hb.mk (At.re a10.out b1 (by first | exact a10c | simp [go_sem, a10c, a10l]) (by first | exact a10z | simp [go_sem, a10z, a10l])); obtain ⟨a10c, a10z, a10l⟩ := a10.out; have a11 := Hb.mk (At.re a11.out b1 (by first | exact a11c | simp [go_sem, a11c, a11l]) (by first | exact a11z | simp [go_sem, a11z, a11l])); obtain ⟨a11c, a11z, a11l⟩ := a11.out; clear b1) | (go_at_call 122; refine (KW2.out _).mono ?_; rintro ex w2 ⟨rfl, b2⟩; have B2 := Hb.mk (Below.on (B := w.heap.size) (a := w) (by repeat (first | exact B1.out | refine Below.drews ?_ | refine Below.drew ?_ | refine Below.alloc ?_ (by have hq_ := B1.out.size; first | omega | (simp <;> omega)) _ | refine Below.setCell ?_ (by have hq_ := B1.out.size; first | omega | (simp <;> omega)) _)) b2 (by have hq_ := B1.out.size; first | omega | (simp <;> omega))); have a0 := Hb.mk (At.re a0.out b2 (by first | exact a0c | simp [go_sem, a0c, a0l]) (by first | exact a0z | simp [go_sem, a0z, a0l])); obtain ⟨a0c, a0z, a0l⟩ := a0.out; have a1 := Hb.mk (At.re a1.out b2 (by first | exact a1c | simp [go_sem, a1c, a1l]) (by first | exact a1z | simp [go_sem, a1z, a1l])); obtain ⟨a1c, a1z, a1l⟩ := a1.out; have a2 := Hb.mk (At.re a2.out b2 (by first | exact a2c | simp [go_sem, a2c, a2l]) (by first | exact a2z | simp [go_sem, a2z, a2l])); obtain ⟨a2c, a2z, a2l⟩ := a2.out; have a3 := Hb.mk (At.re a3.out b2 (by first | exact a3c | simp [go_sem, a3c, a3l]) (by first | exact a3z | simp [go_sem, a3z, a3l])); obtain ⟨a3c, a3z, a3l⟩ := a3.out; have a4 := Hb.mk (At.re a4.out b2 (by first | exact a4c | simp [go_sem, a4c, a4l]) (by first | exact a4z | simp [go_sem, a4z, a4l])); obtain ⟨a4c, a4z, a4l⟩ := a4.out; have a5 := Hb.mk (At.re a5.out b2 (by first | exact a5c | simp [go_sem, a5c, a5l]) (by first | exact a5z | simp [go_sem, a5z, a5l])); obtain ⟨a5c, a5z, a5l⟩ := a5.out; have a6 := Hb.mk (At.re a6.out b2 (by first | exact a6c | simp [go_sem, a6c, a6l]) (by first | exact a6z | simp [go_sem, a6z, a6l])); obtain ⟨a6c, a6z, a6l⟩ := a6.out; have a7 := Hb.mk (At.re a7.out b2 (by first | exact a7c | simp [go_sem, a7c, a7l]) (by first | exact a7z | simp [go_sem, a7z, a7l])); obtain ⟨a7c, a7z, a7l⟩ := a7.out; have a8 := Hb.mk (At.re a8.out b2 (by first | exact a8c | simp [go_sem, a8c, a8l]) (by first | exact a8z | simp [go_sem, a8z, a8l])); obtain ⟨a8c, a8z, a8l⟩ := a8.out; have a9 := Hb.mk (At.re a9.out b2 (by first | exact a9c | simp [go_sem, a9c, a9l]) (by first | exact a9z | simp [go_sem, a9z, a9l])); obtain ⟨a9c, a9z, a9l⟩ := a9.out; have a10 := Hb.mk (At.re a10.out b2 (by first | exact a10c | simp [go_sem, a10c, a10l]) (by first | exact a10z | simp [go_sem, a10z, a10l])); obtain ⟨a10c, a10z, a10l⟩ := a10.out; have a11 := Hb.mk (At.re a11.out b2 (by first | exact a11c | simp [go_sem, a11c, a11l]) (by first | exact a11z | simp [go_sem, a11z, a11l])); obtain ⟨a11c, a11z, a11l⟩ := a11.out; clear b2))
      go_roundw
      case rel =>
        refine ⟨3, by omega, rfl, ⟨(by repeat (first | exact Below.refl _ _ | exact B2.out | refine Below.drews ?_ | refine Below.drew ?_ | refine Below.alloc ?_ (by first | omega | (simp <;> omega)) _ | refine Below.setCell ?_ (by first | omega | (simp <;> omega)) _))⟩, ⟨fun j hj => ?_⟩⟩
        rcases (by omega : j = 0 ∨ j = 1 ∨ j = 2 ∨ j = 3 ∨ j = 4 ∨ j = 5 ∨ j = 6 ∨ j = 7 ∨ j = 8 ∨ j = 9 ∨ j = 10 ∨ j = 11) with rfl | rfl | rfl | rfl | rfl | rfl | rfl | rfl | rfl | rfl | rfl | rfl
        · refine (show At _ ⟨w.heap.size, 0, none⟩ (.float .f32 x0) from ⟨by simp [go_sem, a0c], by simp [go_sem, a0z], by simp [a0l]⟩)
        · refine (show At _ ⟨w.heap.size, 1, none⟩ (.float .f32 y0) from ⟨by simp [go_sem, a1c], by simp [go_sem, a1z], by simp [a1l]⟩)
        · refine (show At _ ⟨w.heap.size, 2, none⟩ (.float .f32 z0) from ⟨by simp [go_sem, a2c], by simp [go_sem, a2z], by simp [a2l]⟩)
        · refine (show At _ ⟨w.heap.size, 3, none⟩ (.float .f32 x1) from ⟨by simp [go_sem, a3c], by simp [go_sem, a3z], by simp [a3l]⟩)
        · refine (show At _ ⟨w.heap.size, 4, none⟩ (.float .f32 y1) from ⟨by simp [go_sem, a4c], by simp [go_sem, a4z], by simp [a4l]⟩)
        · refine (show At _ ⟨w.heap.size, 5, none⟩ (.float .f32 z1) from ⟨by simp [go_sem, a5c], by simp [go_sem, a5z], by simp [a5l]⟩)
        · refine (show At _ ⟨w.heap.size, 6, none⟩ (.float .f32 x2) from ⟨by simp [go_sem, a6c], by simp [go_sem, a6z], by simp [a6l]⟩)
        · refine (show At _ ⟨w.heap.size, 7, none⟩ (.float .f32 y2) from ⟨by simp [go_sem, a7c], by simp [go_sem, a7z], by simp [a7l]⟩)
        · refine (show At _ ⟨w.heap.size, 8, none⟩ (.float .f32 z2) from ⟨by simp [go_sem, a8c], by simp [go_sem, a8z], by simp [a8l]⟩)
        · refine (show At _ ⟨w.heap.size, 9, none⟩ (.float .f32 0) from ⟨by simp [go_sem, a9c], by simp [go_sem, a9z], by simp [a9l]⟩)
        · refine (show At _ ⟨w.heap.size, 10, none⟩ (.float .f32 0) from ⟨by simp [go_sem, a10c], by simp [go_sem, a10z], by simp [a10l]⟩)
        · refine (show At _ ⟨w.heap.size, 11, none⟩ (.float .f32 0) from ⟨by simp [go_sem, a11c], by simp [go_sem, a11z], by simp [a11l]⟩)
      case measure => simp [intOf]
    · have a0 := Hb.mk (show At wr ⟨w.heap.size, 0, none⟩ (.float .f32 x0) from AR.out 0 (by decide)); obtain ⟨a0c, a0z, a0l⟩ := a0.out
      have a1 := Hb.mk (show At wr ⟨w.heap.size, 1, none⟩ (.float .f32 y0) from AR.out 1 (by decide)); obtain ⟨a1c, a1z, a1l⟩ := a1.out
      have a2 := Hb.mk (show At wr ⟨w.heap.size, 2, none⟩ (.float .f32 z0) from AR.out 2 (by decide)); obtain ⟨a2c, a2z, a2l⟩ := a2.out
      have a3 := Hb.mk (show At wr ⟨w.heap.size, 3, none⟩ (.float .f32 x1) from AR.out 3 (by decide)); obtain ⟨a3c, a3z, a3l⟩ := a3.out
      have a4 := Hb.mk (show At wr ⟨w.heap.size, 4, none⟩ (.float .f32 y1) from AR.out 4 (by decide)); obtain ⟨a4c, a4z, a4l⟩ := a4.out
      have a5 := Hb.mk (show At wr ⟨w.heap.size, 5, none⟩ (.float .f32 z1) from AR.out 5 (by decide)); obtain ⟨a5c, a5z, a5l⟩ := a5.out
      have a6 := Hb.mk (show At wr ⟨w.heap.size, 6, none⟩ (.float .f32 x2) from AR.out 6 (by decide)); obtain ⟨a6c, a6z, a6l⟩ := a6.out
      have a7 := Hb.mk (show At wr ⟨w.heap.size, 7, none⟩ (.float .f32 y2) from AR.out 7 (by decide)); obtain ⟨a7c, a7z, a7l⟩ := a7.out
      have a8 := Hb.mk (show At wr ⟨w.heap.size, 8, none⟩ (.float .f32 z2) from AR.out 8 (by decide)); obtain ⟨a8c, a8z, a8l⟩ := a8.out
      have a9 := Hb.mk (show At wr ⟨w.heap.size, 9, none⟩ (.float .f32 0) from AR.out 9 (by decide)); obtain ⟨a9c, a9z, a9l⟩ := a9.out
      have a10 := Hb.mk (show At wr ⟨w.heap.size, 10, none⟩ (.float .f32 0) from AR.out 10 (by decide)); obtain ⟨a10c, a10z, a10l⟩ := a10.out
      have a11 := Hb.mk (show At wr ⟨w.heap.size, 11, none⟩ (.float .f32 0) from AR.out 11 (by decide)); obtain ⟨a11c, a11z, a11l⟩ := a11.out
      clear AR
      go_wp2_with (first | (go_at_call 26; refine (HV3.out _).mono ?_; rintro ex w1 ⟨rfl, b1⟩; have B1 := Hb.mk (Below.on (B := w.heap.size) (a := w) (by repeat (first | exact BR.out | refine Below.drews ?_ | refine Below.drew ?_ | refine Below.alloc ?_ (by have hq_ := BR.out.size; first | omega | (simp <;> omega)) _ | refine Below.setCell ?_ (by have hq_ := BR.out.size; first | omega | (simp <;> omega)) _)) b1 (by have hq_ := BR.out.size; first | omega | (simp <;> omega))); have p0 := Hb.mk (At.keep b1 (p := ⟨wr.heap.size, 0, none⟩) (v := .float .f32 n3) (by simp [go_sem]) (by simp [go_sem])); obtain ⟨p0c, p0z, p0l⟩ := p0.out; have p1 := Hb.mk (At.keep b1 (p := ⟨wr.heap.size, 1, none⟩) (v := .float .f32 e3) (by simp [go_sem]) (by simp [go_sem])); obtain ⟨p1c, p1z, p1l⟩ := p1.out; have a0 := Hb.mk (At.re a0.out b1 (by first | exact a0c | simp [go_sem, a0c, a0l]) (by first | exact a0z | simp [go_sem, a0z, a0l])); obtain ⟨a0c, a0z, a0l⟩ := a0.out; have a1 := Hb.mk (At.re a1.out b1 (by first | exact a1c | simp [go_sem, a1c, a1l]) (by first | exact a1z | simp [go_sem, a1z, a1l])); obtain ⟨a1c, a1z, a1l⟩ := a1.out; have a2 := Hb.mk (At.re a2.out b1 (by first | exact a2c | simp [go_sem, a2c, a2l]) (by first | exact a2z | simp [go_sem, a2z, a2l])); obtain ⟨a2c, a2z, a2l⟩ := a2.out; have a3 := Hb.mk (At.re a3.out b1 (by first | exact a3c | simp [go_sem, a3c, a3l]) (by first | exact a3z | simp [go_sem, a3z, a3l])); obtain ⟨a3c, a3z, a3l⟩ := a3.out; have a4 := Hb.mk (At.re a4.out b1 (by first | exact a4c | simp [go_sem, a4c, a4l]) (by first | exact a4z | simp [go_sem, a4z, a4l])); obtain ⟨a4c, a4z, a4l⟩ := a4.out; have a5 := Hb.mk (At.re a5.out b1 (by first | exact a5c | simp [go_sem, a5c, a5l]) (by first | exact a5z | simp [go_sem, a5z, a5l])); obtain ⟨a5c, a5z, a5l⟩ := a5.out; have a6 := Hb.mk (At.re a6.out b1 (by first | exact a6c | simp [go_sem, a6c, a6l]) (by first | exact a6z | simp [go_sem, a6z, a6l])); obtain ⟨a6c, a6z, a6l⟩ := a6.out; have a7 := Hb.mk (At.re a7.out b1 (by first | exact a7c | simp [go_sem, a7c, a7l]) (by first | exact a7z | simp [go_sem, a7z, a7l])); obtain ⟨a7c, a7z, a7l⟩ := a7.out; have a8 := Hb.mk (At.re a8.out b1 (by first | exact a8c | simp [go_sem, a8c, a8l]) (by first | exact a8z | simp [go_sem, a8z, a8l])); obtain ⟨a8c, a8z, a8l⟩ := a8.out; have a9 := Hb.mk (At.re a9.out b1 (by first | exact a9c | simp [go_sem, a9c, a9l]) (by first | exact a9z | simp [go_sem, a9z, a9l])); obtain ⟨a9c, a9z, a9l⟩ := a9.out; have a10 := Hb.mk (At.re a10.out b1 (by first | exact a10c | simp [go_sem, a10c, a10l]) (by first | exact a10z | simp [go_sem, a10z, a10l])); obtain ⟨a10c, a10z, a10l⟩ := a10.out; have a11 := Hb.mk (At.re a11.out b1 (by first | exact a11c | simp [go_sem, a11c, a11l]) (by first | exact a11z | simp [go_sem, a11z, a11l])); obtain ⟨a11c, a11z, a11l⟩ := a11.out; clear b1) | (go_at_call 122; refine (KW3.out _).mono ?_; rintro ex w2 ⟨rfl, b2⟩; have B2 := Hb.mk (Below.on (B := w.heap.size) (a := w) (by repeat (first | exact B1.out | refine Below.drews ?_ | refine Below.drew ?_ | refine Below.alloc ?_ (by have hq_ := B1.out.size; first | omega | (simp <;> omega)) _ | refine Below.setCell ?_ (by have hq_ := B1.out.size; first | omega | (simp <;> omega)) _)) b2 (by have hq_ := B1.out.size; first | omega | (simp <;> omega))); have a0 := Hb.mk (At.re a0.out b2 (by first | exact a0c | simp [go_sem, a0c, a0l]) (by first | exact a0z | simp [go_sem, a0z, a0l])); obtain ⟨a0c, a0z, a0l⟩ := a0.out; have a1 := Hb.mk (At.re a1.out b2 (by first | exact a1c | simp [go_sem, a1c, a1l]) (by first | exact a1z | simp [go_sem, a1z, a1l])); obtain ⟨a1c, a1z, a1l⟩ := a1.out; have a2 := Hb.mk (At.re a2.out b2 (by first | exact a2c | simp [go_sem, a2c, a2l]) (by first | exact a2z | simp [go_sem, a2z, a2l])); obtain ⟨a2c, a2z, a2l⟩ := a2.out; have a3 := Hb.mk (At.re a3.out b2 (by first | exact a3c | simp [go_sem, a3c, a3l]) (by first | exact a3z | simp [go_sem, a3z, a3l])); obtain ⟨a3c, a3z, a3l⟩ := a3.out; have a4 := Hb.mk (At.re a4.out b2 (by first | exact a4c | simp [go_sem, a4c, a4l]) (by first | exact a4z | simp [go_sem, a4z, a4l])); obtain ⟨a4c, a4z, a4l⟩ := a4.out; have a5 := Hb.mk (At.re a5.out b2 (by first | exact a5c | simp [go_sem, a5c, a5l]) (by first | exact a5z | simp [go_sem, a5z, a5l])); obtain ⟨a5c, a5z, a5l⟩ := a5.out; have a6 := Hb.mk (At.re a6.out b2 (by first | exact a6c | simp [go_sem, a6c, a6l]) (by first | exact a6z | simp [go_sem, a6z, a6l])); obtain ⟨a6c, a6z, a6l⟩ := a6.out; have a7 := Hb.mk (At.re a7.out b2 (by first | exact a7c | simp [go_sem, a7c, a7l]) (by first | exact a7z | simp [go_sem, a7z, a7l])); obtain ⟨a7c, a7z, a7l⟩ := a7.out; have a8 := Hb.mk (At.re a8.out b2 (by first | exact a8c | simp [go_sem, a8c, a8l]) (by first | exact a8z | simp [go_sem, a8z, a8l])); obtain ⟨a8c, a8z, a8l⟩ := a8.out; have a9 := Hb.mk (At.re a9.out b2 (by first | exact a9c | simp [go_sem, a9c, a9l]) (by first | exact a9z | simp [go_sem, a9z, a9l])); obtain ⟨a9c, a9z, a9l⟩ := a9.out; have a10 := Hb.mk (At.re a10.out b2 (by first | exact a10c | simp [go_sem, a10c, a10l]) (by first | exact a10z | simp [go_sem, a10z, a10l])); obtain ⟨a10c, a10z, a10l⟩ := a10.out; have a11 := Hb.mk (At.re a11.out b2 (by first | exact a11c | simp [go_sem, a11c, a11l]) (by first | exact a11z | simp [go_sem, a11z, a11l])); obtain ⟨a11c, a11z, a11l⟩ := a11.out; clear b2))
      go_roundw
      case rel =>
        refine ⟨4, by omega, rfl, ⟨(by repeat (first | exact Below.refl _ _ | exact B2.out | refine Below.drews ?_ | refine Below.drew ?_ | refine Below.alloc ?_ (by first | omega | (simp <;> omega)) _ | refine Below.setCell ?_ (by first | omega | (simp <;> omega)) _))⟩, ⟨fun j hj => ?_⟩⟩
        rcases (by omega : j = 0 ∨ j = 1 ∨ j = 2 ∨ j = 3 ∨ j = 4 ∨ j = 5 ∨ j = 6 ∨ j = 7 ∨ j = 8 ∨ j = 9 ∨ j = 10 ∨ j = 11) with rfl | rfl | rfl | rfl | rfl | rfl | rfl | rfl | rfl | rfl | rfl | rfl
        · refine (show At _ ⟨w.heap.size, 0, none⟩ (.float .f32 x0) from ⟨by simp [go_sem, a0c], by simp [go_sem, a0z], by simp [a0l]⟩)
        · refine (show At _ ⟨w.heap.size, 1, none⟩ (.float .f32 y0) from ⟨by simp [go_sem, a1c], by simp [go_sem, a1z], by simp [a1l]⟩)
        · refine (show At _ ⟨w.heap.size, 2, none⟩ (.float .f32 z0) from ⟨by simp [go_sem, a2c], by simp [go_sem, a2z], by simp [a2l]⟩)
        · refine (show At _ ⟨w.heap.size, 3, none⟩ (.float .f32 x1) from ⟨by simp [go_sem, a3c], by simp [go_sem, a3z], by simp [a3l]⟩)
        · refine (show At _ ⟨w.heap.size, 4, none⟩ (.float .f32 y1) from ⟨by simp [go_sem, a4c], by simp [go_sem, a4z], by simp [a4l]⟩)
        · refine (show At _ ⟨w.heap.size, 5, none⟩ (.float .f32 z1) from ⟨by simp [go_sem, a5c], by simp [go_sem, a5z], by simp [a5l]⟩)
        · refine (show At _ ⟨w.heap.size, 6, none⟩ (.float .f32 x2) from ⟨by simp [go_sem, a6c], by simp [go_sem, a6z], by simp [a6l]⟩)
        · refine (show At _ ⟨w.heap.size, 7, none⟩ (.float .f32 y2) from ⟨by simp [go_sem, a7c], by simp [go_sem, a7z], by simp [a7l]⟩)
        · refine (show At _ ⟨w.heap.size, 8, none⟩ (.float .f32 z2) from ⟨by simp [go_sem, a8c], by simp [go_sem, a8z], by simp [a8l]⟩)
        · refine (show At _ ⟨w.heap.size, 9, none⟩ (.float .f32 x3) from ⟨by simp [go_sem, a9c], by simp [go_sem, a9z], by simp [a9l]⟩)
        · refine (show At _ ⟨w.heap.size, 10, none⟩ (.float .f32 y3) from ⟨by simp [go_sem, a10c], by simp [go_sem, a10z], by simp [a10l]⟩)
        · refine (show At _ ⟨w.heap.size, 11, none⟩ (.float .f32 z3) from ⟨by simp [go_sem, a11c], by simp [go_sem, a11z], by simp [a11l]⟩)
      case measure => simp [intOf]
    · have a0 := Hb.mk (show At wr ⟨w.heap.size, 0, none⟩ (.float .f32 x0) from AR.out 0 (by decide)); obtain ⟨a0c, a0z, a0l⟩ := a0.out
      have a1 := Hb.mk (show At wr ⟨w.heap.size, 1, none⟩ (.float .f32 y0) from AR.out 1 (by decide)); obtain ⟨a1c, a1z, a1l⟩ := a1.out
      have a2 := Hb.mk (show At wr ⟨w.heap.size, 2, none⟩ (.float .f32 z0) from AR.out 2 (by decide)); obtain ⟨a2c, a2z, a2l⟩ := a2.out
      have a3 := Hb.mk (show At wr ⟨w.heap.size, 3, none⟩ (.float .f32 x1) from AR.out 3 (by decide)); obtain ⟨a3c, a3z, a3l⟩ := a3.out
      have a4 := Hb.mk (show At wr ⟨w.heap.size, 4, none⟩ (.float .f32 y1) from AR.out 4 (by decide)); obtain ⟨a4c, a4z, a4l⟩ := a4.out
      have a5 := Hb.mk (show At wr ⟨w.heap.size, 5, none⟩ (.float .f32 z1) from AR.out 5 (by decide)); obtain ⟨a5c, a5z, a5l⟩ := a5.out
      have a6 := Hb.mk (show At wr ⟨w.heap.size, 6, none⟩ (.float .f32 x2) from AR.out 6 (by decide)); obtain ⟨a6c, a6z, a6l⟩ := a6.out
      have a7 := Hb.mk (show At wr ⟨w.heap.size, 7, none⟩ (.float .f32 y2) from AR.out 7 (by decide)); obtain ⟨a7c, a7z, a7l⟩ := a7.out
      have a8 := Hb.mk (show At wr ⟨w.heap.size, 8, none⟩ (.float .f32 z2) from AR.out 8 (by decide)); obtain ⟨a8c, a8z, a8l⟩ := a8.out
      have a9 := Hb.mk (show At wr ⟨w.heap.size, 9, none⟩ (.float .f32 x3) from AR.out 9 (by decide)); obtain ⟨a9c, a9z, a9l⟩ := a9.out
      have a10 := Hb.mk (show At wr ⟨w.heap.size, 10, none⟩ (.float .f32 y3) from AR.out 10 (by decide)); obtain ⟨a10c, a10z, a10l⟩ := a10.out
      have a11 := Hb.mk (show At wr ⟨w.heap.size, 11, none⟩ (.float .f32 z3) from AR.out 11 (by decide)); obtain ⟨a11c, a11z, a11l⟩ := a11.out
      clear AR
      go_wp2
      go_ret2
      refine ⟨rfl, BR.out, a0l, fun j hj => ?_⟩
      rcases (by omega : j = 0 ∨ j = 1 ∨ j = 2 ∨ j = 3 ∨ j = 4 ∨ j = 5 ∨ j = 6 ∨ j = 7 ∨ j = 8 ∨ j = 9 ∨ j = 10 ∨ j = 11) with rfl | rfl | rfl | rfl | rfl | rfl | rfl | rfl | rfl | rfl | rfl | rfl
      · exact a0c
      · exact a1c
      · exact a2c
      · exact a3c
      · exact a4c
      · exact a5c
      · exact a6c
      · exact a7c
      · exact a8c
      · exact a9c
      · exact a10c
      · exact a11c
set_option maxHeartbeats 4000000 in
theorem ws4_no0 {g n0 e0 n1 e1 n2 e2 n3 e3 cn ce : Nat} (f0 : Fl .f32 cn n0) (h0 : Fl .f32 ce e0)    (v0 : validC cn ce = false)    (w : World) (c0 : w.cell? ⟨g, 0, none⟩ = some (.float .f32 n0)) (c1 : w.cell? ⟨g, 1, none⟩ = some (.float .f32 e0)) (c2 : w.cell? ⟨g, 2, none⟩ = some (.float .f32 n1)) (c3 : w.cell? ⟨g, 3, none⟩ = some (.float .f32 e1)) (c4 : w.cell? ⟨g, 4, none⟩ = some (.float .f32 n2)) (c5 : w.cell? ⟨g, 5, none⟩ = some (.float .f32 e2)) (c6 : w.cell? ⟨g, 6, none⟩ = some (.float .f32 n3)) (c7 : w.cell? ⟨g, 7, none⟩ = some (.float .f32 e3)) : Calls Tryz.prog 95 #[.slice (some ⟨g, 0, none⟩) 4 4] w (RNo w) := by
  have KV0 := iValidPlace_any f0 h0
  rw [v0] at KV0
  have HV0 := Hb.mk KV0
  clear KV0 v0
  obtain ⟨i0, hi, hz0, hz1, hz2⟩ := info_parts (P := Tryz.prog) (e := 87) (z := wy 0 0 0) (size := 3) (bytes := 12) (by kernel_rfl)
  have C0 := Hb.mk c0
  have C1 := Hb.mk c1
  have C2 := Hb.mk c2
  have C3 := Hb.mk c3
  have C4 := Hb.mk c4
  have C5 := Hb.mk c5
  have C6 := Hb.mk c6
  have C7 := Hb.mk c7
  clear c0 c1 c2 c3 c4 c5 c6 c7
  go_enter Tryz.func95, Tryz.ntmps95
  go_wp2_with (at_make; refine wpList_make_full _ rfl _ _ 94 rfl w.heap.size 87 i0 _ 3 Tryz.underlying94 hi hz0 hz1 .i64 .i64 _ _ 4 rfl rfl rfl rfl (by rw [hz2]; decide) (by unfold maxLen; omega) (Nat.le_refl _) ?_; intro w0 hown0 hgrow0; simp only [Act.put, List.setIfInBounds_toArray, List.set_cons_succ, List.set_cons_zero])
  have B0 := Hb.mk ((Below.refl w.heap.size w).grown hgrow0 (Nat.le_refl _) (fun k h => by cases h))
  have r0 : w0.cell? ⟨w.heap.size, 0, none⟩ = some (.float .f32 0) := (hown0.cellAt 0 (by decide)).trans (by kernel_rfl)
  have a0 := Hb.mk (At.mk r0 (hown0.frozenAt 0) (block_lt_of_cell r0))
  clear r0
  have r1 : w0.cell? ⟨w.heap.size, 1, none⟩ = some (.float .f32 0) := (hown0.cellAt 1 (by decide)).trans (by kernel_rfl)
  have a1 := Hb.mk (At.mk r1 (hown0.frozenAt 1) (block_lt_of_cell r1))
  clear r1
  have r2 : w0.cell? ⟨w.heap.size, 2, none⟩ = some (.float .f32 0) := (hown0.cellAt 2 (by decide)).trans (by kernel_rfl)
  have a2 := Hb.mk (At.mk r2 (hown0.frozenAt 2) (block_lt_of_cell r2))
  clear r2
  have r3 : w0.cell? ⟨w.heap.size, 3, none⟩ = some (.float .f32 0) := (hown0.cellAt 3 (by decide)).trans (by kernel_rfl)
  have a3 := Hb.mk (At.mk r3 (hown0.frozenAt 3) (block_lt_of_cell r3))
  clear r3
  have r4 : w0.cell? ⟨w.heap.size, 4, none⟩ = some (.float .f32 0) := (hown0.cellAt 4 (by decide)).trans (by kernel_rfl)
  have a4 := Hb.mk (At.mk r4 (hown0.frozenAt 4) (block_lt_of_cell r4))
  clear r4
  have r5 : w0.cell? ⟨w.heap.size, 5, none⟩ = some (.float .f32 0) := (hown0.cellAt 5 (by decide)).trans (by kernel_rfl)
  have a5 := Hb.mk (At.mk r5 (hown0.frozenAt 5) (block_lt_of_cell r5))
  clear r5
  have r6 : w0.cell? ⟨w.heap.size, 6, none⟩ = some (.float .f32 0) := (hown0.cellAt 6 (by decide)).trans (by kernel_rfl)
  have a6 := Hb.mk (At.mk r6 (hown0.frozenAt 6) (block_lt_of_cell r6))
  clear r6
  have r7 : w0.cell? ⟨w.heap.size, 7, none⟩ = some (.float .f32 0) := (hown0.cellAt 7 (by decide)).trans (by kernel_rfl)
  have a7 := Hb.mk (At.mk r7 (hown0.frozenAt 7) (block_lt_of_cell r7))
  clear r7
  have r8 : w0.cell? ⟨w.heap.size, 8, none⟩ = some (.float .f32 0) := (hown0.cellAt 8 (by decide)).trans (by kernel_rfl)
  have a8 := Hb.mk (At.mk r8 (hown0.frozenAt 8) (block_lt_of_cell r8))
  clear r8
  have r9 : w0.cell? ⟨w.heap.size, 9, none⟩ = some (.float .f32 0) := (hown0.cellAt 9 (by decide)).trans (by kernel_rfl)
  have a9 := Hb.mk (At.mk r9 (hown0.frozenAt 9) (block_lt_of_cell r9))
  clear r9
  have r10 : w0.cell? ⟨w.heap.size, 10, none⟩ = some (.float .f32 0) := (hown0.cellAt 10 (by decide)).trans (by kernel_rfl)
  have a10 := Hb.mk (At.mk r10 (hown0.frozenAt 10) (block_lt_of_cell r10))
  clear r10
  have r11 : w0.cell? ⟨w.heap.size, 11, none⟩ = some (.float .f32 0) := (hown0.cellAt 11 (by decide)).trans (by kernel_rfl)
  have a11 := Hb.mk (At.mk r11 (hown0.frozenAt 11) (block_lt_of_cell r11))
  clear r11
  clear hown0 hgrow0
  go_loopw [12] (fun i wr => ∃ m : Nat, m ≤ 0 ∧ i = .int .i64 m ∧ Hb (Below w.heap.size w wr) ∧ Hb (∀ j, j < 12 → At wr ⟨w.heap.size, j, none⟩ (.float .f32 (vals [0, 0, 0, 0, 0, 0, 0, 0, 0, 0, 0, 0] m j)))) (fun i _ => (4 - (intOf i).toNat))
  case atStart => exact ⟨0, by omega, rfl, B0, ⟨fun j hj => by
    rcases (by omega : j = 0 ∨ j = 1 ∨ j = 2 ∨ j = 3 ∨ j = 4 ∨ j = 5 ∨ j = 6 ∨ j = 7 ∨ j = 8 ∨ j = 9 ∨ j = 10 ∨ j = 11) with rfl | rfl | rfl | rfl | rfl | rfl | rfl | rfl | rfl | rfl | rfl | rfl
    · exact a0.out
    · exact a1.out
    · exact a2.out
    · exact a3.out
    · exact a4.out
    · exact a5.out
    · exact a6.out
    · exact a7.out
    · exact a8.out
    · exact a9.out
    · exact a10.out
    · exact a11.out⟩⟩
  case round =>
    obtain ⟨m, hm, rfl, BR, AR⟩ := hrel
    clear a0 a1 a2 a3 a4 a5 a6 a7 a8 a9 a10 a11 B0
    have s0 := Below.keep BR.out C0.out
    have s1 := Below.keep BR.out C1.out
    have s2 := Below.keep BR.out C2.out
    have s3 := Below.keep BR.out C3.out
    have s4 := Below.keep BR.out C4.out
    have s5 := Below.keep BR.out C5.out
    have s6 := Below.keep BR.out C6.out
    have s7 := Below.keep BR.out C7.out
    rcases (by omega : m = 0) with rfl
    · have a0 := Hb.mk (show At wr ⟨w.heap.size, 0, none⟩ (.float .f32 0) from AR.out 0 (by decide)); obtain ⟨a0c, a0z, a0l⟩ := a0.out
      have a1 := Hb.mk (show At wr ⟨w.heap.size, 1, none⟩ (.float .f32 0) from AR.out 1 (by decide)); obtain ⟨a1c, a1z, a1l⟩ := a1.out
      have a2 := Hb.mk (show At wr ⟨w.heap.size, 2, none⟩ (.float .f32 0) from AR.out 2 (by decide)); obtain ⟨a2c, a2z, a2l⟩ := a2.out
      have a3 := Hb.mk (show At wr ⟨w.heap.size, 3, none⟩ (.float .f32 0) from AR.out 3 (by decide)); obtain ⟨a3c, a3z, a3l⟩ := a3.out
      have a4 := Hb.mk (show At wr ⟨w.heap.size, 4, none⟩ (.float .f32 0) from AR.out 4 (by decide)); obtain ⟨a4c, a4z, a4l⟩ := a4.out
      have a5 := Hb.mk (show At wr ⟨w.heap.size, 5, none⟩ (.float .f32 0) from AR.out 5 (by decide)); obtain ⟨a5c, a5z, a5l⟩ := a5.out
      have a6 := Hb.mk (show At wr ⟨w.heap.size, 6, none⟩ (.float .f32 0) from AR.out 6 (by decide)); obtain ⟨a6c, a6z, a6l⟩ := a6.out
      have a7 := Hb.mk (show At wr ⟨w.heap.size, 7, none⟩ (.float .f32 0) from AR.out 7 (by decide)); obtain ⟨a7c, a7z, a7l⟩ := a7.out
      have a8 := Hb.mk (show At wr ⟨w.heap.size, 8, none⟩ (.float .f32 0) from AR.out 8 (by decide)); obtain ⟨a8c, a8z, a8l⟩ := a8.out
      have a9 := Hb.mk (show At wr ⟨w.heap.size, 9, none⟩ (.float .f32 0) from AR.out 9 (by decide)); obtain ⟨a9c, a9z, a9l⟩ := a9.out
      have a10 := Hb.mk (show At wr ⟨w.heap.size, 10, none⟩ (.float .f32 0) from AR.out 10 (by decide)); obtain ⟨a10c, a10z, a10l⟩ := a10.out
      have a11 := Hb.mk (show At wr ⟨w.heap.size, 11, none⟩ (.float .f32 0) from AR.out 11 (by decide)); obtain ⟨a11c, a11z, a11l⟩ := a11.out
      clear AR
      go_wp2_with (first | (go_at_call 26; refine (HV0.out _).mono ?_; rintro ex w1 ⟨rfl, b1⟩; have B1 := Hb.mk (Below.on (B := w.heap.size) (a := w) (by repeat (first | exact BR.out | refine Below.drews ?_ | refine Below.drew ?_ | refine Below.alloc ?_ (by have hq_ := BR.out.size; first | omega | (simp <;> omega)) _ | refine Below.setCell ?_ (by have hq_ := BR.out.size; first | omega | (simp <;> omega)) _)) b1 (by have hq_ := BR.out.size; first | omega | (simp <;> omega))); clear b1))
      go_ret2
      exact ⟨rfl, (by repeat (first | exact Below.refl _ _ | exact B1.out | refine Below.drews ?_ | refine Below.drew ?_ | refine Below.alloc ?_ (by first | omega | (simp <;> omega)) _ | refine Below.setCell ?_ (by first | omega | (simp <;> omega)) _))⟩
set_option maxHeartbeats 4000000 in
theorem ws4_no1 {g n0 e0 n1 e1 n2 e2 n3 e3 cn ce : Nat} (f0 : Fl .f32 n0 n0) (h0 : Fl .f32 e0 e0) (f1 : Fl .f32 cn n1) (h1 : Fl .f32 ce e1)   (v0 : validC n0 e0 = true) (v1 : validC cn ce = false)   (w : World) (c0 : w.cell? ⟨g, 0, none⟩ = some (.float .f32 n0)) (c1 : w.cell? ⟨g, 1, none⟩ = some (.float .f32 e0)) (c2 : w.cell? ⟨g, 2, none⟩ = some (.float .f32 n1)) (c3 : w.cell? ⟨g, 3, none⟩ = some (.float .f32 e1)) (c4 : w.cell? ⟨g, 4, none⟩ = some (.float .f32 n2)) (c5 : w.cell? ⟨g, 5, none⟩ = some (.float .f32 e2)) (c6 : w.cell? ⟨g, 6, none⟩ = some (.float .f32 n3)) (c7 : w.cell? ⟨g, 7, none⟩ = some (.float .f32 e3)) : Calls Tryz.prog 95 #[.slice (some ⟨g, 0, none⟩) 4 4] w (RNo w) := by
  have KV0 := iValidPlace_any f0 h0
  rw [v0] at KV0
  have HV0 := Hb.mk KV0
  obtain ⟨tn0, te0⟩ := turns_of v0
  have KW0 := Hb.mk (wayOf_any f0 h0 tn0 te0)
  clear tn0 te0
  clear KV0 v0
  have KV1 := iValidPlace_any f1 h1
  rw [v1] at KV1
  have HV1 := Hb.mk KV1
  clear KV1 v1
  generalize wxC n0 e0 = x0 at *
  generalize wyC n0 e0 = y0 at *
  generalize sineC n0 = z0 at *
  obtain ⟨i0, hi, hz0, hz1, hz2⟩ := info_parts (P := Tryz.prog) (e := 87) (z := wy 0 0 0) (size := 3) (bytes := 12) (by kernel_rfl)
  have C0 := Hb.mk c0
  have C1 := Hb.mk c1
  have C2 := Hb.mk c2
  have C3 := Hb.mk c3
  have C4 := Hb.mk c4
  have C5 := Hb.mk c5
  have C6 := Hb.mk c6
  have C7 := Hb.mk c7
  clear c0 c1 c2 c3 c4 c5 c6 c7
  go_enter Tryz.func95, Tryz.ntmps95
  go_wp2_with (at_make; refine wpList_make_full _ rfl _ _ 94 rfl w.heap.size 87 i0 _ 3 Tryz.underlying94 hi hz0 hz1 .i64 .i64 _ _ 4 rfl rfl rfl rfl (by rw [hz2]; decide) (by unfold maxLen; omega) (Nat.le_refl _) ?_; intro w0 hown0 hgrow0; simp only [Act.put, List.setIfInBounds_toArray, List.set_cons_succ, List.set_cons_zero])
  have B0 := Hb.mk ((Below.refl w.heap.size w).grown hgrow0 (Nat.le_refl _) (fun k h => by cases h))
  have r0 : w0.cell? ⟨w.heap.size, 0, none⟩ = some (.float .f32 0) := (hown0.cellAt 0 (by decide)).trans (by kernel_rfl)
  have a0 := Hb.mk (At.mk r0 (hown0.frozenAt 0) (block_lt_of_cell r0))
  clear r0
  have r1 : w0.cell? ⟨w.heap.size, 1, none⟩ = some (.float .f32 0) := (hown0.cellAt 1 (by decide)).trans (by kernel_rfl)
  have a1 := Hb.mk (At.mk r1 (hown0.frozenAt 1) (block_lt_of_cell r1))
  clear r1
  have r2 : w0.cell? ⟨w.heap.size, 2, none⟩ = some (.float .f32 0) := (hown0.cellAt 2 (by decide)).trans (by kernel_rfl)
  have a2 := Hb.mk (At.mk r2 (hown0.frozenAt 2) (block_lt_of_cell r2))
  clear r2
  have r3 : w0.cell? ⟨w.heap.size, 3, none⟩ = some (.float .f32 0) := (hown0.cellAt 3 (by decide)).trans (by kernel_rfl)
  have a3 := Hb.mk (At.mk r3 (hown0.frozenAt 3) (block_lt_of_cell r3))
  clear r3
  have r4 : w0.cell? ⟨w.heap.size, 4, none⟩ = some (.float .f32 0) := (hown0.cellAt 4 (by decide)).trans (by kernel_rfl)
  have a4 := Hb.mk (At.mk r4 (hown0.frozenAt 4) (block_lt_of_cell r4))
  clear r4
  have r5 : w0.cell? ⟨w.heap.size, 5, none⟩ = some (.float .f32 0) := (hown0.cellAt 5 (by decide)).trans (by kernel_rfl)
  have a5 := Hb.mk (At.mk r5 (hown0.frozenAt 5) (block_lt_of_cell r5))
  clear r5
  have r6 : w0.cell? ⟨w.heap.size, 6, none⟩ = some (.float .f32 0) := (hown0.cellAt 6 (by decide)).trans (by kernel_rfl)
  have a6 := Hb.mk (At.mk r6 (hown0.frozenAt 6) (block_lt_of_cell r6))
  clear r6
  have r7 : w0.cell? ⟨w.heap.size, 7, none⟩ = some (.float .f32 0) := (hown0.cellAt 7 (by decide)).trans (by kernel_rfl)
  have a7 := Hb.mk (At.mk r7 (hown0.frozenAt 7) (block_lt_of_cell r7))
  clear r7
  have r8 : w0.cell? ⟨w.heap.size, 8, none⟩ = some (.float .f32 0) := (hown0.cellAt 8 (by decide)).trans (by kernel_rfl)
  have a8 := Hb.mk (At.mk r8 (hown0.frozenAt 8) (block_lt_of_cell r8))
  clear r8
  have r9 : w0.cell? ⟨w.heap.size, 9, none⟩ = some (.float .f32 0) := (hown0.cellAt 9 (by decide)).trans (by kernel_rfl)
  have a9 := Hb.mk (At.mk r9 (hown0.frozenAt 9) (block_lt_of_cell r9))
  clear r9
  have r10 : w0.cell? ⟨w.heap.size, 10, none⟩ = some (.float .f32 0) := (hown0.cellAt 10 (by decide)).trans (by kernel_rfl)
  have a10 := Hb.mk (At.mk r10 (hown0.frozenAt 10) (block_lt_of_cell r10))
  clear r10
  have r11 : w0.cell? ⟨w.heap.size, 11, none⟩ = some (.float .f32 0) := (hown0.cellAt 11 (by decide)).trans (by kernel_rfl)
  have a11 := Hb.mk (At.mk r11 (hown0.frozenAt 11) (block_lt_of_cell r11))
  clear r11
  clear hown0 hgrow0
  go_loopw [12] (fun i wr => ∃ m : Nat, m ≤ 1 ∧ i = .int .i64 m ∧ Hb (Below w.heap.size w wr) ∧ Hb (∀ j, j < 12 → At wr ⟨w.heap.size, j, none⟩ (.float .f32 (vals [x0, y0, z0, 0, 0, 0, 0, 0, 0, 0, 0, 0] m j)))) (fun i _ => (4 - (intOf i).toNat))
  case atStart => exact ⟨0, by omega, rfl, B0, ⟨fun j hj => by
    rcases (by omega : j = 0 ∨ j = 1 ∨ j = 2 ∨ j = 3 ∨ j = 4 ∨ j = 5 ∨ j = 6 ∨ j = 7 ∨ j = 8 ∨ j = 9 ∨ j = 10 ∨ j = 11) with rfl | rfl | rfl | rfl | rfl | rfl | rfl | rfl | rfl | rfl | rfl | rfl
    · exact a0.out
    · exact a1.out
    · exact a2.out
    · exact a3.out
    · exact a4.out
    · exact a5.out
    · exact a6.out
    · exact a7.out
    · exact a8.out
    · exact a9.out
    · exact a10.out
    · exact a11.out⟩⟩
  case round =>
    obtain ⟨m, hm, rfl, BR, AR⟩ := hrel
    clear a0 a1 a2 a3 a4 a5 a6 a7 a8 a9 a10 a11 B0
    have s0 := Below.keep BR.out C0.out
    have s1 := Below.keep BR.out C1.out
    have s2 := Below.keep BR.out C2.out
    have s3 := Below.keep BR.out C3.out
    have s4 := Below.keep BR.out C4.out
    have s5 := Below.keep BR.out C5.out
    have s6 := Below.keep BR.out C6.out
    have s7 := Below.keep BR.out C7.out
    rcases (by omega : m = 0 ∨ m = 1) with rfl | rfl
    · have a0 := Hb.mk (show At wr ⟨w.heap.size, 0, none⟩ (.float .f32 0) from AR.out 0 (by decide)); obtain ⟨a0c, a0z, a0l⟩ := a0.out
      have a1 := Hb.mk (show At wr ⟨w.heap.size, 1, none⟩ (.float .f32 0) from AR.out 1 (by decide)); obtain ⟨a1c, a1z, a1l⟩ := a1.out
      have a2 := Hb.mk (show At wr ⟨w.heap.size, 2, none⟩ (.float .f32 0) from AR.out 2 (by decide)); obtain ⟨a2c, a2z, a2l⟩ := a2.out
      have a3 := Hb.mk (show At wr ⟨w.heap.size, 3, none⟩ (.float .f32 0) from AR.out 3 (by decide)); obtain ⟨a3c, a3z, a3l⟩ := a3.out
      have a4 := Hb.mk (show At wr ⟨w.heap.size, 4, none⟩ (.float .f32 0) from AR.out 4 (by decide)); obtain ⟨a4c, a4z, a4l⟩ := a4.out
      have a5 := Hb.mk (show At wr ⟨w.heap.size, 5, none⟩ (.float .f32 0) from AR.out 5 (by decide)); obtain ⟨a5c, a5z, a5l⟩ := a5.out
      have a6 := Hb.mk (show At wr ⟨w.heap.size, 6, none⟩ (.float .f32 0) from AR.out 6 (by decide)); obtain ⟨a6c, a6z, a6l⟩ := a6.out
      have a7 := Hb.mk (show At wr ⟨w.heap.size, 7, none⟩ (.float .f32 0) from AR.out 7 (by decide)); obtain ⟨a7c, a7z, a7l⟩ := a7.out
      have a8 := Hb.mk (show At wr ⟨w.heap.size, 8, none⟩ (.float .f32 0) from AR.out 8 (by decide)); obtain ⟨a8c, a8z, a8l⟩ := a8.out
      have a9 := Hb.mk (show At wr ⟨w.heap.size, 9, none⟩ (.float .f32 0) from AR.out 9 (by decide)); obtain ⟨a9c, a9z, a9l⟩ := a9.out
      have a10 := Hb.mk (show At wr ⟨w.heap.size, 10, none⟩ (.float .f32 0) from AR.out 10 (by decide)); obtain ⟨a10c, a10z, a10l⟩ := a10.out
      have a11 := Hb.mk (show At wr ⟨w.heap.size, 11, none⟩ (.float .f32 0) from AR.out 11 (by decide)); obtain ⟨a11c, a11z, a11l⟩ := a11.out
      clear AR
      go_wp2_with (first | (go_at_call 26; refine (HV0.out _).mono ?_; rintro ex w1 ⟨rfl, b1⟩; have B1 := Hb.mk (Below.on (B := w.heap.size) (a := w) (by repeat (first | exact BR.out | refine Below.drews ?_ | refine Below.drew ?_ | refine Below.alloc ?_ (by have hq_ := BR.out.size; first | omega | (simp <;> omega)) _ | refine Below.setCell ?_ (by have hq_ := BR.out.size; first | omega | (simp <;> omega)) _)) b1 (by have hq_ := BR.out.size; first | omega | (simp <;> omega))); have p0 := Hb.mk (At.keep b1 (p := ⟨wr.heap.size, 0, none⟩) (v := .float .f32 n0) (by simp [go_sem]) (by simp [go_sem])); obtain ⟨p0c, p0z, p0l⟩ := p0.out; have p1 := Hb.mk (At.keep b1 (p := ⟨wr.heap.size, 1, none⟩) (v := .float .f32 e0) (by simp [go_sem]) (by simp [go_sem])); obtain ⟨p1c, p1z, p1l⟩ := p1.out; have a0 := Hb.mk (At.re a0.out b1 (by first | exact a0c | simp [go_sem, a0c, a0l]) (by first | exact a0z | simp [go_sem, a0z, a0l])); obtain ⟨a0c, a0z, a0l⟩ := a0.out; have a1 := Hb.mk (At.re a1.out b1 (by first | exact a1c | simp [go_sem, a1c, a1l]) (by first | exact a1z | simp [go_sem, a1z, a1l])); obtain ⟨a1c, a1z, a1l⟩ := a1.out; have a2 := Hb.mk (At.re a2.out b1 (by first | exact a2c | simp [go_sem, a2c, a2l]) (by first | exact a2z | simp [go_sem, a2z, a2l])); obtain ⟨a2c, a2z, a2l⟩ := a2.out; have a3 := Hb.mk (At.re a3.out b1 (by first | exact a3c | simp [go_sem, a3c, a3l]) (by first | exact a3z | simp [go_sem, a3z, a3l])); obtain ⟨a3c, a3z, a3l⟩ := a3.out; have a4 := Hb.mk (At.re a4.out b1 (by first | exact a4c | simp [go_sem, a4c, a4l]) (by first | exact a4z | simp [go_sem, a4z, a4l])); obtain ⟨a4c, a4z, a4l⟩ := a4.out; have a5 := Hb.mk (At.re a5.out b1 (by first | exact a5c | simp [go_sem, a5c, a5l]) (by first | exact a5z | simp [go_sem, a5z, a5l])); obtain ⟨a5c, a5z, a5l⟩ := a5.out; have a6 := Hb.mk (At.re a6.out b1 (by first | exact a6c | simp [go_sem, a6c, a6l]) (by first | exact a6z | simp [go_sem, a6z, a6l])); obtain ⟨a6c, a6z, a6l⟩ := a6.out; have a7 := Hb.mk (At.re a7.out b1 (by first | exact a7c | simp [go_sem, a7c, a7l]) (by first | exact a7z | simp [go_sem, a7z, a7l])); obtain ⟨a7c, a7z, a7l⟩ := a7.out; have a8 := Hb.mk (At.re a8.out b1 (by first | exact a8c | simp [go_sem, a8c, a8l]) (by first | exact a8z | simp [go_sem, a8z, a8l])); obtain ⟨a8c, a8z, a8l⟩ := a8.out; have a9 := Hb.mk (At.re a9.out b1 (by first | exact a9c | simp [go_sem, a9c, a9l]) (by first | exact a9z | simp [go_sem, a9z, a9l])); obtain ⟨a9c, a9z, a9l⟩ := a9.out; have a10 := Hb.mk (At.re a10.out b1 (by first | exact a10c | simp [go_sem, a10c, a10l]) (by first | exact a10z | simp [go_sem, a10z, a10l])); obtain ⟨a10c, a10z, a10l⟩ := a10.out; have a11 := Hb.mk (At.re a11.out b1 (by first | exact a11c | simp [go_sem, a11c, a11l]) (by first | exact a11z | simp [go_sem, a11z, a11l])); obtain ⟨a11c, a11z, a11l⟩ := a11.out; clear b1) | (go_at_call 122; refine (KW0.out _).mono ?_; rintro ex w2 ⟨rfl, b2⟩; have B2 := Hb.mk (Below.on (B := w.heap.size) (a := w) (by repeat (first | exact B1.out | refine Below.drews ?_ | refine Below.drew ?_ | refine Below.alloc ?_ (by have hq_ := B1.out.size; first | omega | (simp <;> omega)) _ | refine Below.setCell ?_ (by have hq_ := B1.out.size; first | omega | (simp <;> omega)) _)) b2 (by have hq_ := B1.out.size; first | omega | (simp <;> omega))); have a0 := Hb.mk (At.re a0.out b2 (by first | exact a0c | simp [go_sem, a0c, a0l]) (by first | exact a0z | simp [go_sem, a0z, a0l])); obtain ⟨a0c, a0z, a0l⟩ := a0.out; have a1 := Hb.mk (At.re a1.out b2 (by first | exact a1c | simp [go_sem, a1c, a1l]) (by first | exact a1z | simp [go_sem, a1z, a1l])); obtain ⟨a1c, a1z, a1l⟩ := a1.out; have a2 := Hb.mk (At.re a2.out b2 (by first | exact a2c | simp [go_sem, a2c, a2l]) (by first | exact a2z | simp [go_sem, a2z, a2l])); obtain ⟨a2c, a2z, a2l⟩ := a2.out; have a3 := Hb.mk (At.re a3.out b2 (by first | exact a3c | simp [go_sem, a3c, a3l]) (by first | exact a3z | simp [go_sem, a3z, a3l])); obtain ⟨a3c, a3z, a3l⟩ := a3.out; have a4 := Hb.mk (At.re a4.out b2 (by first | exact a4c | simp [go_sem, a4c, a4l]) (by first | exact a4z | simp [go_sem, a4z, a4l])); obtain ⟨a4c, a4z, a4l⟩ := a4.out; have a5 := Hb.mk (At.re a5.out b2 (by first | exact a5c | simp [go_sem, a5c, a5l]) (by first | exact a5z | simp [go_sem, a5z, a5l])); obtain ⟨a5c, a5z, a5l⟩ := a5.out; have a6 := Hb.mk (At.re a6.out b2 (by first | exact a6c | simp [go_sem, a6c, a6l]) (by first | exact a6z | simp [go_sem, a6z, a6l])); obtain ⟨a6c, a6z, a6l⟩ := a6.out; have a7 := Hb.mk (At.re a7.out b2 (by first | exact a7c | simp [go_sem, a7c, a7l]) (by first | exact a7z | simp [go_sem, a7z, a7l])); obtain ⟨a7c, a7z, a7l⟩ := a7.out; have a8 := Hb.mk (At.re a8.out b2 (by first | exact a8c | simp [go_sem, a8c, a8l]) (by first | exact a8z | simp [go_sem, a8z, a8l])); obtain ⟨a8c, a8z, a8l⟩ := a8.out; have a9 := Hb.mk (At.re a9.out b2 (by first | exact a9c | simp [go_sem, a9c, a9l]) (by first | exact a9z | simp [go_sem, a9z, a9l])); obtain ⟨a9c, a9z, a9l⟩ := a9.out; have a10 := Hb.mk (At.re a10.out b2 (by first | exact a10c | simp [go_sem, a10c, a10l]) (by first | exact a10z | simp [go_sem, a10z, a10l])); obtain ⟨a10c, a10z, a10l⟩ := a10.out; have a11 := Hb.mk (At.re a11.out b2 (by first | exact a11c | simp [go_sem, a11c, a11l]) (by first | exact a11z | simp [go_sem, a11z, a11l])); obtain ⟨a11c, a11z, a11l⟩ := a11.out; clear b2))
      go_roundw
      case rel =>
        refine ⟨1, by omega, rfl, ⟨(by repeat (first | exact Below.refl _ _ | exact B2.out | refine Below.drews ?_ | refine Below.drew ?_ | refine Below.alloc ?_ (by first | omega | (simp <;> omega)) _ | refine Below.setCell ?_ (by first | omega | (simp <;> omega)) _))⟩, ⟨fun j hj => ?_⟩⟩
        rcases (by omega : j = 0 ∨ j = 1 ∨ j = 2 ∨ j = 3 ∨ j = 4 ∨ j = 5 ∨ j = 6 ∨ j = 7 ∨ j = 8 ∨ j = 9 ∨ j = 10 ∨ j = 11) with rfl | rfl | rfl | rfl | rfl | rfl | rfl | rfl | rfl | rfl | rfl | rfl
        · refine (show At _ ⟨w.heap.size, 0, none⟩ (.float .f32 x0) from ⟨by simp [go_sem, a0c], by simp [go_sem, a0z], by simp [a0l]⟩)
        · refine (show At _ ⟨w.heap.size, 1, none⟩ (.float .f32 y0) from ⟨by simp [go_sem, a1c], by simp [go_sem, a1z], by simp [a1l]⟩)
        · refine (show At _ ⟨w.heap.size, 2, none⟩ (.float .f32 z0) from ⟨by simp [go_sem, a2c], by simp [go_sem, a2z], by simp [a2l]⟩)
        · refine (show At _ ⟨w.heap.size, 3, none⟩ (.float .f32 0) from ⟨by simp [go_sem, a3c], by simp [go_sem, a3z], by simp [a3l]⟩)
        · refine (show At _ ⟨w.heap.size, 4, none⟩ (.float .f32 0) from ⟨by simp [go_sem, a4c], by simp [go_sem, a4z], by simp [a4l]⟩)
        · refine (show At _ ⟨w.heap.size, 5, none⟩ (.float .f32 0) from ⟨by simp [go_sem, a5c], by simp [go_sem, a5z], by simp [a5l]⟩)
        · refine (show At _ ⟨w.heap.size, 6, none⟩ (.float .f32 0) from ⟨by simp [go_sem, a6c], by simp [go_sem, a6z], by simp [a6l]⟩)
        · refine (show At _ ⟨w.heap.size, 7, none⟩ (.float .f32 0) from ⟨by simp [go_sem, a7c], by simp [go_sem, a7z], by simp [a7l]⟩)
        · refine (show At _ ⟨w.heap.size, 8, none⟩ (.float .f32 0) from ⟨by simp [go_sem, a8c], by simp [go_sem, a8z], by simp [a8l]⟩)
        · refine (show At _ ⟨w.heap.size, 9, none⟩ (.float .f32 0) from ⟨by simp [go_sem, a9c], by simp [go_sem, a9z], by simp [a9l]⟩)
        · refine (show At _ ⟨w.heap.size, 10, none⟩ (.float .f32 0) from ⟨by simp [go_sem, a10c], by simp [go_sem, a10z], by simp [a10l]⟩)
        · refine (show At _ ⟨w.heap.size, 11, none⟩ (.float .f32 0) from ⟨by simp [go_sem, a11c], by simp [go_sem, a11z], by simp [a11l]⟩)
      case measure => simp [intOf]
    · have a0 := Hb.mk (show At wr ⟨w.heap.size, 0, none⟩ (.float .f32 x0) from AR.out 0 (by decide)); obtain ⟨a0c, a0z, a0l⟩ := a0.out
      have a1 := Hb.mk (show At wr ⟨w.heap.size, 1, none⟩ (.float .f32 y0) from AR.out 1 (by decide)); obtain ⟨a1c, a1z, a1l⟩ := a1.out
      have a2 := Hb.mk (show At wr ⟨w.heap.size, 2, none⟩ (.float .f32 z0) from AR.out 2 (by decide)); obtain ⟨a2c, a2z, a2l⟩ := a2.out
      have a3 := Hb.mk (show At wr ⟨w.heap.size, 3, none⟩ (.float .f32 0) from AR.out 3 (by decide)); obtain ⟨a3c, a3z, a3l⟩ := a3.out
      have a4 := Hb.mk (show At wr ⟨w.heap.size, 4, none⟩ (.float .f32 0) from AR.out 4 (by decide)); obtain ⟨a4c, a4z, a4l⟩ := a4.out
      have a5 := Hb.mk (show At wr ⟨w.heap.size, 5, none⟩ (.float .f32 0) from AR.out 5 (by decide)); obtain ⟨a5c, a5z, a5l⟩ := a5.out
      have a6 := Hb.mk (show At wr ⟨w.heap.size, 6, none⟩ (.float .f32 0) from AR.out 6 (by decide)); obtain ⟨a6c, a6z, a6l⟩ := a6.out
      have a7 := Hb.mk (show At wr ⟨w.heap.size, 7, none⟩ (.float .f32 0) from AR.out 7 (by decide)); obtain ⟨a7c, a7z, a7l⟩ := a7.out
      have a8 := Hb.mk (show At wr ⟨w.heap.size, 8, none⟩ (.float .f32 0) from AR.out 8 (by decide)); obtain ⟨a8c, a8z, a8l⟩ := a8.out
      have a9 := Hb.mk (show At wr ⟨w.heap.size, 9, none⟩ (.float .f32 0) from AR.out 9 (by decide)); obtain ⟨a9c, a9z, a9l⟩ := a9.out
      have a10 := Hb.mk (show At wr ⟨w.heap.size, 10, none⟩ (.float .f32 0) from AR.out 10 (by decide)); obtain ⟨a10c, a10z, a10l⟩ := a10.out
      have a11 := Hb.mk (show At wr ⟨w.heap.size, 11, none⟩ (.float .f32 0) from AR.out 11 (by decide)); obtain ⟨a11c, a11z, a11l⟩ := a11.out
      clear AR
      go_wp2_with (first | (go_at_call 26; refine (HV1.out _).mono ?_; rintro ex w1 ⟨rfl, b1⟩; have B1 := Hb.mk (Below.on (B := w.heap.size) (a := w) (by repeat (first | exact BR.out | refine Below.drews ?_ | refine Below.drew ?_ | refine Below.alloc ?_ (by have hq_ := BR.out.size; first | omega | (simp <;> omega)) _ | refine Below.setCell ?_ (by have hq_ := BR.out.size; first | omega | (simp <;> omega)) _)) b1 (by have hq_ := BR.out.size; first | omega | (simp <;> omega))); clear b1))
      go_ret2
      exact ⟨rfl, (by repeat (first | exact Below.refl _ _ | exact B1.out | refine Below.drews ?_ | refine Below.drew ?_ | refine Below.alloc ?_ (by first | omega | (simp <;> omega)) _ | refine Below.setCell ?_ (by first | omega | (simp <;> omega)) _))⟩
set_option maxHeartbeats 4000000 in
theorem ws4_no2 {g n0 e0 n1 e1 n2 e2 n3 e3 cn ce : Nat} (f0 : Fl .f32 n0 n0) (h0 : Fl .f32 e0 e0) (f1 : Fl .f32 n1 n1) (h1 : Fl .f32 e1 e1) (f2 : Fl .f32 cn n2) (h2 : Fl .f32 ce e2)  (v0 : validC n0 e0 = true) (v1 : validC n1 e1 = true) (v2 : validC cn ce = false)  (w : World) (c0 : w.cell? ⟨g, 0, none⟩ = some (.float .f32 n0)) (c1 : w.cell? ⟨g, 1, none⟩ = some (.float .f32 e0)) (c2 : w.cell? ⟨g, 2, none⟩ = some (.float .f32 n1)) (c3 : w.cell? ⟨g, 3, none⟩ = some (.float .f32 e1)) (c4 : w.cell? ⟨g, 4, none⟩ = some (.float .f32 n2)) (c5 : w.cell? ⟨g, 5, none⟩ = some (.float .f32 e2)) (c6 : w.cell? ⟨g, 6, none⟩ = some (.float .f32 n3)) (c7 : w.cell? ⟨g, 7, none⟩ = some (.float .f32 e3)) : Calls Tryz.prog 95 #[.slice (some ⟨g, 0, none⟩) 4 4] w (RNo w) := by
  have KV0 := iValidPlace_any f0 h0
  rw [v0] at KV0
  have HV0 := Hb.mk KV0
  obtain ⟨tn0, te0⟩ := turns_of v0
  have KW0 := Hb.mk (wayOf_any f0 h0 tn0 te0)
  clear tn0 te0
  clear KV0 v0
  have KV1 := iValidPlace_any f1 h1
  rw [v1] at KV1
  have HV1 := Hb.mk KV1
  obtain ⟨tn1, te1⟩ := turns_of v1
  have KW1 := Hb.mk (wayOf_any f1 h1 tn1 te1)
  clear tn1 te1
  clear KV1 v1
  have KV2 := iValidPlace_any f2 h2
  rw [v2] at KV2
  have HV2 := Hb.mk KV2
  clear KV2 v2
  generalize wxC n0 e0 = x0 at *
  generalize wyC n0 e0 = y0 at *
  generalize sineC n0 = z0 at *
  generalize wxC n1 e1 = x1 at *
  generalize wyC n1 e1 = y1 at *
  generalize sineC n1 = z1 at *
  obtain ⟨i0, hi, hz0, hz1, hz2⟩ := info_parts (P := Tryz.prog) (e := 87) (z := wy 0 0 0) (size := 3) (bytes := 12) (by kernel_rfl)
  have C0 := Hb.mk c0
  have C1 := Hb.mk c1
  have C2 := Hb.mk c2
  have C3 := Hb.mk c3
  have C4 := Hb.mk c4
  have C5 := Hb.mk c5
  have C6 := Hb.mk c6
  have C7 := Hb.mk c7
  clear c0 c1 c2 c3 c4 c5 c6 c7
  go_enter Tryz.func95, Tryz.ntmps95
  go_wp2_with (at_make; refine wpList_make_full _ rfl _ _ 94 rfl w.heap.size 87 i0 _ 3 Tryz.underlying94 hi hz0 hz1 .i64 .i64 _ _ 4 rfl rfl rfl rfl (by rw [hz2]; decide) (by unfold maxLen; omega) (Nat.le_refl _) ?_; intro w0 hown0 hgrow0; simp only [Act.put, List.setIfInBounds_toArray, List.set_cons_succ, List.set_cons_zero])
  have B0 := Hb.mk ((Below.refl w.heap.size w).grown hgrow0 (Nat.le_refl _) (fun k h => by cases h))
  have r0 : w0.cell? ⟨w.heap.size, 0, none⟩ = some (.float .f32 0) := (hown0.cellAt 0 (by decide)).trans (by kernel_rfl)
  have a0 := Hb.mk (At.mk r0 (hown0.frozenAt 0) (block_lt_of_cell r0))
  clear r0
  have r1 : w0.cell? ⟨w.heap.size, 1, none⟩ = some (.float .f32 0) := (hown0.cellAt 1 (by decide)).trans (by kernel_rfl)
  have a1 := Hb.mk (At.mk r1 (hown0.frozenAt 1) (block_lt_of_cell r1))
  clear r1
  have r2 : w0.cell? ⟨w.heap.size, 2, none⟩ = some (.float .f32 0) := (hown0.cellAt 2 (by decide)).trans (by kernel_rfl)
  have a2 := Hb.mk (At.mk r2 (hown0.frozenAt 2) (block_lt_of_cell r2))
  clear r2
  have r3 : w0.cell? ⟨w.heap.size, 3, none⟩ = some (.float .f32 0) := (hown0.cellAt 3 (by decide)).trans (by kernel_rfl)
  have a3 := Hb.mk (At.mk r3 (hown0.frozenAt 3) (block_lt_of_cell r3))
  clear r3
  have r4 : w0.cell? ⟨w.heap.size, 4, none⟩ = some (.float .f32 0) := (hown0.cellAt 4 (by decide)).trans (by kernel_rfl)
  have a4 := Hb.mk (At.mk r4 (hown0.frozenAt 4) (block_lt_of_cell r4))
  clear r4
  have r5 : w0.cell? ⟨w.heap.size, 5, none⟩ = some (.float .f32 0) := (hown0.cellAt 5 (by decide)).trans (by kernel_rfl)
  have a5 := Hb.mk (At.mk r5 (hown0.frozenAt 5) (block_lt_of_cell r5))
  clear r5
  have r6 : w0.cell? ⟨w.heap.size, 6, none⟩ = some (.float .f32 0) := (hown0.cellAt 6 (by decide)).trans (by kernel_rfl)
  have a6 := Hb.mk (At.mk r6 (hown0.frozenAt 6) (block_lt_of_cell r6))
  clear r6
  have r7 : w0.cell? ⟨w.heap.size, 7, none⟩ = some (.float .f32 0) := (hown0.cellAt 7 (by decide)).trans (by kernel_rfl)
  have a7 := Hb.mk (At.mk r7 (hown0.frozenAt 7) (block_lt_of_cell r7))
  clear r7
  have r8 : w0.cell? ⟨w.heap.size, 8, none⟩ = some (.float .f32 0) := (hown0.cellAt 8 (by decide)).trans (by kernel_rfl)
  have a8 := Hb.mk (At.mk r8 (hown0.frozenAt 8) (block_lt_of_cell r8))
  clear r8
  have r9 : w0.cell? ⟨w.heap.size, 9, none⟩ = some (.float .f32 0) := (hown0.cellAt 9 (by decide)).trans (by kernel_rfl)
  have a9 := Hb.mk (At.mk r9 (hown0.frozenAt 9) (block_lt_of_cell r9))
  clear r9
  have r10 : w0.cell? ⟨w.heap.size, 10, none⟩ = some (.float .f32 0) := (hown0.cellAt 10 (by decide)).trans (by kernel_rfl)
  have a10 := Hb.mk (At.mk r10 (hown0.frozenAt 10) (block_lt_of_cell r10))
  clear r10
  have r11 : w0.cell? ⟨w.heap.size, 11, none⟩ = some (.float .f32 0) := (hown0.cellAt 11 (by decide)).trans (by kernel_rfl)
  have a11 := Hb.mk (At.mk r11 (hown0.frozenAt 11) (block_lt_of_cell r11))
  clear r11
  clear hown0 hgrow0
  go_loopw [12] (fun i wr => ∃ m : Nat, m ≤ 2 ∧ i = .int .i64 m ∧ Hb (Below w.heap.size w wr) ∧ Hb (∀ j, j < 12 → At wr ⟨w.heap.size, j, none⟩ (.float .f32 (vals [x0, y0, z0, x1, y1, z1, 0, 0, 0, 0, 0, 0] m j)))) (fun i _ => (4 - (intOf i).toNat))
  case atStart => exact ⟨0, by omega, rfl, B0, ⟨fun j hj => by
    rcases (by omega : j = 0 ∨ j = 1 ∨ j = 2 ∨ j = 3 ∨ j = 4 ∨ j = 5 ∨ j = 6 ∨ j = 7 ∨ j = 8 ∨ j = 9 ∨ j = 10 ∨ j = 11) with rfl | rfl | rfl | rfl | rfl | rfl | rfl | rfl | rfl | rfl | rfl | rfl
    · exact a0.out
    · exact a1.out
    · exact a2.out
    · exact a3.out
    · exact a4.out
    · exact a5.out
    · exact a6.out
    · exact a7.out
    · exact a8.out
    · exact a9.out
    · exact a10.out
    · exact a11.out⟩⟩
  case round =>
    obtain ⟨m, hm, rfl, BR, AR⟩ := hrel
    clear a0 a1 a2 a3 a4 a5 a6 a7 a8 a9 a10 a11 B0
    have s0 := Below.keep BR.out C0.out
    have s1 := Below.keep BR.out C1.out
    have s2 := Below.keep BR.out C2.out
    have s3 := Below.keep BR.out C3.out
    have s4 := Below.keep BR.out C4.out
    have s5 := Below.keep BR.out C5.out
    have s6 := Below.keep BR.out C6.out
    have s7 := Below.keep BR.out C7.out
    rcases (by omega : m = 0 ∨ m = 1 ∨ m = 2) with rfl | rfl | rfl
    · have a0 := Hb.mk (show At wr ⟨w.heap.size, 0, none⟩ (.float .f32 0) from AR.out 0 (by decide)); obtain ⟨a0c, a0z, a0l⟩ := a0.out
      have a1 := Hb.mk (show At wr ⟨w.heap.size, 1, none⟩ (.float .f32 0) from AR.out 1 (by decide)); obtain ⟨a1c, a1z, a1l⟩ := a1.out
      have a2 := Hb.mk (show At wr ⟨w.heap.size, 2, none⟩ (.float .f32 0) from AR.out 2 (by decide)); obtain ⟨a2c, a2z, a2l⟩ := a2.out
      have a3 := Hb.mk (show At wr ⟨w.heap.size, 3, none⟩ (.float .f32 0) from AR.out 3 (by decide)); obtain ⟨a3c, a3z, a3l⟩ := a3.out
      have a4 := Hb.mk (show At wr ⟨w.heap.size, 4, none⟩ (.float .f32 0) from AR.out 4 (by decide)); obtain ⟨a4c, a4z, a4l⟩ := a4.out
      have a5 := Hb.mk (show At wr ⟨w.heap.size, 5, none⟩ (.float .f32 0) from AR.out 5 (by decide)); obtain ⟨a5c, a5z, a5l⟩ := a5.out
      have a6 := Hb.mk (show At wr ⟨w.heap.size, 6, none⟩ (.float .f32 0) from AR.out 6 (by decide)); obtain ⟨a6c, a6z, a6l⟩ := a6.out
      have a7 := Hb.mk (show At wr ⟨w.heap.size, 7, none⟩ (.float .f32 0) from AR.out 7 (by decide)); obtain ⟨a7c, a7z, a7l⟩ := a7.out
      have a8 := Hb.mk (show At wr ⟨w.heap.size, 8, none⟩ (.float .f32 0) from AR.out 8 (by decide)); obtain ⟨a8c, a8z, a8l⟩ := a8.out
      have a9 := Hb.mk (show At wr ⟨w.heap.size, 9, none⟩ (.float .f32 0) from AR.out 9 (by decide)); obtain ⟨a9c, a9z, a9l⟩ := a9.out
      have a10 := Hb.mk (show At wr ⟨w.heap.size, 10, none⟩ (.float .f32 0) from AR.out 10 (by decide)); obtain ⟨a10c, a10z, a10l⟩ := a10.out
      have a11 := Hb.mk (show At wr ⟨w.heap.size, 11, none⟩ (.float .f32 0) from AR.out 11 (by decide)); obtain ⟨a11c, a11z, a11l⟩ := a11.out
      clear AR
      go_wp2_with (first | (go_at_call 26; refine (HV0.out _).mono ?_; rintro ex w1 ⟨rfl, b1⟩; have B1 := Hb.mk (Below.on (B := w.heap.size) (a := w) (by repeat (first | exact BR.out | refine Below.drews ?_ | refine Below.drew ?_ | refine Below.alloc ?_ (by have hq_ := BR.out.size; first | omega | (simp <;> omega)) _ | refine Below.setCell ?_ (by have hq_ := BR.out.size; first | omega | (simp <;> omega)) _)) b1 (by have hq_ := BR.out.size; first | omega | (simp <;> omega))); have p0 := Hb.mk (At.keep b1 (p := ⟨wr.heap.size, 0, none⟩) (v := .float .f32 n0) (by simp [go_sem]) (by simp [go_sem])); obtain ⟨p0c, p0z, p0l⟩ := p0.out; have p1 := Hb.mk (At.keep b1 (p := ⟨wr.heap.size, 1, none⟩) (v := .float .f32 e0) (by simp [go_sem]) (by simp [go_sem])); obtain ⟨p1c, p1z, p1l⟩ := p1.out; have a0 := Hb.mk (At.re a0.out b1 (by first | exact a0c | simp [go_sem, a0c, a0l]) (by first | exact a0z | simp [go_sem, a0z, a0l])); obtain ⟨a0c, a0z, a0l⟩ := a0.out; have a1 := Hb.mk (At.re a1.out b1 (by first | exact a1c | simp [go_sem, a1c, a1l]) (by first | exact a1z | simp [go_sem, a1z, a1l])); obtain ⟨a1c, a1z, a1l⟩ := a1.out; have a2 := Hb.mk (At.re a2.out b1 (by first | exact a2c | simp [go_sem, a2c, a2l]) (by first | exact a2z | simp [go_sem, a2z, a2l])); obtain ⟨a2c, a2z, a2l⟩ := a2.out; have a3 := Hb.mk (At.re a3.out b1 (by first | exact a3c | simp [go_sem, a3c, a3l]) (by first | exact a3z | simp [go_sem, a3z, a3l])); obtain ⟨a3c, a3z, a3l⟩ := a3.out; have a4 := Hb.mk (At.re a4.out b1 (by first | exact a4c | simp [go_sem, a4c, a4l]) (by first | exact a4z | simp [go_sem, a4z, a4l])); obtain ⟨a4c, a4z, a4l⟩ := a4.out; have a5 := Hb.mk (At.re a5.out b1 (by first | exact a5c | simp [go_sem, a5c, a5l]) (by first | exact a5z | simp [go_sem, a5z, a5l])); obtain ⟨a5c, a5z, a5l⟩ := a5.out; have a6 := Hb.mk (At.re a6.out b1 (by first | exact a6c | simp [go_sem, a6c, a6l]) (by first | exact a6z | simp [go_sem, a6z, a6l])); obtain ⟨a6c, a6z, a6l⟩ := a6.out; have a7 := Hb.mk (At.re a7.out b1 (by first | exact a7c | simp [go_sem, a7c, a7l]) (by first | exact a7z | simp [go_sem, a7z, a7l])); obtain ⟨a7c, a7z, a7l⟩ := a7.out; have a8 := Hb.mk (At.re a8.out b1 (by first | exact a8c | simp [go_sem, a8c, a8l]) (by first | exact a8z | simp [go_sem, a8z, a8l])); obtain ⟨a8c, a8z, a8l⟩ := a8.out; have a9 := Hb.mk (At.re a9.out b1 (by first | exact a9c | simp [go_sem, a9c, a9l]) (by first | exact a9z | simp [go_sem, a9z, a9l])); obtain ⟨a9c, a9z, a9l⟩ := a9.out; have a10 := Hb.mk (At.re a10.out b1 (by first | exact a10c | simp [go_sem, a10c, a10l]) (by first | exact a10z | simp [go_sem, a10z, a10l])); obtain ⟨a10c, a10z, a10l⟩ := a10.out; have a11 := Hb.mk (At.re a11.out b1 (by first | exact a11c | simp [go_sem, a11c, a11l]) (by first | exact a11z | simp [go_sem, a11z, a11l])); obtain ⟨a11c, a11z, a11l⟩ := a11.out; clear b1) | (go_at_call 122; refine (KW0.out _).mono ?_; rintro ex w2 ⟨rfl, b2⟩; have B2 := Hb.mk (Below.on (B := w.heap.size) (a := w) (by repeat (first | exact B1.out | refine Below.drews ?_ | refine Below.drew ?_ | refine Below.alloc ?_ (by have hq_ := B1.out.size; first | omega | (simp <;> omega)) _ | refine Below.setCell ?_ (by have hq_ := B1.out.size; first | omega | (simp <;> omega)) _)) b2 (by have hq_ := B1.out.size; first | omega | (simp <;> omega))); have a0 := Hb.mk (At.re a0.out b2 (by first | exact a0c | simp [go_sem, a0c, a0l]) (by first | exact a0z | simp [go_sem, a0z, a0l])); obtain ⟨a0c, a0z, a0l⟩ := a0.out; have a1 := Hb.mk (At.re a1.out b2 (by first | exact a1c | simp [go_sem, a1c, a1l]) (by first | exact a1z | simp [go_sem, a1z, a1l])); obtain ⟨a1c, a1z, a1l⟩ := a1.out; have a2 := Hb.mk (At.re a2.out b2 (by first | exact a2c | simp [go_sem, a2c, a2l]) (by first | exact a2z | simp [go_sem, a2z, a2l])); obtain ⟨a2c, a2z, a2l⟩ := a2.out; have a3 := Hb.mk (At.re a3.out b2 (by first | exact a3c | simp [go_sem, a3c, a3l]) (by first | exact a3z | simp [go_sem, a3z, a3l])); obtain ⟨a3c, a3z, a3l⟩ := a3.out; have a4 := Hb.mk (At.re a4.out b2 (by first | exact a4c | simp [go_sem, a4c, a4l]) (by first | exact a4z | simp [go_sem, a4z, a4l])); obtain ⟨a4c, a4z, a4l⟩ := a4.out; have a5 := Hb.mk (At.re a5.out b2 (by first | exact a5c | simp [go_sem, a5c, a5l]) (by first | exact a5z | simp [go_sem, a5z, a5l])); obtain ⟨a5c, a5z, a5l⟩ := a5.out; have a6 := Hb.mk (At.re a6.out b2 (by first | exact a6c | simp [go_sem, a6c, a6l]) (by first | exact a6z | simp [go_sem, a6z, a6l])); obtain ⟨a6c, a6z, a6l⟩ := a6.out; have a7 := Hb.mk (At.re a7.out b2 (by first | exact a7c | simp [go_sem, a7c, a7l]) (by first | exact a7z | simp [go_sem, a7z, a7l])); obtain ⟨a7c, a7z, a7l⟩ := a7.out; have a8 := Hb.mk (At.re a8.out b2 (by first | exact a8c | simp [go_sem, a8c, a8l]) (by first | exact a8z | simp [go_sem, a8z, a8l])); obtain ⟨a8c, a8z, a8l⟩ := a8.out; have a9 := Hb.mk (At.re a9.out b2 (by first | exact a9c | simp [go_sem, a9c, a9l]) (by first | exact a9z | simp [go_sem, a9z, a9l])); obtain ⟨a9c, a9z, a9l⟩ := a9.out; have a10 := Hb.mk (At.re a10.out b2 (by first | exact a10c | simp [go_sem, a10c, a10l]) (by first | exact a10z | simp [go_sem, a10z, a10l])); obtain ⟨a10c, a10z, a10l⟩ := a10.out; have a11 := Hb.mk (At.re a11.out b2 (by first | exact a11c | simp [go_sem, a11c, a11l]) (by first | exact a11z | simp [go_sem, a11z, a11l])); obtain ⟨a11c, a11z, a11l⟩ := a11.out; clear b2))
      go_roundw
      case rel =>
        refine ⟨1, by omega, rfl, ⟨(by repeat (first | exact Below.refl _ _ | exact B2.out | refine Below.drews ?_ | refine Below.drew ?_ | refine Below.alloc ?_ (by first | omega | (simp <;> omega)) _ | refine Below.setCell ?_ (by first | omega | (simp <;> omega)) _))⟩, ⟨fun j hj => ?_⟩⟩
        rcases (by omega : j = 0 ∨ j = 1 ∨ j = 2 ∨ j = 3 ∨ j = 4 ∨ j = 5 ∨ j = 6 ∨ j = 7 ∨ j = 8 ∨ j = 9 ∨ j = 10 ∨ j = 11) with rfl | rfl | rfl | rfl | rfl | rfl | rfl | rfl | rfl | rfl | rfl | rfl
        · refine (show At _ ⟨w.heap.size, 0, none⟩ (.float .f32 x0) from ⟨by simp [go_sem, a0c], by simp [go_sem, a0z], by simp [a0l]⟩)
        · refine (show At _ ⟨w.heap.size, 1, none⟩ (.float .f32 y0) from ⟨by simp [go_sem, a1c], by simp [go_sem, a1z], by simp [a1l]⟩)
        · refine (show At _ ⟨w.heap.size, 2, none⟩ (.float .f32 z0) from ⟨by simp [go_sem, a2c], by simp [go_sem, a2z], by simp [a2l]⟩)
        · refine (show At _ ⟨w.heap.size, 3, none⟩ (.float .f32 0) from ⟨by simp [go_sem, a3c], by simp [go_sem, a3z], by simp [a3l]⟩)
        · refine (show At _ ⟨w.heap.size, 4, none⟩ (.float .f32 0) from ⟨by simp [go_sem, a4c], by simp [go_sem, a4z], by simp [a4l]⟩)
        · refine (show At _ ⟨w.heap.size, 5, none⟩ (.float .f32 0) from ⟨by simp [go_sem, a5c], by simp [go_sem, a5z], by simp [a5l]⟩)
        · refine (show At _ ⟨w.heap.size, 6, none⟩ (.float .f32 0) from ⟨by simp [go_sem, a6c], by simp [go_sem, a6z], by simp [a6l]⟩)
        · refine (show At _ ⟨w.heap.size, 7, none⟩ (.float .f32 0) from ⟨by simp [go_sem, a7c], by simp [go_sem, a7z], by simp [a7l]⟩)
        · refine (show At _ ⟨w.heap.size, 8, none⟩ (.float .f32 0) from ⟨by simp [go_sem, a8c], by simp [go_sem, a8z], by simp [a8l]⟩)
        · refine (show At _ ⟨w.heap.size, 9, none⟩ (.float .f32 0) from ⟨by simp [go_sem, a9c], by simp [go_sem, a9z], by simp [a9l]⟩)
        · refine (show At _ ⟨w.heap.size, 10, none⟩ (.float .f32 0) from ⟨by simp [go_sem, a10c], by simp [go_sem, a10z], by simp [a10l]⟩)
        · refine (show At _ ⟨w.heap.size, 11, none⟩ (.float .f32 0) from ⟨by simp [go_sem, a11c], by simp [go_sem, a11z], by simp [a11l]⟩)
      case measure => simp [intOf]
    · have a0 := Hb.mk (show At wr ⟨w.heap.size, 0, none⟩ (.float .f32 x0) from AR.out 0 (by decide)); obtain ⟨a0c, a0z, a0l⟩ := a0.out
      have a1 := Hb.mk (show At wr ⟨w.heap.size, 1, none⟩ (.float .f32 y0) from AR.out 1 (by decide)); obtain ⟨a1c, a1z, a1l⟩ := a1.out
      have a2 := Hb.mk (show At wr ⟨w.heap.size, 2, none⟩ (.float .f32 z0) from AR.out 2 (by decide)); obtain ⟨a2c, a2z, a2l⟩ := a2.out
      have a3 := Hb.mk (show At wr ⟨w.heap.size, 3, none⟩ (.float .f32 0) from AR.out 3 (by decide)); obtain ⟨a3c, a3z, a3l⟩ := a3.out
      have a4 := Hb.mk (show At wr ⟨w.heap.size, 4, none⟩ (.float .f32 0) from AR.out 4 (by decide)); obtain ⟨a4c, a4z, a4l⟩ := a4.out
      have a5 := Hb.mk (show At wr ⟨w.heap.size, 5, none⟩ (.float .f32 0) from AR.out 5 (by decide)); obtain ⟨a5c, a5z, a5l⟩ := a5.out
      have a6 := Hb.mk (show At wr ⟨w.heap.size, 6, none⟩ (.float .f32 0) from AR.out 6 (by decide)); obtain ⟨a6c, a6z, a6l⟩ := a6.out
      have a7 := Hb.mk (show At wr ⟨w.heap.size, 7, none⟩ (.float .f32 0) from AR.out 7 (by decide)); obtain ⟨a7c, a7z, a7l⟩ := a7.out
      have a8 := Hb.mk (show At wr ⟨w.heap.size, 8, none⟩ (.float .f32 0) from AR.out 8 (by decide)); obtain ⟨a8c, a8z, a8l⟩ := a8.out
      have a9 := Hb.mk (show At wr ⟨w.heap.size, 9, none⟩ (.float .f32 0) from AR.out 9 (by decide)); obtain ⟨a9c, a9z, a9l⟩ := a9.out
      have a10 := Hb.mk (show At wr ⟨w.heap.size, 10, none⟩ (.float .f32 0) from AR.out 10 (by decide)); obtain ⟨a10c, a10z, a10l⟩ := a10.out
      have a11 := Hb.mk (show At wr ⟨w.heap.size, 11, none⟩ (.float .f32 0) from AR.out 11 (by decide)); obtain ⟨a11c, a11z, a11l⟩ := a11.out
      clear AR
      go_wp2_with (first | (go_at_call 26; refine (HV1.out _).mono ?_; rintro ex w1 ⟨rfl, b1⟩; have B1 := Hb.mk (Below.on (B := w.heap.size) (a := w) (by repeat (first | exact BR.out | refine Below.drews ?_ | refine Below.drew ?_ | refine Below.alloc ?_ (by have hq_ := BR.out.size; first | omega | (simp <;> omega)) _ | refine Below.setCell ?_ (by have hq_ := BR.out.size; first | omega | (simp <;> omega)) _)) b1 (by have hq_ := BR.out.size; first | omega | (simp <;> omega))); have p0 := Hb.mk (At.keep b1 (p := ⟨wr.heap.size, 0, none⟩) (v := .float .f32 n1) (by simp [go_sem]) (by simp [go_sem])); obtain ⟨p0c, p0z, p0l⟩ := p0.out; have p1 := Hb.mk (At.keep b1 (p := ⟨wr.heap.size, 1, none⟩) (v := .float .f32 e1) (by simp [go_sem]) (by simp [go_sem])); obtain ⟨p1c, p1z, p1l⟩ := p1.out; have a0 := Hb.mk (At.re a0.out b1 (by first | exact a0c | simp [go_sem, a0c, a0l]) (by first | exact a0z | simp [go_sem, a0z, a0l])); obtain ⟨a0c, a0z, a0l⟩ := a0.out; have a1 := Hb.mk (At.re a1.out b1 (by first | exact a1c | simp [go_sem, a1c, a1l]) (by first | exact a1z | simp [go_sem, a1z, a1l])); obtain ⟨a1c, a1z, a1l⟩ := a1.out; have a2 := Hb.mk (At.re a2.out b1 (by first | exact a2c | simp [go_sem, a2c, a2l]) (by first | exact a2z | simp [go_sem, a2z, a2l])); obtain ⟨a2c, a2z, a2l⟩ := a2.out; have a3 := Hb.mk (At.re a3.out b1 (by first | exact a3c | simp [go_sem, a3c, a3l]) (by first | exact a3z | simp [go_sem, a3z, a3l])); obtain ⟨a3c, a3z, a3l⟩ := a3.out; have a4 := Hb.mk (At.re a4.out b1 (by first | exact a4c | simp [go_sem, a4c, a4l]) (by first | exact a4z | simp [go_sem, a4z, a4l])); obtain ⟨a4c, a4z, a4l⟩ := a4.out; have a5 := Hb.mk (At.re a5.out b1 (by first | exact a5c | simp [go_sem, a5c, a5l]) (by first | exact a5z | simp [go_sem, a5z, a5l])); obtain ⟨a5c, a5z, a5l⟩ := a5.out; have a6 := Hb.mk (At.re a6.out b1 (by first | exact a6c | simp [go_sem, a6c, a6l]) (by first | exact a6z | simp [go_sem, a6z, a6l])); obtain ⟨a6c, a6z, a6l⟩ := a6.out; have a7 := Hb.mk (At.re a7.out b1 (by first | exact a7c | simp [go_sem, a7c, a7l]) (by first | exact a7z | simp [go_sem, a7z, a7l])); obtain ⟨a7c, a7z, a7l⟩ := a7.out; have a8 := Hb.mk (At.re a8.out b1 (by first | exact a8c | simp [go_sem, a8c, a8l]) (by first | exact a8z | simp [go_sem, a8z, a8l])); obtain ⟨a8c, a8z, a8l⟩ := a8.out; have a9 := Hb.mk (At.re a9.out b1 (by first | exact a9c | simp [go_sem, a9c, a9l]) (by first | exact a9z | simp [go_sem, a9z, a9l])); obtain ⟨a9c, a9z, a9l⟩ := a9.out; have a10 := Hb.mk (At.re a10.out b1 (by first | exact a10c | simp [go_sem, a10c, a10l]) (by first | exact a10z | simp [go_sem, a10z, a10l])); obtain ⟨a10c, a10z, a10l⟩ := a10.out; have a11 := Hb.mk (At.re a11.out b1 (by first | exact a11c | simp [go_sem, a11c, a11l]) (by first | exact a11z | simp [go_sem, a11z, a11l])); obtain ⟨a11c, a11z, a11l⟩ := a11.out; clear b1) | (go_at_call 122; refine (KW1.out _).mono ?_; rintro ex w2 ⟨rfl, b2⟩; have B2 := Hb.mk (Below.on (B := w.heap.size) (a := w) (by repeat (first | exact B1.out | refine Below.drews ?_ | refine Below.drew ?_ | refine Below.alloc ?_ (by have hq_ := B1.out.size; first | omega | (simp <;> omega)) _ | refine Below.setCell ?_ (by have hq_ := B1.out.size; first | omega | (simp <;> omega)) _)) b2 (by have hq_ := B1.out.size; first | omega | (simp <;> omega))); have a0 := Hb.mk (At.re a0.out b2 (by first | exact a0c | simp [go_sem, a0c, a0l]) (by first | exact a0z | simp [go_sem, a0z, a0l])); obtain ⟨a0c, a0z, a0l⟩ := a0.out; have a1 := Hb.mk (At.re a1.out b2 (by first | exact a1c | simp [go_sem, a1c, a1l]) (by first | exact a1z | simp [go_sem, a1z, a1l])); obtain ⟨a1c, a1z, a1l⟩ := a1.out; have a2 := Hb.mk (At.re a2.out b2 (by first | exact a2c | simp [go_sem, a2c, a2l]) (by first | exact a2z | simp [go_sem, a2z, a2l])); obtain ⟨a2c, a2z, a2l⟩ := a2.out; have a3 := Hb.mk (At.re a3.out b2 (by first | exact a3c | simp [go_sem, a3c, a3l]) (by first | exact a3z | simp [go_sem, a3z, a3l])); obtain ⟨a3c, a3z, a3l⟩ := a3.out; have a4 := Hb.mk (At.re a4.out b2 (by first | exact a4c | simp [go_sem, a4c, a4l]) (by first | exact a4z | simp [go_sem, a4z, a4l])); obtain ⟨a4c, a4z, a4l⟩ := a4.out; have a5 := Hb.mk (At.re a5.out b2 (by first | exact a5c | simp [go_sem, a5c, a5l]) (by first | exact a5z | simp [go_sem, a5z, a5l])); obtain ⟨a5c, a5z, a5l⟩ := a5.out; have a6 := Hb.mk (At.re a6.out b2 (by first | exact a6c | simp [go_sem, a6c, a6l]) (by first | exact a6z | simp [go_sem, a6z, a6l])); obtain ⟨a6c, a6z, a6l⟩ := a6.out; have a7 := Hb.mk (At.re a7.out b2 (by first | exact a7c | simp [go_sem, a7c, a7l]) (by first | exact a7z | simp [go_sem, a7z, a7l])); obtain ⟨a7c, a7z, a7l⟩ := a7.out; have a8 := Hb.mk (At.re a8.out b2 (by first | exact a8c | simp [go_sem, a8c, a8l]) (by first | exact a8z | simp [go_sem, a8z, a8l])); obtain ⟨a8c, a8z, a8l⟩ := a8.out; have a9 := Hb.mk (At.re a9.out b2 (by first | exact a9c | simp [go_sem, a9c, a9l]) (by first | exact a9z | simp [go_sem, a9z, a9l])); obtain ⟨a9c, a9z, a9l⟩ := a9.out; have a10 := Hb.mk (At.re a10.out b2 (by first | exact a10c | simp [go_sem, a10c, a10l]) (by first | exact a10z | simp [go_sem, a10z, a10l])); obtain ⟨a10c, a10z, a10l⟩ := a10.out; have a11 := Hb.mk (At.re a11.out b2 (by first | exact a11c | simp [go_sem, a11c, a11l]) (by first | exact a11z | simp [go_sem, a11z, a11l])); obtain ⟨a11c, a11z, a11l⟩ := a11.out; clear b2))
      go_roundw
      case rel =>
        refine ⟨2, by omega, rfl, ⟨(by repeat (first | exact Below.refl _ _ | exact B2.out | refine Below.drews ?_ | refine Below.drew ?_ | refine Below.alloc ?_ (by first | omega | (simp <;> omega)) _ | refine Below.setCell ?_ (by first | omega | (simp <;> omega)) _))⟩, ⟨fun j hj => ?_⟩⟩
        rcases (by omega : j = 0 ∨ j = 1 ∨ j = 2 ∨ j = 3 ∨ j = 4 ∨ j = 5 ∨ j = 6 ∨ j = 7 ∨ j = 8 ∨ j = 9 ∨ j = 10 ∨ j = 11) with rfl | rfl | rfl | rfl | rfl | rfl | rfl | rfl | rfl | rfl | rfl | rfl
        · refine (show At _ ⟨w.heap.size, 0, none⟩ (.float .f32 x0) from ⟨by simp [go_sem, a0c], by simp [go_sem, a0z], by simp [a0l]⟩)
        · refine (show At _ ⟨w.heap.size, 1, none⟩ (.float .f32 y0) from ⟨by simp [go_sem, a1c], by simp [go_sem, a1z], by simp [a1l]⟩)
        · refine (show At _ ⟨w.heap.size, 2, none⟩ (.float .f32 z0) from ⟨by simp [go_sem, a2c], by simp [go_sem, a2z], by simp [a2l]⟩)
        · refine (show At _ ⟨w.heap.size, 3, none⟩ (.float .f32 x1) from ⟨by simp [go_sem, a3c], by simp [go_sem, a3z], by simp [a3l]⟩)
        · refine (show At _ ⟨w.heap.size, 4, none⟩ (.float .f32 y1) from ⟨by simp [go_sem, a4c], by simp [go_sem, a4z], by simp [a4l]⟩)
        · refine (show At _ ⟨w.heap.size, 5, none⟩ (.float .f32 z1) from ⟨by simp [go_sem, a5c], by simp [go_sem, a5z], by simp [a5l]⟩)
        · refine (show At _ ⟨w.heap.size, 6, none⟩ (.float .f32 0) from ⟨by simp [go_sem, a6c], by simp [go_sem, a6z], by simp [a6l]⟩)
        · refine (show At _ ⟨w.heap.size, 7, none⟩ (.float .f32 0) from ⟨by simp [go_sem, a7c], by simp [go_sem, a7z], by simp [a7l]⟩)
        · refine (show At _ ⟨w.heap.size, 8, none⟩ (.float .f32 0) from ⟨by simp [go_sem, a8c], by simp [go_sem, a8z], by simp [a8l]⟩)
        · refine (show At _ ⟨w.heap.size, 9, none⟩ (.float .f32 0) from ⟨by simp [go_sem, a9c], by simp [go_sem, a9z], by simp [a9l]⟩)
        · refine (show At _ ⟨w.heap.size, 10, none⟩ (.float .f32 0) from ⟨by simp [go_sem, a10c], by simp [go_sem, a10z], by simp [a10l]⟩)
        · refine (show At _ ⟨w.heap.size, 11, none⟩ (.float .f32 0) from ⟨by simp [go_sem, a11c], by simp [go_sem, a11z], by simp [a11l]⟩)
      case measure => simp [intOf]
    · have a0 := Hb.mk (show At wr ⟨w.heap.size, 0, none⟩ (.float .f32 x0) from AR.out 0 (by decide)); obtain ⟨a0c, a0z, a0l⟩ := a0.out
      have a1 := Hb.mk (show At wr ⟨w.heap.size, 1, none⟩ (.float .f32 y0) from AR.out 1 (by decide)); obtain ⟨a1c, a1z, a1l⟩ := a1.out
      have a2 := Hb.mk (show At wr ⟨w.heap.size, 2, none⟩ (.float .f32 z0) from AR.out 2 (by decide)); obtain ⟨a2c, a2z, a2l⟩ := a2.out
      have a3 := Hb.mk (show At wr ⟨w.heap.size, 3, none⟩ (.float .f32 x1) from AR.out 3 (by decide)); obtain ⟨a3c, a3z, a3l⟩ := a3.out
      have a4 := Hb.mk (show At wr ⟨w.heap.size, 4, none⟩ (.float .f32 y1) from AR.out 4 (by decide)); obtain ⟨a4c, a4z, a4l⟩ := a4.out
      have a5 := Hb.mk (show At wr ⟨w.heap.size, 5, none⟩ (.float .f32 z1) from AR.out 5 (by decide)); obtain ⟨a5c, a5z, a5l⟩ := a5.out
      have a6 := Hb.mk (show At wr ⟨w.heap.size, 6, none⟩ (.float .f32 0) from AR.out 6 (by decide)); obtain ⟨a6c, a6z, a6l⟩ := a6.out
      have a7 := Hb.mk (show At wr ⟨w.heap.size, 7, none⟩ (.float .f32 0) from AR.out 7 (by decide)); obtain ⟨a7c, a7z, a7l⟩ := a7.out
      have a8 := Hb.mk (show At wr ⟨w.heap.size, 8, none⟩ (.float .f32 0) from AR.out 8 (by decide)); obtain ⟨a8c, a8z, a8l⟩ := a8.out
      have a9 := Hb.mk (show At wr ⟨w.heap.size, 9, none⟩ (.float .f32 0) from AR.out 9 (by decide)); obtain ⟨a9c, a9z, a9l⟩ := a9.out
      have a10 := Hb.mk (show At wr ⟨w.heap.size, 10, none⟩ (.float .f32 0) from AR.out 10 (by decide)); obtain ⟨a10c, a10z, a10l⟩ := a10.out
      have a11 := Hb.mk (show At wr ⟨w.heap.size, 11, none⟩ (.float .f32 0) from AR.out 11 (by decide)); obtain ⟨a11c, a11z, a11l⟩ := a11.out
      clear AR
      go_wp2_with (first | (go_at_call 26; refine (HV2.out _).mono ?_; rintro ex w1 ⟨rfl, b1⟩; have B1 := Hb.mk (Below.on (B := w.heap.size) (a := w) (by repeat (first | exact BR.out | refine Below.drews ?_ | refine Below.drew ?_ | refine Below.alloc ?_ (by have hq_ := BR.out.size; first | omega | (simp <;> omega)) _ | refine Below.setCell ?_ (by have hq_ := BR.out.size; first | omega | (simp <;> omega)) _)) b1 (by have hq_ := BR.out.size; first | omega | (simp <;> omega))); clear b1))
      go_ret2
      exact ⟨rfl, (by repeat (first | exact Below.refl _ _ | exact B1.out | refine Below.drews ?_ | refine Below.drew ?_ | refine Below.alloc ?_ (by first | omega | (simp <;> omega)) _ | refine Below.setCell ?_ (by first | omega | (simp <;> omega)) _))⟩
set_option maxHeartbeats 4000000 in
theorem ws4_no3 {g n0 e0 n1 e1 n2 e2 n3 e3 cn ce : Nat} (f0 : Fl .f32 n0 n0) (h0 : Fl .f32 e0 e0) (f1 : Fl .f32 n1 n1) (h1 : Fl .f32 e1 e1) (f2 : Fl .f32 n2 n2) (h2 : Fl .f32 e2 e2) (f3 : Fl .f32 cn n3) (h3 : Fl .f32 ce e3) (v0 : validC n0 e0 = true) (v1 : validC n1 e1 = true) (v2 : validC n2 e2 = true) (v3 : validC cn ce = false) (w : World) (c0 : w.cell? ⟨g, 0, none⟩ = some (.float .f32 n0)) (c1 : w.cell? ⟨g, 1, none⟩ = some (.float .f32 e0)) (c2 : w.cell? ⟨g, 2, none⟩ = some (.float .f32 n1)) (c3 : w.cell? ⟨g, 3, none⟩ = some (.float .f32 e1)) (c4 : w.cell? ⟨g, 4, none⟩ = some (.float .f32 n2)) (c5 : w.cell? ⟨g, 5, none⟩ = some (.float .f32 e2)) (c6 : w.cell? ⟨g, 6, none⟩ = some (.float .f32 n3)) (c7 : w.cell? ⟨g, 7, none⟩ = some (.float .f32 e3)) : Calls Tryz.prog 95 #[.slice (some ⟨g, 0, none⟩) 4 4] w (RNo w) := by
  have KV0 := iValidPlace_any f0 h0
  rw [v0] at KV0
  have HV0 := Hb.mk KV0
  obtain ⟨tn0, te0⟩ := turns_of v0
  have KW0 := Hb.mk (wayOf_any f0 h0 tn0 te0)
  clear tn0 te0
  clear KV0 v0
  have KV1 := iValidPlace_any f1 h1
  rw [v1] at KV1
  have HV1 := Hb.mk KV1
  obtain ⟨tn1, te1⟩ := turns_of v1
  have KW1 := Hb.mk (wayOf_any f1 h1 tn1 te1)
  clear tn1 te1
  clear KV1 v1
  have KV2 := iValidPlace_any f2 h2
  rw [v2] at KV2
  have HV2 := Hb.mk KV2
  obtain ⟨tn2, te2⟩ := turns_of v2
  have KW2 := Hb.mk (wayOf_any f2 h2 tn2 te2)
  clear tn2 te2
  clear KV2 v2
  have KV3 := iValidPlace_any f3 h3
  rw [v3] at KV3
  have HV3 := Hb.mk KV3
  clear KV3 v3
  generalize wxC n0 e0 = x0 at *
  generalize wyC n0 e0 = y0 at *
  generalize sineC n0 = z0 at *
  generalize wxC n1 e1 = x1 at *
  generalize wyC n1 e1 = y1 at *
  generalize sineC n1 = z1 at *
  generalize wxC n2 e2 = x2 at *
  generalize wyC n2 e2 = y2 at *
  generalize sineC n2 = z2 at *
  obtain ⟨i0, hi, hz0, hz1, hz2⟩ := info_parts (P := Tryz.prog) (e := 87) (z := wy 0 0 0) (size := 3) (bytes := 12) (by kernel_rfl)
  have C0 := Hb.mk c0
  have C1 := Hb.mk c1
  have C2 := Hb.mk c2
  have C3 := Hb.mk c3
  have C4 := Hb.mk c4
  have C5 := Hb.mk c5
  have C6 := Hb.mk c6
  have C7 := Hb.mk c7
  clear c0 c1 c2 c3 c4 c5 c6 c7
  go_enter Tryz.func95, Tryz.ntmps95
  go_wp2_with (at_make; refine wpList_make_full _ rfl _ _ 94 rfl w.heap.size 87 i0 _ 3 Tryz.underlying94 hi hz0 hz1 .i64 .i64 _ _ 4 rfl rfl rfl rfl (by rw [hz2]; decide) (by unfold maxLen; omega) (Nat.le_refl _) ?_; intro w0 hown0 hgrow0; simp only [Act.put, List.setIfInBounds_toArray, List.set_cons_succ, List.set_cons_zero])
  have B0 := Hb.mk ((Below.refl w.heap.size w).grown hgrow0 (Nat.le_refl _) (fun k h => by cases h))
  have r0 : w0.cell? ⟨w.heap.size, 0, none⟩ = some (.float .f32 0) := (hown0.cellAt 0 (by decide)).trans (by kernel_rfl)
  have a0 := Hb.mk (At.mk r0 (hown0.frozenAt 0) (block_lt_of_cell r0))
  clear r0
  have r1 : w0.cell? ⟨w.heap.size, 1, none⟩ = some (.float .f32 0) := (hown0.cellAt 1 (by decide)).trans (by kernel_rfl)
  have a1 := Hb.mk (At.mk r1 (hown0.frozenAt 1) (block_lt_of_cell r1))
  clear r1
  have r2 : w0.cell? ⟨w.heap.size, 2, none⟩ = some (.float .f32 0) := (hown0.cellAt 2 (by decide)).trans (by kernel_rfl)
  have a2 := Hb.mk (At.mk r2 (hown0.frozenAt 2) (block_lt_of_cell r2))
  clear r2
  have r3 : w0.cell? ⟨w.heap.size, 3, none⟩ = some (.float .f32 0) := (hown0.cellAt 3 (by decide)).trans (by kernel_rfl)
  have a3 := Hb.mk (At.mk r3 (hown0.frozenAt 3) (block_lt_of_cell r3))
  clear r3
  have r4 : w0.cell? ⟨w.heap.size, 4, none⟩ = some (.float .f32 0) := (hown0.cellAt 4 (by decide)).trans (by kernel_rfl)
  have a4 := Hb.mk (At.mk r4 (hown0.frozenAt 4) (block_lt_of_cell r4))
  clear r4
  have r5 : w0.cell? ⟨w.heap.size, 5, none⟩ = some (.float .f32 0) := (hown0.cellAt 5 (by decide)).trans (by kernel_rfl)
  have a5 := Hb.mk (At.mk r5 (hown0.frozenAt 5) (block_lt_of_cell r5))
  clear r5
  have r6 : w0.cell? ⟨w.heap.size, 6, none⟩ = some (.float .f32 0) := (hown0.cellAt 6 (by decide)).trans (by kernel_rfl)
  have a6 := Hb.mk (At.mk r6 (hown0.frozenAt 6) (block_lt_of_cell r6))
  clear r6
  have r7 : w0.cell? ⟨w.heap.size, 7, none⟩ = some (.float .f32 0) := (hown0.cellAt 7 (by decide)).trans (by kernel_rfl)
  have a7 := Hb.mk (At.mk r7 (hown0.frozenAt 7) (block_lt_of_cell r7))
  clear r7
  have r8 : w0.cell? ⟨w.heap.size, 8, none⟩ = some (.float .f32 0) := (hown0.cellAt 8 (by decide)).trans (by kernel_rfl)
  have a8 := Hb.mk (At.mk r8 (hown0.frozenAt 8) (block_lt_of_cell r8))
  clear r8
  have r9 : w0.cell? ⟨w.heap.size, 9, none⟩ = some (.float .f32 0) := (hown0.cellAt 9 (by decide)).trans (by kernel_rfl)
  have a9 := Hb.mk (At.mk r9 (hown0.frozenAt 9) (block_lt_of_cell r9))
  clear r9
  have r10 : w0.cell? ⟨w.heap.size, 10, none⟩ = some (.float .f32 0) := (hown0.cellAt 10 (by decide)).trans (by kernel_rfl)
  have a10 := Hb.mk (At.mk r10 (hown0.frozenAt 10) (block_lt_of_cell r10))
  clear r10
  have r11 : w0.cell? ⟨w.heap.size, 11, none⟩ = some (.float .f32 0) := (hown0.cellAt 11 (by decide)).trans (by kernel_rfl)
  have a11 := Hb.mk (At.mk r11 (hown0.frozenAt 11) (block_lt_of_cell r11))
  clear r11
  clear hown0 hgrow0
  go_loopw [12] (fun i wr => ∃ m : Nat, m ≤ 3 ∧ i = .int .i64 m ∧ Hb (Below w.heap.size w wr) ∧ Hb (∀ j, j < 12 → At wr ⟨w.heap.size, j, none⟩ (.float .f32 (vals [x0, y0, z0, x1, y1, z1, x2, y2, z2, 0, 0, 0] m j)))) (fun i _ => (4 - (intOf i).toNat))
  case atStart => exact ⟨0, by omega, rfl, B0, ⟨fun j hj => by
    rcases (by omega : j = 0 ∨ j = 1 ∨ j = 2 ∨ j = 3 ∨ j = 4 ∨ j = 5 ∨ j = 6 ∨ j = 7 ∨ j = 8 ∨ j = 9 ∨ j = 10 ∨ j = 11) with rfl | rfl | rfl | rfl | rfl | rfl | rfl | rfl | rfl | rfl | rfl | rfl
    · exact a0.out
    · exact a1.out
    · exact a2.out
    · exact a3.out
    · exact a4.out
    · exact a5.out
    · exact a6.out
    · exact a7.out
    · exact a8.out
    · exact a9.out
    · exact a10.out
    · exact a11.out⟩⟩
  case round =>
    obtain ⟨m, hm, rfl, BR, AR⟩ := hrel
    clear a0 a1 a2 a3 a4 a5 a6 a7 a8 a9 a10 a11 B0
    have s0 := Below.keep BR.out C0.out
    have s1 := Below.keep BR.out C1.out
    have s2 := Below.keep BR.out C2.out
    have s3 := Below.keep BR.out C3.out
    have s4 := Below.keep BR.out C4.out
    have s5 := Below.keep BR.out C5.out
    have s6 := Below.keep BR.out C6.out
    have s7 := Below.keep BR.out C7.out
    rcases (by omega : m = 0 ∨ m = 1 ∨ m = 2 ∨ m = 3) with rfl | rfl | rfl | rfl
    · have a0 := Hb.mk (show At wr ⟨w.heap.size, 0, none⟩ (.float .f32 0) from AR.out 0 (by decide)); obtain ⟨a0c, a0z, a0l⟩ := a0.out
      have a1 := Hb.mk (show At wr ⟨w.heap.size, 1, none⟩ (.float .f32 0) from AR.out 1 (by decide)); obtain ⟨a1c, a1z, a1l⟩ := a1.out
      have a2 := Hb.mk (show At wr ⟨w.heap.size, 2, none⟩ (.float .f32 0) from AR.out 2 (by decide)); obtain ⟨a2c, a2z, a2l⟩ := a2.out
      have a3 := Hb.mk (show At wr ⟨w.heap.size, 3, none⟩ (.float .f32 0) from AR.out 3 (by decide)); obtain ⟨a3c, a3z, a3l⟩ := a3.out
      have a4 := Hb.mk (show At wr ⟨w.heap.size, 4, none⟩ (.float .f32 0) from AR.out 4 (by decide)); obtain ⟨a4c, a4z, a4l⟩ := a4.out
      have a5 := Hb.mk (show At wr ⟨w.heap.size, 5, none⟩ (.float .f32 0) from AR.out 5 (by decide)); obtain ⟨a5c, a5z, a5l⟩ := a5.out
      have a6 := Hb.mk (show At wr ⟨w.heap.size, 6, none⟩ (.float .f32 0) from AR.out 6 (by decide)); obtain ⟨a6c, a6z, a6l⟩ := a6.out
      have a7 := Hb.mk (show At wr ⟨w.heap.size, 7, none⟩ (.float .f32 0) from AR.out 7 (by decide)); obtain ⟨a7c, a7z, a7l⟩ := a7.out
      have a8 := Hb.mk (show At wr ⟨w.heap.size, 8, none⟩ (.float .f32 0) from AR.out 8 (by decide)); obtain ⟨a8c, a8z, a8l⟩ := a8.out
      have a9 := Hb.mk (show At wr ⟨w.heap.size, 9, none⟩ (.float .f32 0) from AR.out 9 (by decide)); obtain ⟨a9c, a9z, a9l⟩ := a9.out
      have a10 := Hb.mk (show At wr ⟨w.heap.size, 10, none⟩ (.float .f32 0) from AR.out 10 (by decide)); obtain ⟨a10c, a10z, a10l⟩ := a10.out
      have a11 := Hb.mk (show At wr ⟨w.heap.size, 11, none⟩ (.float .f32 0) from AR.out 11 (by decide)); obtain ⟨a11c, a11z, a11l⟩ := a11.out
      clear AR
      go_wp2_with (first | (go_at_call 26; refine (HV0.out _).mono ?_; rintro ex w1 ⟨rfl, b1⟩; have B1 := Hb.mk (Below.on (B := w.heap.size) (a := w) (by repeat (first | exact BR.out | refine Below.drews ?_ | refine Below.drew ?_ | refine Below.alloc ?_ (by have hq_ := BR.out.size; first | omega | (simp <;> omega)) _ | refine Below.setCell ?_ (by have hq_ := BR.out.size; first | omega | (simp <;> omega)) _)) b1 (by have hq_ := BR.out.size; first | omega | (simp <;> omega))); have p0 := Hb.mk (At.keep b1 (p := ⟨wr.heap.size, 0, none⟩) (v := .float .f32 n0) (by simp [go_sem]) (by simp [go_sem])); obtain ⟨p0c, p0z, p0l⟩ := p0.out; have p1 := Hb.mk (At.keep b1 (p := ⟨wr.heap.size, 1, none⟩) (v := .float .f32 e0) (by simp [go_sem]) (by simp [go_sem])); obtain ⟨p1c, p1z, p1l⟩ := p1.out; have a0 := Hb.mk (At.re a0.out b1 (by first | exact a0c | simp [go_sem, a0c, a0l]) (by first | exact a0z | simp [go_sem, a0z, a0l])); obtain ⟨a0c, a0z, a0l⟩ := a0.out; have a1 := Hb.mk (At.re a1.out b1 (by first | exact a1c | simp [go_sem, a1c, a1l]) (by first | exact a1z | simp [go_sem, a1z, a1l])); obtain ⟨a1c, a1z, a1l⟩ := a1.out; have a2 := Hb.mk (At.re a2.out b1 (by first | exact a2c | simp [go_sem, a2c, a2l]) (by first | exact a2z | simp [go_sem, a2z, a2l])); obtain ⟨a2c, a2z, a2l⟩ := a2.out; have a3 := Hb.mk (At.re a3.out b1 (by first | exact a3c | simp [go_sem, a3c, a3l]) (by first | exact a3z | simp [go_sem, a3z, a3l])); obtain ⟨a3c, a3z, a3l⟩ := a3.out; have a4 := Hb.mk (At.re a4.out b1 (by first | exact a4c | simp [go_sem, a4c, a4l]) (by first | exact a4z | simp [go_sem, a4z, a4l])); obtain ⟨a4c, a4z, a4l⟩ := a4.out; have a5 := Hb.mk (At.re a5.out b1 (by first | exact a5c | simp [go_sem, a5c, a5l]) (by first | exact a5z | simp [go_sem, a5z, a5l])); obtain ⟨a5c, a5z, a5l⟩ := a5.out; have a6 := Hb.mk (At.re a6.out b1 (by first | exact a6c | simp [go_sem, a6c, a6l]) (by first | exact a6z | simp [go_sem, a6z, a6l])); obtain ⟨a6c, a6z, a6l⟩ := a6.out; have a7 := Hb.mk (At.re a7.out b1 (by first | exact a7c | simp [go_sem, a7c, a7l]) (by first | exact a7z | simp [go_sem, a7z, a7l])); obtain ⟨a7c, a7z, a7l⟩ := a7.out; have a8 := Hb.mk (At.re a8.out b1 (by first | exact a8c | simp [go_sem, a8c, a8l]) (by first | exact a8z | simp [go_sem, a8z, a8l])); obtain ⟨a8c, a8z, a8l⟩ := a8.out; have a9 := Hb.mk (At.re a9.out b1 (by first | exact a9c | simp [go_sem, a9c, a9l]) (by first | exact a9z | simp [go_sem, a9z, a9l])); obtain ⟨a9c, a9z, a9l⟩ := a9.out; have a10 := Hb.mk (At.re a10.out b1 (by first | exact a10c | simp [go_sem, a10c, a10l]) (by first | exact a10z | simp [go_sem, a10z, a10l])); obtain ⟨a10c, a10z, a10l⟩ := a10.out; have a11 := Hb.mk (At.re a11.out b1 (by first | exact a11c | simp [go_sem, a11c, a11l]) (by first | exact a11z | simp [go_sem, a11z, a11l])); obtain ⟨a11c, a11z, a11l⟩ := a11.out; clear b1) | (go_at_call 122; refine (KW0.out _).mono ?_; rintro ex w2 ⟨rfl, b2⟩; have B2 := Hb.mk (Below.on (B := w.heap.size) (a := w) (by repeat (first | exact B1.out | refine Below.drews ?_ | refine Below.drew ?_ | refine Below.alloc ?_ (by have hq_ := B1.out.size; first | omega | (simp <;> omega)) _ | refine Below.setCell ?_ (by have hq_ := B1.out.size; first | omega | (simp <;> omega)) _)) b2 (by have hq_ := B1.out.size; first | omega | (simp <;> omega))); have a0 := Hb.mk (At.re a0.out b2 (by first | exact a0c | simp [go_sem, a0c, a0l]) (by first | exact a0z | simp [go_sem, a0z, a0l])); obtain ⟨a0c, a0z, a0l⟩ := a0.out; have a1 := Hb.mk (At.re a1.out b2 (by first | exact a1c | simp [go_sem, a1c, a1l]) (by first | exact a1z | simp [go_sem, a1z, a1l])); obtain ⟨a1c, a1z, a1l⟩ := a1.out; have a2 := Hb.mk (At.re a2.out b2 (by first | exact a2c | simp [go_sem, a2c, a2l]) (by first | exact a2z | simp [go_sem, a2z, a2l])); obtain ⟨a2c, a2z, a2l⟩ := a2.out; have a3 := Hb.mk (At.re a3.out b2 (by first | exact a3c | simp [go_sem, a3c, a3l]) (by first | exact a3z | simp [go_sem, a3z, a3l])); obtain ⟨a3c, a3z, a3l⟩ := a3.out; have a4 := Hb.mk (At.re a4.out b2 (by first | exact a4c | simp [go_sem, a4c, a4l]) (by first | exact a4z | simp [go_sem, a4z, a4l])); obtain ⟨a4c, a4z, a4l⟩ := a4.out; have a5 := Hb.mk (At.re a5.out b2 (by first | exact a5c | simp [go_sem, a5c, a5l]) (by first | exact a5z | simp [go_sem, a5z, a5l])); obtain ⟨a5c, a5z, a5l⟩ := a5.out; have a6 := Hb.mk (At.re a6.out b2 (by first | exact a6c | simp [go_sem, a6c, a6l]) (by first | exact a6z | simp [go_sem, a6z, a6l])); obtain ⟨a6c, a6z, a6l⟩ := a6.out; have a7 := Hb.mk (At.re a7.out b2 (by first | exact a7c | simp [go_sem, a7c, a7l]) (by first | exact a7z | simp [go_sem, a7z, a7l])); obtain ⟨a7c, a7z, a7l⟩ := a7.out; have a8 := Hb.mk (At.re a8.out b2 (by first | exact a8c | simp [go_sem, a8c, a8l]) (by first | exact a8z | simp [go_sem, a8z, a8l])); obtain ⟨a8c, a8z, a8l⟩ := a8.out; have a9 := Hb.mk (At.re a9.out b2 (by first | exact a9c | simp [go_sem, a9c, a9l]) (by first | exact a9z | simp [go_sem, a9z, a9l])); obtain ⟨a9c, a9z, a9l⟩ := a9.out; have a10 := Hb.mk (At.re a10.out b2 (by first | exact a10c | simp [go_sem, a10c, a10l]) (by first | exact a10z | simp [go_sem, a10z, a10l])); obtain ⟨a10c, a10z, a10l⟩ := a10.out; have a11 := Hb.mk (At.re a11.out b2 (by first | exact a11c | simp [go_sem, a11c, a11l]) (by first | exact a11z | simp [go_sem, a11z, a11l])); obtain ⟨a11c, a11z, a11l⟩ := a11.out; clear b2))
      go_roundw
      case rel =>
        refine ⟨1, by omega, rfl, ⟨(by repeat (first | exact Below.refl _ _ | exact B2.out | refine Below.drews ?_ | refine Below.drew ?_ | refine Below.alloc ?_ (by first | omega | (simp <;> omega)) _ | refine Below.setCell ?_ (by first | omega | (simp <;> omega)) _))⟩, ⟨fun j hj => ?_⟩⟩
        rcases (by omega : j = 0 ∨ j = 1 ∨ j = 2 ∨ j = 3 ∨ j = 4 ∨ j = 5 ∨ j = 6 ∨ j = 7 ∨ j = 8 ∨ j = 9 ∨ j = 10 ∨ j = 11) with rfl | rfl | rfl | rfl | rfl | rfl | rfl | rfl | rfl | rfl | rfl | rfl
        · refine (show At _ ⟨w.heap.size, 0, none⟩ (.float .f32 x0) from ⟨by simp [go_sem, a0c], by simp [go_sem, a0z], by simp [a0l]⟩)
        · refine (show At _ ⟨w.heap.size, 1, none⟩ (.float .f32 y0) from ⟨by simp [go_sem, a1c], by simp [go_sem, a1z], by simp [a1l]⟩)
        · refine (show At _ ⟨w.heap.size, 2, none⟩ (.float .f32 z0) from ⟨by simp [go_sem, a2c], by simp [go_sem, a2z], by simp [a2l]⟩)
        · refine (show At _ ⟨w.heap.size, 3, none⟩ (.float .f32 0) from ⟨by simp [go_sem, a3c], by simp [go_sem, a3z], by simp [a3l]⟩)
        · refine (show At _ ⟨w.heap.size, 4, none⟩ (.float .f32 0) from ⟨by simp [go_sem, a4c], by simp [go_sem, a4z], by simp [a4l]⟩)
        · refine (show At _ ⟨w.heap.size, 5, none⟩ (.float .f32 0) from ⟨by simp [go_sem, a5c], by simp [go_sem, a5z], by simp [a5l]⟩)
        · refine (show At _ ⟨w.heap.size, 6, none⟩ (.float .f32 0) from ⟨by simp [go_sem, a6c], by simp [go_sem, a6z], by simp [a6l]⟩)
        · refine (show At _ ⟨w.heap.size, 7, none⟩ (.float .f32 0) from ⟨by simp [go_sem, a7c], by simp [go_sem, a7z], by simp [a7l]⟩)
        · refine (show At _ ⟨w.heap.size, 8, none⟩ (.float .f32 0) from ⟨by simp [go_sem, a8c], by simp [go_sem, a8z], by simp [a8l]⟩)
        · refine (show At _ ⟨w.heap.size, 9, none⟩ (.float .f32 0) from ⟨by simp [go_sem, a9c], by simp [go_sem, a9z], by simp [a9l]⟩)
        · refine (show At _ ⟨w.heap.size, 10, none⟩ (.float .f32 0) from ⟨by simp [go_sem, a10c], by simp [go_sem, a10z], by simp [a10l]⟩)
        · refine (show At _ ⟨w.heap.size, 11, none⟩ (.float .f32 0) from ⟨by simp [go_sem, a11c], by simp [go_sem, a11z], by simp [a11l]⟩)
      case measure => simp [intOf]
    · have a0 := Hb.mk (show At wr ⟨w.heap.size, 0, none⟩ (.float .f32 x0) from AR.out 0 (by decide)); obtain ⟨a0c, a0z, a0l⟩ := a0.out
      have a1 := Hb.mk (show At wr ⟨w.heap.size, 1, none⟩ (.float .f32 y0) from AR.out 1 (by decide)); obtain ⟨a1c, a1z, a1l⟩ := a1.out
      have a2 := Hb.mk (show At wr ⟨w.heap.size, 2, none⟩ (.float .f32 z0) from AR.out 2 (by decide)); obtain ⟨a2c, a2z, a2l⟩ := a2.out
      have a3 := Hb.mk (show At wr ⟨w.heap.size, 3, none⟩ (.float .f32 0) from AR.out 3 (by decide)); obtain ⟨a3c, a3z, a3l⟩ := a3.out
      have a4 := Hb.mk (show At wr ⟨w.heap.size, 4, none⟩ (.float .f32 0) from AR.out 4 (by decide)); obtain ⟨a4c, a4z, a4l⟩ := a4.out
      have a5 := Hb.mk (show At wr ⟨w.heap.size, 5, none⟩ (.float .f32 0) from AR.out 5 (by decide)); obtain ⟨a5c, a5z, a5l⟩ := a5.out
      have a6 := Hb.mk (show At wr ⟨w.heap.size, 6, none⟩ (.float .f32 0) from AR.out 6 (by decide)); obtain ⟨a6c, a6z, a6l⟩ := a6.out
      have a7 := Hb.mk (show At wr ⟨w.heap.size, 7, none⟩ (.float .f32 0) from AR.out 7 (by decide)); obtain ⟨a7c, a7z, a7l⟩ := a7.out
      have a8 := Hb.mk (show At wr ⟨w.heap.size, 8, none⟩ (.float .f32 0) from AR.out 8 (by decide)); obtain ⟨a8c, a8z, a8l⟩ := a8.out
      have a9 := Hb.mk (show At wr ⟨w.heap.size, 9, none⟩ (.float .f32 0) from AR.out 9 (by decide)); obtain ⟨a9c, a9z, a9l⟩ := a9.out
      have a10 := Hb.mk (show At wr ⟨w.heap.size, 10, none⟩ (.float .f32 0) from AR.out 10 (by decide)); obtain ⟨a10c, a10z, a10l⟩ := a10.out
      have a11 := Hb.mk (show At wr ⟨w.heap.size, 11, none⟩ (.float .f32 0) from AR.out 11 (by decide)); obtain ⟨a11c, a11z, a11l⟩ := a11.out
      clear AR
      go_wp2_with (first | (go_at_call 26; refine (HV1.out _).mono ?_; rintro ex w1 ⟨rfl, b1⟩; have B1 := Hb.mk (Below.on (B := w.heap.size) (a := w) (by repeat (first | exact BR.out | refine Below.drews ?_ | refine Below.drew ?_ | refine Below.alloc ?_ (by have hq_ := BR.out.size; first | omega | (simp <;> omega)) _ | refine Below.setCell ?_ (by have hq_ := BR.out.size; first | omega | (simp <;> omega)) _)) b1 (by have hq_ := BR.out.size; first | omega | (simp <;> omega))); have p0 := Hb.mk (At.keep b1 (p := ⟨wr.heap.size, 0, none⟩) (v := .float .f32 n1) (by simp [go_sem]) (by simp [go_sem])); obtain ⟨p0c, p0z, p0l⟩ := p0.out; have p1 := Hb.mk (At.keep b1 (p := ⟨wr.heap.size, 1, none⟩) (v := .float .f32 e1) (by simp [go_sem]) (by simp [go_sem])); obtain ⟨p1c, p1z, p1l⟩ := p1.out; have a0 := Hb.mk (At.re a0.out b1 (by first | exact a0c | simp [go_sem, a0c, a0l]) (by first | exact a0z | simp [go_sem, a0z, a0l])); obtain ⟨a0c, a0z, a0l⟩ := a0.out; have a1 := Hb.mk (At.re a1.out b1 (by first | exact a1c | simp [go_sem, a1c, a1l]) (by first | exact a1z | simp [go_sem, a1z, a1l])); obtain ⟨a1c, a1z, a1l⟩ := a1.out; have a2 := Hb.mk (At.re a2.out b1 (by first | exact a2c | simp [go_sem, a2c, a2l]) (by first | exact a2z | simp [go_sem, a2z, a2l])); obtain ⟨a2c, a2z, a2l⟩ := a2.out; have a3 := Hb.mk (At.re a3.out b1 (by first | exact a3c | simp [go_sem, a3c, a3l]) (by first | exact a3z | simp [go_sem, a3z, a3l])); obtain ⟨a3c, a3z, a3l⟩ := a3.out; have a4 := Hb.mk (At.re a4.out b1 (by first | exact a4c | simp [go_sem, a4c, a4l]) (by first | exact a4z | simp [go_sem, a4z, a4l])); obtain ⟨a4c, a4z, a4l⟩ := a4.out; have a5 := Hb.mk (At.re a5.out b1 (by first | exact a5c | simp [go_sem, a5c, a5l]) (by first | exact a5z | simp [go_sem, a5z, a5l])); obtain ⟨a5c, a5z, a5l⟩ := a5.out; have a6 := Hb.mk (At.re a6.out b1 (by first | exact a6c | simp [go_sem, a6c, a6l]) (by first | exact a6z | simp [go_sem, a6z, a6l])); obtain ⟨a6c, a6z, a6l⟩ := a6.out; have a7 := Hb.mk (At.re a7.out b1 (by first | exact a7c | simp [go_sem, a7c, a7l]) (by first | exact a7z | simp [go_sem, a7z, a7l])); obtain ⟨a7c, a7z, a7l⟩ := a7.out; have a8 := Hb.mk (At.re a8.out b1 (by first | exact a8c | simp [go_sem, a8c, a8l]) (by first | exact a8z | simp [go_sem, a8z, a8l])); obtain ⟨a8c, a8z, a8l⟩ := a8.out; have a9 := Hb.mk (At.re a9.out b1 (by first | exact a9c | simp [go_sem, a9c, a9l]) (by first | exact a9z | simp [go_sem, a9z, a9l])); obtain ⟨a9c, a9z, a9l⟩ := a9.out; have a10 := Hb.mk (At.re a10.out b1 (by first | exact a10c | simp [go_sem, a10c, a10l]) (by first | exact a10z | simp [go_sem, a10z, a10l])); obtain ⟨a10c, a10z, a10l⟩ := a10.out; have a11 := Hb.mk (At.re a11.out b1 (by first | exact a11c | simp [go_sem, a11c, a11l]) (by first | exact a11z | simp [go_sem, a11z, a11l])); obtain ⟨a11c, a11z, a11l⟩ := a11.out; clear b1) | (go_at_call 122; refine (KW1.out _).mono ?_; rintro ex w2 ⟨rfl, b2⟩; have B2 := Hb.mk (Below.on (B := w.heap.size) (a := w) (by repeat (first | exact B1.out | refine Below.drews ?_ | refine Below.drew ?_ | refine Below.alloc ?_ (by have hq_ := B1.out.size; first | omega | (simp <;> omega)) _ | refine Below.setCell ?_ (by have hq_ := B1.out.size; first | omega | (simp <;> omega)) _)) b2 (by have hq_ := B1.out.size; first | omega | (simp <;> omega))); have a0 := Hb.mk (At.re a0.out b2 (by first | exact a0c | simp [go_sem, a0c, a0l]) (by first | exact a0z | simp [go_sem, a0z, a0l])); obtain ⟨a0c, a0z, a0l⟩ := a0.out; have a1 := Hb.mk (At.re a1.out b2 (by first | exact a1c | simp [go_sem, a1c, a1l]) (by first | exact a1z | simp [go_sem, a1z, a1l])); obtain ⟨a1c, a1z, a1l⟩ := a1.out; have a2 := Hb.mk (At.re a2.out b2 (by first | exact a2c | simp [go_sem, a2c, a2l]) (by first | exact a2z | simp [go_sem, a2z, a2l])); obtain ⟨a2c, a2z, a2l⟩ := a2.out; have a3 := Hb.mk (At.re a3.out b2 (by first | exact a3c | simp [go_sem, a3c, a3l]) (by first | exact a3z | simp [go_sem, a3z, a3l])); obtain ⟨a3c, a3z, a3l⟩ := a3.out; have a4 := Hb.mk (At.re a4.out b2 (by first | exact a4c | simp [go_sem, a4c, a4l]) (by first | exact a4z | simp [go_sem, a4z, a4l])); obtain ⟨a4c, a4z, a4l⟩ := a4.out; have a5 := Hb.mk (At.re a5.out b2 (by first | exact a5c | simp [go_sem, a5c, a5l]) (by first | exact a5z | simp [go_sem, a5z, a5l])); obtain ⟨a5c, a5z, a5l⟩ := a5.out; have a6 := Hb.mk (At.re a6.out b2 (by first | exact a6c | simp [go_sem, a6c, a6l]) (by first | exact a6z | simp [go_sem, a6z, a6l])); obtain ⟨a6c, a6z, a6l⟩ := a6.out; have a7 := Hb.mk (At.re a7.out b2 (by first | exact a7c | simp [go_sem, a7c, a7l]) (by first | exact a7z | simp [go_sem, a7z, a7l])); obtain ⟨a7c, a7z, a7l⟩ := a7.out; have a8 := Hb.mk (At.re a8.out b2 (by first | exact a8c | simp [go_sem, a8c, a8l]) (by first | exact a8z | simp [go_sem, a8z, a8l])); obtain ⟨a8c, a8z, a8l⟩ := a8.out; have a9 := Hb.mk (At.re a9.out b2 (by first | exact a9c | simp [go_sem, a9c, a9l]) (by first | exact a9z | simp [go_sem, a9z, a9l])); obtain ⟨a9c, a9z, a9l⟩ := a9.out; have a10 := Hb.mk (At.re a10.out b2 (by first | exact a10c | simp [go_sem, a10c, a10l]) (by first | exact a10z | simp [go_sem, a10z, a10l])); obtain ⟨a10c, a10z, a10l⟩ := a10.out; have a11 := Hb.mk (At.re a11.out b2 (by first | exact a11c | simp [go_sem, a11c, a11l]) (by first | exact a11z | simp [go_sem, a11z, a11l])); obtain ⟨a11c, a11z, a11l⟩ := a11.out; clear b2))
      go_roundw
      case rel =>
        refine ⟨2, by omega, rfl, ⟨(by repeat (first | exact Below.refl _ _ | exact B2.out | refine Below.drews ?_ | refine Below.drew ?_ | refine Below.alloc ?_ (by first | omega | (simp <;> omega)) _ | refine Below.setCell ?_ (by first | omega | (simp <;> omega)) _))⟩, ⟨fun j hj => ?_⟩⟩
        rcases (by omega : j = 0 ∨ j = 1 ∨ j = 2 ∨ j = 3 ∨ j = 4 ∨ j = 5 ∨ j = 6 ∨ j = 7 ∨ j = 8 ∨ j = 9 ∨ j = 10 ∨ j = 11) with rfl | rfl | rfl | rfl | rfl | rfl | rfl | rfl | rfl | rfl | rfl | rfl
        · refine (show At _ ⟨w.heap.size, 0, none⟩ (.float .f32 x0) from ⟨by simp [go_sem, a0c], by simp [go_sem, a0z], by simp [a0l]⟩)
        · refine (show At _ ⟨w.heap.size, 1, none⟩ (.float .f32 y0) from ⟨by simp [go_sem, a1c], by simp [go_sem, a1z], by simp [a1l]⟩)
        · refine (show At _ ⟨w.heap.size, 2, none⟩ (.float .f32 z0) from ⟨by simp [go_sem, a2c], by simp [go_sem, a2z], by simp [a2l]⟩)
        · refine (show At _ ⟨w.heap.size, 3, none⟩ (.float .f32 x1) from ⟨by simp [go_sem, a3c], by simp [go_sem, a3z], by simp [a3l]⟩)
        · refine (show At _ ⟨w.heap.size, 4, none⟩ (.float .f32 y1) from ⟨by simp [go_sem, a4c], by simp [go_sem, a4z], by simp [a4l]⟩)
        · refine (show At _ ⟨w.heap.size, 5, none⟩ (.float .f32 z1) from ⟨by simp [go_sem, a5c], by simp [go_sem, a5z], by simp [a5l]⟩)
        · refine (show At _ ⟨w.heap.size, 6, none⟩ (.float .f32 0) from ⟨by simp [go_sem, a6c], by simp [go_sem, a6z], by simp [a6l]⟩)
        · refine (show At _ ⟨w.heap.size, 7, none⟩ (.float .f32 0) from ⟨by simp [go_sem, a7c], by simp [go_sem, a7z], by simp [a7l]⟩)
        · refine (show At _ ⟨w.heap.size, 8, none⟩ (.float .f32 0) from ⟨by simp [go_sem, a8c], by simp [go_sem, a8z], by simp [a8l]⟩)
        · refine (show At _ ⟨w.heap.size, 9, none⟩ (.float .f32 0) from ⟨by simp [go_sem, a9c], by simp [go_sem, a9z], by simp [a9l]⟩)
        · refine (show At _ ⟨w.heap.size, 10, none⟩ (.float .f32 0) from ⟨by simp [go_sem, a10c], by simp [go_sem, a10z], by simp [a10l]⟩)
        · refine (show At _ ⟨w.heap.size, 11, none⟩ (.float .f32 0) from ⟨by simp [go_sem, a11c], by simp [go_sem, a11z], by simp [a11l]⟩)
      case measure => simp [intOf]
    · have a0 := Hb.mk (show At wr ⟨w.heap.size, 0, none⟩ (.float .f32 x0) from AR.out 0 (by decide)); obtain ⟨a0c, a0z, a0l⟩ := a0.out
      have a1 := Hb.mk (show At wr ⟨w.heap.size, 1, none⟩ (.float .f32 y0) from AR.out 1 (by decide)); obtain ⟨a1c, a1z, a1l⟩ := a1.out
      have a2 := Hb.mk (show At wr ⟨w.heap.size, 2, none⟩ (.float .f32 z0) from AR.out 2 (by decide)); obtain ⟨a2c, a2z, a2l⟩ := a2.out
      have a3 := Hb.mk (show At wr ⟨w.heap.size, 3, none⟩ (.float .f32 x1) from AR.out 3 (by decide)); obtain ⟨a3c, a3z, a3l⟩ := a3.out
      have a4 := Hb.mk (show At wr ⟨w.heap.size, 4, none⟩ (.float .f32 y1) from AR.out 4 (by decide)); obtain ⟨a4c, a4z, a4l⟩ := a4.out
      have a5 := Hb.mk (show At wr ⟨w.heap.size, 5, none⟩ (.float .f32 z1) from AR.out 5 (by decide)); obtain ⟨a5c, a5z, a5l⟩ := a5.out
      have a6 := Hb.mk (show At wr ⟨w.heap.size, 6, none⟩ (.float .f32 0) from AR.out 6 (by decide)); obtain ⟨a6c, a6z, a6l⟩ := a6.out
      have a7 := Hb.mk (show At wr ⟨w.heap.size, 7, none⟩ (.float .f32 0) from AR.out 7 (by decide)); obtain ⟨a7c, a7z, a7l⟩ := a7.out
      have a8 := Hb.mk (show At wr ⟨w.heap.size, 8, none⟩ (.float .f32 0) from AR.out 8 (by decide)); obtain ⟨a8c, a8z, a8l⟩ := a8.out
      have a9 := Hb.mk (show At wr ⟨w.heap.size, 9, none⟩ (.float .f32 0) from AR.out 9 (by decide)); obtain ⟨a9c, a9z, a9l⟩ := a9.out
      have a10 := Hb.mk (show At wr ⟨w.heap.size, 10, none⟩ (.float .f32 0) from AR.out 10 (by decide)); obtain ⟨a10c, a10z, a10l⟩ := a10.out
      have a11 := Hb.mk (show At wr ⟨w.heap.size, 11, none⟩ (.float .f32 0) from AR.out 11 (by decide)); obtain ⟨a11c, a11z, a11l⟩ := a11.out
      clear AR
      go_wp2_with (first | (go_at_call 26; refine (HV2.out _).mono ?_; rintro ex w1 ⟨rfl, b1⟩; have B1 := Hb.mk (Below.on (B := w.heap.size) (a := w) (by repeat (first | exact BR.out | refine Below.drews ?_ | refine Below.drew ?_ | refine Below.alloc ?_ (by have hq_ := BR.out.size; first | omega | (simp <;> omega)) _ | refine Below.setCell ?_ (by have hq_ := BR.out.size; first | omega | (simp <;> omega)) _)) b1 (by have hq_ := BR.out.size; first | omega | (simp <;> omega))); have p0 := Hb.mk (At.keep b1 (p := ⟨wr.heap.size, 0, none⟩) (v := .float .f32 n2) (by simp [go_sem]) (by simp [go_sem])); obtain ⟨p0c, p0z, p0l⟩ := p0.out; have p1 := Hb.mk (At.keep b1 (p := ⟨wr.heap.size, 1, none⟩) (v := .float .f32 e2) (by simp [go_sem]) (by simp [go_sem])); obtain ⟨p1c, p1z, p1l⟩ := p1.out; have a0 := Hb.mk (At.re a0.out b1 (by first | exact a0c | simp [go_sem, a0c, a0l]) (by first | exact a0z | simp [go_sem, a0z, a0l])); obtain ⟨a0c, a0z, a0l⟩ := a0.out; have a1 := Hb.mk (At.re a1.out b1 (by first | exact a1c | simp [go_sem, a1c, a1l]) (by first | exact a1z | simp [go_sem, a1z, a1l])); obtain ⟨a1c, a1z, a1l⟩ := a1.out; have a2 := Hb.mk (At.re a2.out b1 (by first | exact a2c | simp [go_sem, a2c, a2l]) (by first | exact a2z | simp [go_sem, a2z, a2l])); obtain ⟨a2c, a2z, a2l⟩ := a2.out; have a3 := Hb.mk (At.re a3.out b1 (by first | exact a3c | simp [go_sem, a3c, a3l]) (by first | exact a3z | simp [go_sem, a3z, a3l])); obtain ⟨a3c, a3z, a3l⟩ := a3.out; have a4 := Hb.mk (At.re a4.out b1 (by first | exact a4c | simp [go_sem, a4c, a4l]) (by first | exact a4z | simp [go_sem, a4z, a4l])); obtain ⟨a4c, a4z, a4l⟩ := a4.out; have a5 := Hb.mk (At.re a5.out b1 (by first | exact a5c | simp [go_sem, a5c, a5l]) (by first | exact a5z | simp [go_sem, a5z, a5l])); obtain ⟨a5c, a5z, a5l⟩ := a5.out; have a6 := Hb.mk (At.re a6.out b1 (by first | exact a6c | simp [go_sem, a6c, a6l]) (by first | exact a6z | simp [go_sem, a6z, a6l])); obtain ⟨a6c, a6z, a6l⟩ := a6.out; have a7 := Hb.mk (At.re a7.out b1 (by first | exact a7c | simp [go_sem, a7c, a7l]) (by first | exact a7z | simp [go_sem, a7z, a7l])); obtain ⟨a7c, a7z, a7l⟩ := a7.out; have a8 := Hb.mk (At.re a8.out b1 (by first | exact a8c | simp [go_sem, a8c, a8l]) (by first | exact a8z | simp [go_sem, a8z, a8l])); obtain ⟨a8c, a8z, a8l⟩ := a8.out; have a9 := Hb.mk (At.re a9.out b1 (by first | exact a9c | simp [go_sem, a9c, a9l]) (by first | exact a9z | simp [go_sem, a9z, a9l])); obtain ⟨a9c, a9z, a9l⟩ := a9.out; have a10 := Hb.mk (At.re a10.out b1 (by first | exact a10c | simp [go_sem, a10c, a10l]) (by first | exact a10z | simp [go_sem, a10z, a10l])); obtain ⟨a10c, a10z, a10l⟩ := a10.out; have a11 := Hb.mk (At.re a11.out b1 (by first | exact a11c | simp [go_sem, a11c, a11l]) (by first | exact a11z | simp [go_sem, a11z, a11l])); obtain ⟨a11c, a11z, a11l⟩ := a11.out; clear b1) | (go_at_call 122; refine (KW2.out _).mono ?_; rintro ex w2 ⟨rfl, b2⟩; have B2 := Hb.mk (Below.on (B := w.heap.size) (a := w) (by repeat (first | exact B1.out | refine Below.drews ?_ | refine Below.drew ?_ | refine Below.alloc ?_ (by have hq_ := B1.out.size; first | omega | (simp <;> omega)) _ | refine Below.setCell ?_ (by have hq_ := B1.out.size; first | omega | (simp <;> omega)) _)) b2 (by have hq_ := B1.out.size; first | omega | (simp <;> omega))); have a0 := Hb.mk (At.re a0.out b2 (by first | exact a0c | simp [go_sem, a0c, a0l]) (by first | exact a0z | simp [go_sem, a0z, a0l])); obtain ⟨a0c, a0z, a0l⟩ := a0.out; have a1 := Hb.mk (At.re a1.out b2 (by first | exact a1c | simp [go_sem, a1c, a1l]) (by first | exact a1z | simp [go_sem, a1z, a1l])); obtain ⟨a1c, a1z, a1l⟩ := a1.out; have a2 := Hb.mk (At.re a2.out b2 (by first | exact a2c | simp [go_sem, a2c, a2l]) (by first | exact a2z | simp [go_sem, a2z, a2l])); obtain ⟨a2c, a2z, a2l⟩ := a2.out; have a3 := Hb.mk (At.re a3.out b2 (by first | exact a3c | simp [go_sem, a3c, a3l]) (by first | exact a3z | simp [go_sem, a3z, a3l])); obtain ⟨a3c, a3z, a3l⟩ := a3.out; have a4 := Hb.mk (At.re a4.out b2 (by first | exact a4c | simp [go_sem, a4c, a4l]) (by first | exact a4z | simp [go_sem, a4z, a4l])); obtain ⟨a4c, a4z, a4l⟩ := a4.out; have a5 := Hb.mk (At.re a5.out b2 (by first | exact a5c | simp [go_sem, a5c, a5l]) (by first | exact a5z | simp [go_sem, a5z, a5l])); obtain ⟨a5c, a5z, a5l⟩ := a5.out; have a6 := Hb.mk (At.re a6.out b2 (by first | exact a6c | simp [go_sem, a6c, a6l]) (by first | exact a6z | simp [go_sem, a6z, a6l])); obtain ⟨a6c, a6z, a6l⟩ := a6.out; have a7 := Hb.mk (At.re a7.out b2 (by first | exact a7c | simp [go_sem, a7c, a7l]) (by first | exact a7z | simp [go_sem, a7z, a7l])); obtain ⟨a7c, a7z, a7l⟩ := a7.out; have a8 := Hb.mk (At.re a8.out b2 (by first | exact a8c | simp [go_sem, a8c, a8l]) (by first | exact a8z | simp [go_sem, a8z, a8l])); obtain ⟨a8c, a8z, a8l⟩ := a8.out; have a9 := Hb.mk (At.re a9.out b2 (by first | exact a9c | simp [go_sem, a9c, a9l]) (by first | exact a9z | simp [go_sem, a9z, a9l])); obtain ⟨a9c, a9z, a9l⟩ := a9.out; have a10 := Hb.mk (At.re a10.out b2 (by first | exact a10c | simp [go_sem, a10c, a10l]) (by first | exact a10z | simp [go_sem, a10z, a10l])); obtain ⟨a10c, a10z, a10l⟩ := a10.out; have a11 := Hb.mk (At.re a11.out b2 (by first | exact a11c | simp [go_sem, a11c, a11l]) (by first | exact a11z | simp [go_sem, a11z, a11l])); obtain ⟨a11c, a11z, a11l⟩ := a11.out; clear b2))
      go_roundw
      case rel =>
        refine ⟨3, by omega, rfl, ⟨(by repeat (first | exact Below.refl _ _ | exact B2.out | refine Below.drews ?_ | refine Below.drew ?_ | refine Below.alloc ?_ (by first | omega | (simp <;> omega)) _ | refine Below.setCell ?_ (by first | omega | (simp <;> omega)) _))⟩, ⟨fun j hj => ?_⟩⟩
        rcases (by omega : j = 0 ∨ j = 1 ∨ j = 2 ∨ j = 3 ∨ j = 4 ∨ j = 5 ∨ j = 6 ∨ j = 7 ∨ j = 8 ∨ j = 9 ∨ j = 10 ∨ j = 11) with rfl | rfl | rfl | rfl | rfl | rfl | rfl | rfl | rfl | rfl | rfl | rfl
        · refine (show At _ ⟨w.heap.size, 0, none⟩ (.float .f32 x0) from ⟨by simp [go_sem, a0c], by simp [go_sem, a0z], by simp [a0l]⟩)
        · refine (show At _ ⟨w.heap.size, 1, none⟩ (.float .f32 y0) from ⟨by simp [go_sem, a1c], by simp [go_sem, a1z], by simp [a1l]⟩)
        · refine (show At _ ⟨w.heap.size, 2, none⟩ (.float .f32 z0) from ⟨by simp [go_sem, a2c], by simp [go_sem, a2z], by simp [a2l]⟩)
        · refine (show At _ ⟨w.heap.size, 3, none⟩ (.float .f32 x1) from ⟨by simp [go_sem, a3c], by simp [go_sem, a3z], by simp [a3l]⟩)
        · refine (show At _ ⟨w.heap.size, 4, none⟩ (.float .f32 y1) from ⟨by simp [go_sem, a4c], by simp [go_sem, a4z], by simp [a4l]⟩)
        · refine (show At _ ⟨w.heap.size, 5, none⟩ (.float .f32 z1) from ⟨by simp [go_sem, a5c], by simp [go_sem, a5z], by simp [a5l]⟩)
        · refine (show At _ ⟨w.heap.size, 6, none⟩ (.float .f32 x2) from ⟨by simp [go_sem, a6c], by simp [go_sem, a6z], by simp [a6l]⟩)
        · refine (show At _ ⟨w.heap.size, 7, none⟩ (.float .f32 y2) from ⟨by simp [go_sem, a7c], by simp [go_sem, a7z], by simp [a7l]⟩)
        · refine (show At _ ⟨w.heap.size, 8, none⟩ (.float .f32 z2) from ⟨by simp [go_sem, a8c], by simp [go_sem, a8z], by simp [a8l]⟩)
        · refine (show At _ ⟨w.heap.size, 9, none⟩ (.float .f32 0) from ⟨by simp [go_sem, a9c], by simp [go_sem, a9z], by simp [a9l]⟩)
        · refine (show At _ ⟨w.heap.size, 10, none⟩ (.float .f32 0) from ⟨by simp [go_sem, a10c], by simp [go_sem, a10z], by simp [a10l]⟩)
        · refine (show At _ ⟨w.heap.size, 11, none⟩ (.float .f32 0) from ⟨by simp [go_sem, a11c], by simp [go_sem, a11z], by simp [a11l]⟩)
      case measure => simp [intOf]
    · have a0 := Hb.mk (show At wr ⟨w.heap.size, 0, none⟩ (.float .f32 x0) from AR.out 0 (by decide)); obtain ⟨a0c, a0z, a0l⟩ := a0.out
      have a1 := Hb.mk (show At wr ⟨w.heap.size, 1, none⟩ (.float .f32 y0) from AR.out 1 (by decide)); obtain ⟨a1c, a1z, a1l⟩ := a1.out
      have a2 := Hb.mk (show At wr ⟨w.heap.size, 2, none⟩ (.float .f32 z0) from AR.out 2 (by decide)); obtain ⟨a2c, a2z, a2l⟩ := a2.out
      have a3 := Hb.mk (show At wr ⟨w.heap.size, 3, none⟩ (.float .f32 x1) from AR.out 3 (by decide)); obtain ⟨a3c, a3z, a3l⟩ := a3.out
      have a4 := Hb.mk (show At wr ⟨w.heap.size, 4, none⟩ (.float .f32 y1) from AR.out 4 (by decide)); obtain ⟨a4c, a4z, a4l⟩ := a4.out
      have a5 := Hb.mk (show At wr ⟨w.heap.size, 5, none⟩ (.float .f32 z1) from AR.out 5 (by decide)); obtain ⟨a5c, a5z, a5l⟩ := a5.out
      have a6 := Hb.mk (show At wr ⟨w.heap.size, 6, none⟩ (.float .f32 x2) from AR.out 6 (by decide)); obtain ⟨a6c, a6z, a6l⟩ := a6.out
      have a7 := Hb.mk (show At wr ⟨w.heap.size, 7, none⟩ (.float .f32 y2) from AR.out 7 (by decide)); obtain ⟨a7c, a7z, a7l⟩ := a7.out
      have a8 := Hb.mk (show At wr ⟨w.heap.size, 8, none⟩ (.float .f32 z2) from AR.out 8 (by decide)); obtain ⟨a8c, a8z, a8l⟩ := a8.out
      have a9 := Hb.mk (show At wr ⟨w.heap.size, 9, none⟩ (.float .f32 0) from AR.out 9 (by decide)); obtain ⟨a9c, a9z, a9l⟩ := a9.out
      have a10 := Hb.mk (show At wr ⟨w.heap.size, 10, none⟩ (.float .f32 0) from AR.out 10 (by decide)); obtain ⟨a10c, a10z, a10l⟩ := a10.out
      have a11 := Hb.mk (show At wr ⟨w.heap.size, 11, none⟩ (.float .f32 0) from AR.out 11 (by decide)); obtain ⟨a11c, a11z, a11l⟩ := a11.out
      clear AR
      go_wp2_with (first | (go_at_call 26; refine (HV3.out _).mono ?_; rintro ex w1 ⟨rfl, b1⟩; have B1 := Hb.mk (Below.on (B := w.heap.size) (a := w) (by repeat (first | exact BR.out | refine Below.drews ?_ | refine Below.drew ?_ | refine Below.alloc ?_ (by have hq_ := BR.out.size; first | omega | (simp <;> omega)) _ | refine Below.setCell ?_ (by have hq_ := BR.out.size; first | omega | (simp <;> omega)) _)) b1 (by have hq_ := BR.out.size; first | omega | (simp <;> omega))); clear b1))
      go_ret2
      exact ⟨rfl, (by repeat (first | exact Below.refl _ _ | exact B1.out | refine Below.drews ?_ | refine Below.drew ?_ | refine Below.alloc ?_ (by first | omega | (simp <;> omega)) _ | refine Below.setCell ?_ (by first | omega | (simp <;> omega)) _))⟩
end Go.Proofs.YtenekhckmglobaaGreat
