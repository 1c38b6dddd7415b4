/-
StoreTrack: the given statement's function: both sides at the same track.
-/
import Derived.Test.YtmioclcipdifpaaStr
namespace Go.Proofs.Ytmioclcipdifpaa
open Go Go.RowKit
set_option maxRecDepth 100000

theorem iStore_any {s : ByteArray} {g n : Nat} {ys : List Nat} (hw : Wf ys) (hn : ys.length = 2 * n) (hl : n ≤ 1048576) (w : World) (hr : FRow w (some ⟨g, 0, none⟩) ys) : Calls Try.prog 7 #[tv s g n] w (RS (stP (stS s ys n) (trackB s ys n)) w) := by
  cases hb : trackB s ys n
  · have h := iStore_no hw hn hl w hr hb
    rw [show stS s ys n = ⟨#[]⟩ by unfold stS; rw [hb]; rfl]
    exact h
  · exact iStore_yes hw hn hl w hr hb
set_option maxHeartbeats 8000000 in
theorem law_StoreTrack {s : ByteArray} {a : Option Addr} {n k : Nat} {ys : List Nat} (w : World) (hs : s.size ≤ maxLen) (hr : FRow w a ys) (hw : Wf ys) (hn : ys.length = 2 * n) (hm : n ≤ 9223372036854775807) : Calls Try.prog 3 #[tk s a n k] w (RS (.bool true) w) := by
  have HR := Hf.mk hr
  have B0 := Hb.mk (Below.refl w.heap.size w)
  by_cases hl : s.size + n ≤ 1048576
  · have KZ := Hf.mk (fun w => szTrack_yes (s := s) (a := a) (k := k) hl w)
    have HS := Hf.mk (fun w g h => sStore_any (s := s) (g := g) (by omega) hw hn (by omega) w h)
    have HI := Hf.mk (fun w g h => iStore_any (s := s) (g := g) hw hn (by omega) w h)
    have HW := Hf.mk hw
    have HN := Hf.mk hn
    have hl2 : n ≤ 1048576 := by omega
    clear hr hw hn hs hm
    generalize trackB s ys n = v at *
    generalize stS s ys n = S at *
    cases v
    all_goals
      go_enter Try.func3, Try.ntmps3
      have tk_a : True := trivial; have tk_b : True := trivial; have tk_c : True := trivial
      go_wp2_with (first
        | (go_at_call 4; refine (KZ.out _).mono ?_; rintro e w0 ⟨rfl, z0⟩; have Z0 := Hb.mk (Below.on (B := w.heap.size) (a := w) (by repeat (first | exact B0.out | refine Below.drews ?_ | refine Below.drew ?_ | refine Below.alloc ?_ (by have hq_ := B0.out.size; first | omega | (simp <;> omega)) _ | refine Below.setCell ?_ (by have hq_ := B0.out.size; first | omega | (simp <;> omega)) _)) z0 (by have hq_ := B0.out.size; first | omega | (simp <;> omega))); have p0 := Hb.mk (At.keep z0 (p := ⟨(w.heap.size), 0, none⟩) (v := .string s) (by simp [go_sem]) (by simp [go_sem])); obtain ⟨p0c, p0z, p0l⟩ := p0.out; have p1 := Hb.mk (At.keep z0 (p := ⟨(w.heap.size), 1, none⟩) (v := .slice a n k) (by simp [go_sem]) (by simp [go_sem])); obtain ⟨p1c, p1z, p1l⟩ := p1.out; clear z0)
        | (go_at_call 6; clear tk_a; refine (tTrack_any _ (HR.out.below Z0.out) HN.out hl2).mono ?_; rintro e w1 ⟨ga, rfl, o1, b1⟩; have N1 := Hf.mk o1; have B1 := Hb.mk (Below.on (B := w.heap.size) (a := w) (by repeat (first | exact Z0.out | refine Below.drews ?_ | refine Below.drew ?_ | refine Below.alloc ?_ (by have hq_ := Z0.out.size; first | omega | (simp <;> omega)) _ | refine Below.setCell ?_ (by have hq_ := Z0.out.size; first | omega | (simp <;> omega)) _)) b1 (by have hq_ := Z0.out.size; first | omega | (simp <;> omega))); have p0 := Hb.mk (At.re p0.out b1 (by first | exact p0c | simp [go_sem, p0c, p0l]) (by first | exact p0z | simp [go_sem, p0z, p0l])); obtain ⟨p0c, p0z, p0l⟩ := p0.out; have p1 := Hb.mk (At.re p1.out b1 (by first | exact p1c | simp [go_sem, p1c, p1l]) (by first | exact p1z | simp [go_sem, p1z, p1l])); obtain ⟨p1c, p1z, p1l⟩ := p1.out; clear o1 b1)
        | (go_at_call 5; refine (HS.out _ _ N1.out).mono ?_; rintro e w2 ⟨rfl, b2⟩; have B2 := Hb.mk (Below.on (B := w.heap.size) (a := w) (by repeat (first | exact B1.out | refine Below.drews ?_ | refine Below.drew ?_ | refine Below.alloc ?_ (by have hq_ := B1.out.size; first | omega | (simp <;> omega)) _ | refine Below.setCell ?_ (by have hq_ := B1.out.size; first | omega | (simp <;> omega)) _)) b2 (by have hq_ := B1.out.size; first | omega | (simp <;> omega))); have p0 := Hb.mk (At.re p0.out b2 (by first | exact p0c | simp [go_sem, p0c, p0l]) (by first | exact p0z | simp [go_sem, p0z, p0l])); obtain ⟨p0c, p0z, p0l⟩ := p0.out; have p1 := Hb.mk (At.re p1.out b2 (by first | exact p1c | simp [go_sem, p1c, p1l]) (by first | exact p1z | simp [go_sem, p1z, p1l])); obtain ⟨p1c, p1z, p1l⟩ := p1.out; clear b2)
        | (go_at_call 6; clear tk_b; refine (tTrack_any _ (HR.out.below B2.out) HN.out hl2).mono ?_; rintro e w3 ⟨gc, rfl, o1, b3⟩; have N3 := Hf.mk o1; have B3 := Hb.mk (Below.on (B := w.heap.size) (a := w) (by repeat (first | exact B2.out | refine Below.drews ?_ | refine Below.drew ?_ | refine Below.alloc ?_ (by have hq_ := B2.out.size; first | omega | (simp <;> omega)) _ | refine Below.setCell ?_ (by have hq_ := B2.out.size; first | omega | (simp <;> omega)) _)) b3 (by have hq_ := B2.out.size; first | omega | (simp <;> omega))); have p0 := Hb.mk (At.re p0.out b3 (by first | exact p0c | simp [go_sem, p0c, p0l]) (by first | exact p0z | simp [go_sem, p0z, p0l])); obtain ⟨p0c, p0z, p0l⟩ := p0.out; have p1 := Hb.mk (At.re p1.out b3 (by first | exact p1c | simp [go_sem, p1c, p1l]) (by first | exact p1z | simp [go_sem, p1z, p1l])); obtain ⟨p1c, p1z, p1l⟩ := p1.out; clear o1 b3)
        | (go_at_call 7; refine (HI.out _ _ (N3.out.below (by repeat (first | exact Below.refl _ _ | with_reducible assumption | refine Below.drews ?_ | refine Below.drew ?_ | refine Below.alloc ?_ (by simp <;> omega) _ | refine Below.setCell ?_ (by simp <;> omega) _)))).mono ?_; rintro e w4 ⟨rfl, b4⟩; have N4 := Hf.mk ((N3.out.below (by repeat (first | exact Below.refl _ _ | with_reducible assumption | refine Below.drews ?_ | refine Below.drew ?_ | refine Below.alloc ?_ (by simp <;> omega) _ | refine Below.setCell ?_ (by simp <;> omega) _))).below b4); have B4 := Hb.mk (Below.on (B := w.heap.size) (a := w) (by repeat (first | exact B3.out | refine Below.drews ?_ | refine Below.drew ?_ | refine Below.alloc ?_ (by have hq_ := B3.out.size; first | omega | (simp <;> omega)) _ | refine Below.setCell ?_ (by have hq_ := B3.out.size; first | omega | (simp <;> omega)) _)) b4 (by have hq_ := B3.out.size; first | omega | (simp <;> omega))); have p0 := Hb.mk (At.re p0.out b4 (by first | exact p0c | simp [go_sem, p0c, p0l]) (by first | exact p0z | simp [go_sem, p0z, p0l])); obtain ⟨p0c, p0z, p0l⟩ := p0.out; have p1 := Hb.mk (At.re p1.out b4 (by first | exact p1c | simp [go_sem, p1c, p1l]) (by first | exact p1z | simp [go_sem, p1z, p1l])); obtain ⟨p1c, p1z, p1l⟩ := p1.out; have x0 := Hb.mk (At.keep b4 (p := ⟨(w3.heap.size), 0, none⟩) (v := .string s) (by simp [go_sem]) (by simp [go_sem])); obtain ⟨x0c, x0z, x0l⟩ := x0.out; have x1 := Hb.mk (At.keep b4 (p := ⟨(w3.heap.size), 1, none⟩) (v := .slice (some ⟨gc, 0, none⟩) n n) (by simp [go_sem]) (by simp [go_sem])); obtain ⟨x1c, x1z, x1l⟩ := x1.out; clear b4))
      go_region_with (first
        | (go_at_call 6; clear tk_c; refine (tTrack_any _ (HR.out.below (by repeat (first | exact B4.out | refine Below.drews ?_ | refine Below.drew ?_ | refine Below.alloc ?_ (by have hq_ := B4.out.size; first | omega | (simp <;> omega)) _ | refine Below.setCell ?_ (by have hq_ := B4.out.size; first | omega | (simp <;> omega)) _))) HN.out hl2).mono ?_; rintro e w5 ⟨ge, rfl, o1, b5⟩; have N5 := Hf.mk o1; have N6 := Hf.mk ((N4.out.below (by repeat (first | exact Below.refl _ _ | with_reducible assumption | refine Below.drews ?_ | refine Below.drew ?_ | refine Below.alloc ?_ (by simp <;> omega) _ | refine Below.setCell ?_ (by simp <;> omega) _))).below b5); have B5 := Hb.mk (Below.on (B := w.heap.size) (a := w) (by repeat (first | exact B4.out | refine Below.drews ?_ | refine Below.drew ?_ | refine Below.alloc ?_ (by have hq_ := B4.out.size; first | omega | (simp <;> omega)) _ | refine Below.setCell ?_ (by have hq_ := B4.out.size; first | omega | (simp <;> omega)) _)) b5 (by have hq_ := B4.out.size; first | omega | (simp <;> omega))); have x0 := Hb.mk (At.re x0.out b5 (by first | exact x0c | simp [go_sem, x0c, x0l]) (by first | exact x0z | simp [go_sem, x0z, x0l])); obtain ⟨x0c, x0z, x0l⟩ := x0.out; have x1 := Hb.mk (At.re x1.out b5 (by first | exact x1c | simp [go_sem, x1c, x1l]) (by first | exact x1z | simp [go_sem, x1z, x1l])); obtain ⟨x1c, x1z, x1l⟩ := x1.out; clear o1 b5)
        | (go_at_call 8; refine (eqTrack_any _ N6.out N5.out HW.out HN.out hl2).mono ?_; rintro e w6 ⟨rfl, b6⟩; have B6 := Hb.mk (Below.on (B := w.heap.size) (a := w) (by repeat (first | exact B5.out | refine Below.drews ?_ | refine Below.drew ?_ | refine Below.alloc ?_ (by have hq_ := B5.out.size; first | omega | (simp <;> omega)) _ | refine Below.setCell ?_ (by have hq_ := B5.out.size; first | omega | (simp <;> omega)) _)) b6 (by have hq_ := B5.out.size; first | omega | (simp <;> omega))); clear b6))
      all_goals go_wp2
      all_goals go_ret
      all_goals exact ⟨rfl, (by repeat (first | exact Below.refl _ _ | exact B6.out | refine Below.drews ?_ | refine Below.drew ?_ | refine Below.alloc ?_ (by first | omega | (simp <;> omega)) _ | refine Below.setCell ?_ (by first | omega | (simp <;> omega)) _))⟩
  · have KZ := Hf.mk (fun w => szTrack_no (s := s) (a := a) (k := k) (n := n) (by omega) (by unfold maxLen at hs; omega) hm w)
    clear hr hw hn
    go_enter Try.func3, Try.ntmps3
    go_wp2_with (first | (go_at_call 4; refine (KZ.out _).mono ?_; rintro e w0 ⟨rfl, z0⟩; have Z0 := Hb.mk (Below.on (B := w.heap.size) (a := w) (by repeat (first | exact B0.out | refine Below.drews ?_ | refine Below.drew ?_ | refine Below.alloc ?_ (by have hq_ := B0.out.size; first | omega | (simp <;> omega)) _ | refine Below.setCell ?_ (by have hq_ := B0.out.size; first | omega | (simp <;> omega)) _)) z0 (by have hq_ := B0.out.size; first | omega | (simp <;> omega))); clear z0))
    go_ret
    exact ⟨rfl, (by repeat (first | exact Z0.out | refine Below.drews ?_ | refine Below.drew ?_ | refine Below.alloc ?_ (by have hq_ := Z0.out.size; first | omega | (simp <;> omega)) _ | refine Below.setCell ?_ (by have hq_ := Z0.out.size; first | omega | (simp <;> omega)) _))⟩
end Go.Proofs.Ytmioclcipdifpaa
