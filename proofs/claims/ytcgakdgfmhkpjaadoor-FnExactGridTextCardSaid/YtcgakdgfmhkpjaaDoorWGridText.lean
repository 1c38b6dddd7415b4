/-
  GridText: the law.
-/
import Derived.Test.YtcgakdgfmhkpjaaDoorGtx
import Derived.Test.YtcgakdgfmhkpjaaDoorSumL
namespace Go.Proofs.YtcgakdgfmhkpjaaDoor
open Go Go.RowKit
set_option maxRecDepth 100000

set_option maxHeartbeats 4000000 in
theorem walk_GridText {a : Option Addr} {cap : Nat} {xs : List Nat} {wd hg : Int}  {ok : Bool} {v : ByteArray} (w : World) (hr : FRow w a xs) (hw : Wf xs) (hl : xs.length ≤ 1048576) (ht : P10 w) (hd : Db4 w)
    (hs : ∀ g k W, FRow W (some ⟨g, 0, none⟩) xs → Calls Tryd.prog 20 #[gd wd hg (sl g xs.length k)] W (RS (.tuple #[.string v, .bool ok]) W))
    (hi : ∀ g k W, FRow W (some ⟨g, 0, none⟩) xs → P10 W → Db4 W → Calls Tryd.prog 22 #[gd wd hg (sl g xs.length k)] W (RS (.tuple #[.string v, .bool ok]) W)) : Calls Tryd.prog 5 #[gd wd hg (.slice a xs.length cap)] w (RS (.bool true) w) := by
  have HR := Hf.mk hr
  have HW := Hf.mk hw
  have B0 := Hb.mk (Below.refl w.heap.size w)
  have HS := Hf.mk hs
  have HI := Hf.mk hi
  have KZ := Hf.mk (szGrid_yes (a := a) (cap := cap) (wd := wd) (hg := hg) hl)
  have HT := Hf.mk ht
  have HD := Hf.mk hd
  clear hr hw hs hi ht hd
  cases ok
  all_goals
    go_enter Tryd.func5, Tryd.ntmps5
    have tk_a : True := trivial; have tk_b : True := trivial; have tk_c : True := trivial; have tk_y : True := trivial; have tk_z : True := trivial
    go_wp2_with (first
      | (go_at_call 19; refine (KZ.out _).mono ?_; rintro e w0 ⟨rfl, z0⟩; have Z0 := Hb.mk (Below.on (B := w.heap.size) (a := w) (by repeat (first | exact B0.out | refine Below.drews ?_ | refine Below.drew ?_ | refine Below.alloc ?_ (by have hq_ := B0.out.size; first | omega | (simp <;> omega)) _ | refine Below.setCell ?_ (by have hq_ := B0.out.size; first | omega | (simp <;> omega)) _)) z0 (by have hq_ := B0.out.size; first | omega | (simp <;> omega))); have p0 := Hb.mk (At.keep z0 (p := ⟨(w.heap.size), 0, none⟩) (v := .int .i64 wd) (by simp [go_sem]) (by simp [go_sem])); obtain ⟨p0c, p0z, p0l⟩ := p0.out; have p1 := Hb.mk (At.keep z0 (p := ⟨(w.heap.size), 1, none⟩) (v := .int .i64 hg) (by simp [go_sem]) (by simp [go_sem])); obtain ⟨p1c, p1z, p1l⟩ := p1.out; have p2 := Hb.mk (At.keep z0 (p := ⟨(w.heap.size), 2, none⟩) (v := .slice a xs.length cap) (by simp [go_sem]) (by simp [go_sem])); obtain ⟨p2c, p2z, p2l⟩ := p2.out; clear z0)
      | (go_at_call 21; clear tk_a; refine (tGrid_any _ (HR.out.below Z0.out) hl).mono ?_; rintro e w1 ⟨ga, rfl, o1, b1⟩; have O1 := Hf.mk (frow_own rfl o1); have B1 := Hb.mk (Below.on (B := w.heap.size) (a := w) (by repeat (first | exact Z0.out | refine Below.drews ?_ | refine Below.drew ?_ | refine Below.alloc ?_ (by have hq_ := Z0.out.size; first | omega | (simp <;> omega)) _ | refine Below.setCell ?_ (by have hq_ := Z0.out.size; first | omega | (simp <;> omega)) _)) b1 (by have hq_ := Z0.out.size; first | omega | (simp <;> omega))); have p0 := Hb.mk (At.re p0.out b1 (by first | exact p0c | simp [go_sem, p0c, p0l]) (by first | exact p0z | simp [go_sem, p0z, p0l])); obtain ⟨p0c, p0z, p0l⟩ := p0.out; have p1 := Hb.mk (At.re p1.out b1 (by first | exact p1c | simp [go_sem, p1c, p1l]) (by first | exact p1z | simp [go_sem, p1z, p1l])); obtain ⟨p1c, p1z, p1l⟩ := p1.out; have p2 := Hb.mk (At.re p2.out b1 (by first | exact p2c | simp [go_sem, p2c, p2l]) (by first | exact p2z | simp [go_sem, p2z, p2l])); obtain ⟨p2c, p2z, p2l⟩ := p2.out; clear o1 b1)
      | (go_at_call 20; refine (HS.out _ _ _ O1.out).mono ?_; rintro e w2 ⟨rfl, b2⟩; have B2 := Hb.mk (Below.on (B := w.heap.size) (a := w) (by repeat (first | exact B1.out | refine Below.drews ?_ | refine Below.drew ?_ | refine Below.alloc ?_ (by have hq_ := B1.out.size; first | omega | (simp <;> omega)) _ | refine Below.setCell ?_ (by have hq_ := B1.out.size; first | omega | (simp <;> omega)) _)) b2 (by have hq_ := B1.out.size; first | omega | (simp <;> omega))); have p0 := Hb.mk (At.re p0.out b2 (by first | exact p0c | simp [go_sem, p0c, p0l]) (by first | exact p0z | simp [go_sem, p0z, p0l])); obtain ⟨p0c, p0z, p0l⟩ := p0.out; have p1 := Hb.mk (At.re p1.out b2 (by first | exact p1c | simp [go_sem, p1c, p1l]) (by first | exact p1z | simp [go_sem, p1z, p1l])); obtain ⟨p1c, p1z, p1l⟩ := p1.out; have p2 := Hb.mk (At.re p2.out b2 (by first | exact p2c | simp [go_sem, p2c, p2l]) (by first | exact p2z | simp [go_sem, p2z, p2l])); obtain ⟨p2c, p2z, p2l⟩ := p2.out; clear b2)
      | (go_at_call 21; clear tk_b; refine (tGrid_any _ (HR.out.below B2.out) hl).mono ?_; rintro e w3 ⟨gb, rfl, o3, b3⟩; have O3 := Hf.mk (frow_own rfl o3); have B3 := Hb.mk (Below.on (B := w.heap.size) (a := w) (by repeat (first | exact B2.out | refine Below.drews ?_ | refine Below.drew ?_ | refine Below.alloc ?_ (by have hq_ := B2.out.size; first | omega | (simp <;> omega)) _ | refine Below.setCell ?_ (by have hq_ := B2.out.size; first | omega | (simp <;> omega)) _)) b3 (by have hq_ := B2.out.size; first | omega | (simp <;> omega))); have p0 := Hb.mk (At.re p0.out b3 (by first | exact p0c | simp [go_sem, p0c, p0l]) (by first | exact p0z | simp [go_sem, p0z, p0l])); obtain ⟨p0c, p0z, p0l⟩ := p0.out; have p1 := Hb.mk (At.re p1.out b3 (by first | exact p1c | simp [go_sem, p1c, p1l]) (by first | exact p1z | simp [go_sem, p1z, p1l])); obtain ⟨p1c, p1z, p1l⟩ := p1.out; have p2 := Hb.mk (At.re p2.out b3 (by first | exact p2c | simp [go_sem, p2c, p2l]) (by first | exact p2z | simp [go_sem, p2z, p2l])); obtain ⟨p2c, p2z, p2l⟩ := p2.out; clear o3 b3)
      | (go_at_call 22; refine (HI.out _ _ _ (O3.out.below (by repeat (first | exact Below.refl _ _ | with_reducible assumption | refine Below.drews ?_ | refine Below.drew ?_ | refine Below.alloc ?_ (by simp <;> omega) _ | refine Below.setCell ?_ (by simp <;> omega) _))) (HT.out.on (by repeat (first | with_reducible refine Below.setCell ?_ (by first | omega | (simp <;> omega)) _ | with_reducible refine Below.drews ?_ | with_reducible refine Below.drew ?_ | with_reducible refine Below.alloc ?_ (by first | omega | (simp <;> omega)) _ | with_reducible exact B3.out | with_reducible exact Below.refl _ _))) (HD.out.on (by repeat (first | with_reducible refine Below.setCell ?_ (by first | omega | (simp <;> omega)) _ | with_reducible refine Below.drews ?_ | with_reducible refine Below.drew ?_ | with_reducible refine Below.alloc ?_ (by first | omega | (simp <;> omega)) _ | with_reducible exact B3.out | with_reducible exact Below.refl _ _)))).mono ?_; rintro e w4 ⟨rfl, b4⟩; have O4 := Hf.mk ((O3.out.below (by repeat (first | exact Below.refl _ _ | with_reducible assumption | refine Below.drews ?_ | refine Below.drew ?_ | refine Below.alloc ?_ (by simp <;> omega) _ | refine Below.setCell ?_ (by simp <;> omega) _))).below b4); have B4 := Hb.mk (Below.on (B := w.heap.size) (a := w) (by repeat (first | exact B3.out | refine Below.drews ?_ | refine Below.drew ?_ | refine Below.alloc ?_ (by have hq_ := B3.out.size; first | omega | (simp <;> omega)) _ | refine Below.setCell ?_ (by have hq_ := B3.out.size; first | omega | (simp <;> omega)) _)) b4 (by have hq_ := B3.out.size; first | omega | (simp <;> omega))); have p0 := Hb.mk (At.re p0.out b4 (by first | exact p0c | simp [go_sem, p0c, p0l]) (by first | exact p0z | simp [go_sem, p0z, p0l])); obtain ⟨p0c, p0z, p0l⟩ := p0.out; have p1 := Hb.mk (At.re p1.out b4 (by first | exact p1c | simp [go_sem, p1c, p1l]) (by first | exact p1z | simp [go_sem, p1z, p1l])); obtain ⟨p1c, p1z, p1l⟩ := p1.out; have p2 := Hb.mk (At.re p2.out b4 (by first | exact p2c | simp [go_sem, p2c, p2l]) (by first | exact p2z | simp [go_sem, p2z, p2l])); obtain ⟨p2c, p2z, p2l⟩ := p2.out; have x0 := Hb.mk (At.keep b4 (p := ⟨(w3.heap.size), 0, none⟩) (v := .int .i64 wd) (by simp [go_sem]) (by simp [go_sem])); obtain ⟨x0c, x0z, x0l⟩ := x0.out; have x1 := Hb.mk (At.keep b4 (p := ⟨(w3.heap.size), 1, none⟩) (v := .int .i64 hg) (by simp [go_sem]) (by simp [go_sem])); obtain ⟨x1c, x1z, x1l⟩ := x1.out; have x2 := Hb.mk (At.keep b4 (p := ⟨(w3.heap.size), 2, none⟩) (v := sl gb xs.length xs.length) (by simp [go_sem]) (by simp [go_sem])); obtain ⟨x2c, x2z, x2l⟩ := x2.out; clear b4)
      | fail)
    go_region_with (first
      | (go_at_call 21; clear tk_c; refine (tGrid_any _ ((HR.out.below B4.out).drw (by repeat (first | exact Drew.refl _ | refine Drew.more ?_))) hl).mono ?_; rintro e w5 ⟨gc, rfl, o5, b5⟩; have O5 := Hf.mk (frow_own rfl o5); have O6 := Hf.mk ((O4.out.drw (by repeat (first | exact Drew.refl _ | refine Drew.more ?_))).below b5); have B5 := Hb.mk (Below.on (B := w.heap.size) (a := w) (by repeat (first | exact B4.out | refine Below.drews ?_ | refine Below.drew ?_ | refine Below.alloc ?_ (by have hq_ := B4.out.size; first | omega | (simp <;> omega)) _ | refine Below.setCell ?_ (by have hq_ := B4.out.size; first | omega | (simp <;> omega)) _)) b5 (by have hq_ := B4.out.size; first | omega | (simp <;> omega))); have x0 := Hb.mk (At.re x0.out b5 (by first | exact x0c | simp [go_sem, x0c, x0l]) (by first | exact x0z | simp [go_sem, x0z, x0l])); obtain ⟨x0c, x0z, x0l⟩ := x0.out; have x1 := Hb.mk (At.re x1.out b5 (by first | exact x1c | simp [go_sem, x1c, x1l]) (by first | exact x1z | simp [go_sem, x1z, x1l])); obtain ⟨x1c, x1z, x1l⟩ := x1.out; have x2 := Hb.mk (At.re x2.out b5 (by first | exact x2c | simp [go_sem, x2c, x2l]) (by first | exact x2z | simp [go_sem, x2z, x2l])); obtain ⟨x2c, x2z, x2l⟩ := x2.out; clear o5 b5)
      | (go_at_call 23; refine (eqGrid_any _ (Told.of O6.out HW.out) (Told.of O5.out HW.out) hl).mono ?_; rintro e w6 ⟨rfl, b6⟩; have B6 := Hb.mk (Below.on (B := w.heap.size) (a := w) (by repeat (first | exact B5.out | refine Below.drews ?_ | refine Below.drew ?_ | refine Below.alloc ?_ (by have hq_ := B5.out.size; first | omega | (simp <;> omega)) _ | refine Below.setCell ?_ (by have hq_ := B5.out.size; first | omega | (simp <;> omega)) _)) b6 (by have hq_ := B5.out.size; first | omega | (simp <;> omega))); clear b6))
    all_goals go_wp2
    all_goals go_ret
    all_goals exact ⟨rfl, (by repeat (first | exact Below.refl _ _ | exact B6.out | refine Below.drews ?_ | refine Below.drew ?_ | refine Below.alloc ?_ (by first | omega | (simp <;> omega)) _ | refine Below.setCell ?_ (by first | omega | (simp <;> omega)) _))⟩
theorem law_GridText {a : Option Addr} {cap : Nat} {xs : List Nat} {wd hg : Int}  (w : World) (hr : FRow w a xs) (hw : Wf xs) (hm : xs.length ≤ 9223372036854775807) (ht : P10 w) (hd : Db4 w) : Calls Tryd.prog 5 #[gd wd hg (.slice a xs.length cap)] w (RS (.bool true) w) := by
  by_cases hl : xs.length ≤ 1048576
  · exact walk_GridText (ok := gridB wd hg xs.length (hF xs)) (v := (if gridB wd hg xs.length (hF xs) then ofL (gtL wd hg xs) else ⟨#[]⟩)) w hr hw hl ht hd
      (fun g k W h => sGridText_any W h hw hl)
      (fun g k W h h2 h3 => iGridText_any W h hw hl h2 h3)
  · have KZ := Hf.mk (szGrid_no (a := a) (cap := cap) (wd := wd) (hg := hg) (by omega) hm)
    clear hr hw
    go_enter Tryd.func5, Tryd.ntmps5
    go_wp2_with (first | (go_at_call 19; refine (KZ.out _).mono ?_; rintro e w' ⟨rfl, z0⟩; have E1 := Hb.mk z0; clear z0))
    go_ret
    exact ⟨rfl, (by repeat (first | exact Below.refl _ _ | refine Below.on ?_ E1.out (by first | omega | (simp <;> omega)) | refine Below.drews ?_ | refine Below.drew ?_ | refine Below.alloc ?_ (by first | omega | (simp <;> omega)) _ | refine Below.setCell ?_ (by first | omega | (simp <;> omega)) _))⟩
/-- What a laid table tells. -/
def untab : DataW Unit → List Int
  | .agg l => l.map fun | .lit (.int _ z) => z | _ => 0
  | _ => []
theorem tab_GridText {W : World} (h : laidMetH Tryd.prog Rows.fnExactGridTextRow.laid W) : P10 W ∧ Db4 W := by
  rw [MakeChecks.laidMetH_plain _ _ _ (by kernel_rfl)] at h
  have e : (Rows.laid_math_bits_deBruijn64tab : DataW Unit) = Lib.tabData .u8 (untab Rows.laid_math_bits_deBruijn64tab) := by kernel_rfl
  have e2 : (Rows.laid_internal_strconv_uint64pow10 : DataW Unit) = Lib.tabData .u64 Lib.pow10Tab := by kernel_rfl
  have h2 := laidMet.tail h
  have h5 := laidMet.tail h2
  rw [e] at h2
  rw [e2] at h5
  have h3 := Lib.tabIs_of_head (g := 6) (t := 194) (e := 5) (n := 64) (by kernel_rfl) (by kernel_rfl) Tryd.underlying194 Tryd.underlying5 (by kernel_rfl) (by kernel_rfl) h2
  have h4 := Lib.TabIs.cell h3 (g := 6) (by kernel_rfl) 15 (of_decide_eq_true (by kernel_rfl))
  rw [show (untab Rows.laid_math_bits_deBruijn64tab).getD 15 0 = 4 by kernel_rfl] at h4
  exact ⟨Lib.tabIs_of_head (g := 2) (t := 184) (e := 167) (n := 20) (by kernel_rfl) (by kernel_rfl) (by kernel_rfl) Tryd.underlying167 (by kernel_rfl) (by kernel_rfl) h5, h4⟩
end Go.Proofs.YtcgakdgfmhkpjaaDoor
