/-
  Valid tracks, of the program and of its model; the exact law ValidTrack. No condition.
-/
import Derived.Test.YtmioclcipdifpaaPkd
import Derived.Test.YtmioclcipdifpaaNm
import Derived.Test.YtmioclcipdifpaaNopn
import Derived.Deep.RegionWith
namespace Go.Proofs.Ytmioclcipdifpaa
open Go Go.RowKit
set_option maxRecDepth 100000

abbrev tk (s : ByteArray) (a : Option Addr) (n k : Nat) : Value := .agg #[.string s, .slice a n k]
abbrev tv (s : ByteArray) (g n : Nat) : Value := tk s (some ⟨g, 0, none⟩) n n
def trackB (s : ByteArray) (ys : List Nat) (n : Nat) : Bool := nameB s && packB ys n
theorem l07Name_any (s : ByteArray) (hs : s.size ≤ 1048576) (w : World) : Calls Try.prog 18 #[.string s] w (RB (nameB s) w) := by
  go_enter Try.func18, Try.ntmps18
  go_wp2
  go_loopw [3] (fun i wr => ∃ m : Nat, m ≤ s.size ∧ i = .int .i64 m ∧ Hdn (lets s m) ∧ Drew w wr) (fun i _ => s.size - (intOf i).toNat)
  case atStart => exact ⟨0, by omega, rfl, ⟨fun j hj => absurd hj (Nat.not_lt_zero j)⟩, (by repeat (first | exact Drew.refl _ | refine Drew.more ?_))⟩
  case round =>
    obtain ⟨m, hm, rfl, hl, q, rfl⟩ := hrel
    by_cases hlt : m < s.size
    · have hb : (s[m]'hlt).toNat < 256 := UInt8.toNat_lt _
      by_cases ha : (s[m]'hlt).toNat < 97
      · have K := Hdn.mk (nameB_bad hlt (by unfold letter; exact decide_eq_false (by omega)))
        go_wp2
        go_ret
        rw [K.out]
        exact RB.any rfl (by repeat (first | exact Drew.refl _ | refine Drew.more ?_))
      · by_cases hz : 122 < (s[m]'hlt).toNat
        · have K := Hdn.mk (nameB_bad hlt (by unfold letter; exact decide_eq_false (by omega)))
          go_wp2
          go_ret
          rw [K.out]
          exact RB.any rfl (by repeat (first | exact Drew.refl _ | refine Drew.more ?_))
        · have K := Hdn.mk (lets_more hlt hl.out (by unfold letter; exact decide_eq_true (by omega)))
          go_wp2
          go_roundw
          case rel => exact ⟨m + 1, by omega, by rw [show ((m : Int) + 1) = ((m + 1 : Nat) : Int) by omega], K, (by repeat (first | exact Drew.refl _ | refine Drew.more ?_))⟩
          case measure => simp [intOf]; omega
    · obtain rfl : m = s.size := by omega
      have K := Hdn.mk (nameB_all hl.out)
      go_wp2
      · go_ret
        rw [K.out]
        exact RB.any (by rw [Bool.eq_iff_iff]; simp only [decide_eq_true_eq]; omega) (by repeat (first | exact Drew.refl _ | refine Drew.more ?_))
      · go_ret
        rw [K.out]
        exact RB.any (by simp; omega) (by repeat (first | exact Drew.refl _ | refine Drew.more ?_))
theorem szPSg_yes {a : Option Addr} {n m cap : Nat} (hl : n ≤ m) (hm : m ≤ 1048576) (w : World) : Calls Try.prog 9 #[.slice a n cap, .int .i64 (m : Int)] w (RI .i64 ((m : Int) - (n : Int)) w) := by
  go_enter Try.func9, Try.ntmps9
  go_wp2
  go_ret
  exact RI.any rfl (by repeat (first | exact Drew.refl _ | refine Drew.more ?_))
theorem szPSg_no {a : Option Addr} {n m cap : Nat} (hl : m < n) (hm : n ≤ 9223372036854775807) (hm2 : m ≤ 1048576) (w : World) : Calls Try.prog 9 #[.slice a n cap, .int .i64 (m : Int)] w (RI .i64 (-1) w) := by
  go_enter Try.func9, Try.ntmps9
  go_wp2
  go_ret
  exact RI.any rfl (by repeat (first | exact Drew.refl _ | refine Drew.more ?_))
theorem szTrack_yes {s : ByteArray} {a : Option Addr} {n k : Nat} (hl : s.size + n ≤ 1048576) (w : World) : Calls Try.prog 4 #[tk s a n k, .int .i64 1048576] w (RS (.int .i64 (1048576 - (s.size : Int) - (n : Int))) w) := by
  have K2 := Hf.mk (szPSg_yes (a := a) (n := n) (m := 1048576 - s.size) (cap := k) (by omega) (by omega))
  rw [show (((1048576 - s.size : Nat) : Int)) = 1048576 - (s.size : Int) by omega] at K2
  go_enter Try.func4, Try.ntmps4
  go_wp2_with (first | (go_at_call 9; refine (K2.out _).mono ?_; rintro e w' ⟨rfl, n1, rfl⟩))
  go_ret
  exact ⟨rfl, (by repeat (first | exact Below.refl _ _ | with_reducible assumption | refine Below.drews ?_ | refine Below.drew ?_ | refine Below.alloc ?_ (by simp <;> omega) _ | refine Below.setCell ?_ (by simp <;> omega) _))⟩
theorem szTrack_no {s : ByteArray} {a : Option Addr} {n k : Nat} (hl : 1048576 < s.size + n) (hs : s.size ≤ 9223372036854775807) (hm : n ≤ 9223372036854775807) (w : World) : Calls Try.prog 4 #[tk s a n k, .int .i64 1048576] w (RS (.int .i64 (-1)) w) := by
  by_cases h : s.size ≤ 1048576
  · have K2 := Hf.mk (szPSg_no (a := a) (n := n) (m := 1048576 - s.size) (cap := k) (by omega) hm (by omega))
    rw [show (((1048576 - s.size : Nat) : Int)) = 1048576 - (s.size : Int) by omega] at K2
    go_enter Try.func4, Try.ntmps4
    go_wp2_with (first | (go_at_call 9; refine (K2.out _).mono ?_; rintro e w' ⟨rfl, n1, rfl⟩))
    go_ret
    exact ⟨rfl, (by repeat (first | exact Below.refl _ _ | with_reducible assumption | refine Below.drews ?_ | refine Below.drew ?_ | refine Below.alloc ?_ (by simp <;> omega) _ | refine Below.setCell ?_ (by simp <;> omega) _))⟩
  · go_enter Try.func4, Try.ntmps4
    go_wp2
    go_ret
    exact ⟨rfl, (by repeat (first | exact Below.refl _ _ | with_reducible assumption | refine Below.drews ?_ | refine Below.drew ?_ | refine Below.alloc ?_ (by simp <;> omega) _ | refine Below.setCell ?_ (by simp <;> omega) _))⟩
theorem FRow.ot {w : World} {g b o : Nat} {ys : List Nat} (h : FRow w (some ⟨g, 0, none⟩) ys) (hne : g ≠ b) (u : Value) : FRow (w.setCell ⟨b, o, none⟩ u) (some ⟨g, 0, none⟩) ys := by
  intro i hi
  obtain ⟨p, hp, hc⟩ := h i hi
  obtain rfl := Option.some.inj hp
  refine ⟨_, rfl, ?_⟩
  rw [add_at] at hc ⊢
  rw [World.cell?_setCell_other _ _ _ _ (by intro e; injection e; omega)]
  exact hc
theorem tTrack_any {s : ByteArray} {a : Option Addr} {n k : Nat} {ys : List Nat} (w : World) (hr : FRow w a ys) (hn : ys.length = 2 * n) (hl : n ≤ 1048576) :
    Calls Try.prog 6 #[tk s a n k] w (fun e w' => ∃ g, e = .returned (tv s g n) ∧ FRow w' (some ⟨g, 0, none⟩) ys ∧ Below w.heap.size w w') := by
  have HR := Hf.mk hr
  have HN := Hf.mk hn
  clear hr hn
  have B0 := Hb.mk (Below.refl w.heap.size w)
  go_enter Try.func6, Try.ntmps6
  go_wp2_with (first
    | (go_at_call 12; refine (toPS_any _ (HR.out.below (by repeat (first | exact Below.refl _ _ | with_reducible assumption | refine Below.drews ?_ | refine Below.drew ?_ | refine Below.alloc ?_ (by simp <;> omega) _ | refine Below.setCell ?_ (by simp <;> omega) _))) HN.out hl).mono ?_; rintro e w1 ⟨rfl, o1, b1⟩; have B1 := Hb.mk (Below.on (B := w.heap.size) (a := w) (by repeat (first | exact B0.out | refine Below.drews ?_ | refine Below.drew ?_ | refine Below.alloc ?_ (by have hq_ := B0.out.size; first | omega | (simp <;> omega)) _ | refine Below.setCell ?_ (by have hq_ := B0.out.size; first | omega | (simp <;> omega)) _)) b1 (by have hq_ := B0.out.size; first | omega | (simp <;> omega))); have q0 := Hb.mk (At.keep b1 (p := ⟨(w.heap.size + 1), 0, none⟩) (v := .string ⟨#[]⟩) (by simp [go_sem]) (by simp [go_sem])); obtain ⟨q0c, q0z, q0l⟩ := q0.out; have q1 := Hb.mk (At.keep b1 (p := ⟨(w.heap.size + 1), 1, none⟩) (v := .slice none 0 0) (by simp [go_sem]) (by simp [go_sem])); obtain ⟨q1c, q1z, q1l⟩ := q1.out; have r0 := Hb.mk (At.keep b1 (p := ⟨(w.heap.size + 2), 0, none⟩) (v := .string s) (by simp [go_sem]) (by simp [go_sem])); obtain ⟨r0c, r0z, r0l⟩ := r0.out; have r1 := Hb.mk (At.keep b1 (p := ⟨(w.heap.size + 2), 1, none⟩) (v := .slice none 0 0) (by simp [go_sem]) (by simp [go_sem])); obtain ⟨r1c, r1z, r1l⟩ := r1.out; simp only [World.size_alloc] at o1; (try simp only [World.size_setCell, World.size_alloc] at o1); have O1 := Hf.mk o1; clear o1 b1))
  exact bodyPost_ret (v := tv s (w.heap.size + 1 + 1 + 1) n) (by first | (simp [results, Try.results6, go_sem, q0c, q1c]; done) | simp [results, Try.results6, go_sem, q0c, q1c, r0c, r1c]) rfl ⟨_, rfl, ((O1.out.ot (by omega) _).ot (by omega) _).ot (by omega) _, (by repeat (first | exact B1.out | refine Below.drews ?_ | refine Below.drew ?_ | refine Below.alloc ?_ (by have hq_ := B1.out.size; first | omega | (simp <;> omega)) _ | refine Below.setCell ?_ (by have hq_ := B1.out.size; first | omega | (simp <;> omega)) _))⟩
theorem eqTrack_any {s : ByteArray} {g1 g2 n : Nat} {ys : List Nat} (w : World) (r1 : FRow w (some ⟨g1, 0, none⟩) ys) (r2 : FRow w (some ⟨g2, 0, none⟩) ys) (hw : Wf ys) (hn : ys.length = 2 * n) (hl : n ≤ 1048576) : Calls Try.prog 8 #[tv s g1 n, tv s g2 n] w (RS (.bool true) w) := by
  have R1 := Hf.mk r1
  have R2 := Hf.mk r2
  have HW := Hf.mk hw
  have HN := Hf.mk hn
  clear r1 r2 hw hn
  have B0 := Hb.mk (Below.refl w.heap.size w)
  go_enter Try.func8, Try.ntmps8
  go_wp2_with (first
    | (go_at_call 17; refine (eqPS_any _ (R1.out.below (by repeat (first | exact Below.refl _ _ | with_reducible assumption | refine Below.drews ?_ | refine Below.drew ?_ | refine Below.alloc ?_ (by simp <;> omega) _ | refine Below.setCell ?_ (by simp <;> omega) _))) (R2.out.below (by repeat (first | exact Below.refl _ _ | with_reducible assumption | refine Below.drews ?_ | refine Below.drew ?_ | refine Below.alloc ?_ (by simp <;> omega) _ | refine Below.setCell ?_ (by simp <;> omega) _))) HW.out HN.out hl).mono ?_; rintro e w1 ⟨rfl, b1⟩; have B1 := Hb.mk (Below.on (B := w.heap.size) (a := w) (by repeat (first | exact B0.out | refine Below.drews ?_ | refine Below.drew ?_ | refine Below.alloc ?_ (by have hq_ := B0.out.size; first | omega | (simp <;> omega)) _ | refine Below.setCell ?_ (by have hq_ := B0.out.size; first | omega | (simp <;> omega)) _)) b1 (by have hq_ := B0.out.size; first | omega | (simp <;> omega))); clear b1))
  go_ret
  exact ⟨rfl, (by repeat (first | exact B1.out | refine Below.drews ?_ | refine Below.drew ?_ | refine Below.alloc ?_ (by have hq_ := B1.out.size; first | omega | (simp <;> omega)) _ | refine Below.setCell ?_ (by have hq_ := B1.out.size; first | omega | (simp <;> omega)) _))⟩
theorem l07Track_any {s : ByteArray} {p g n : Nat} {ys : List Nat} (hs : s.size ≤ 1048576) (w : World) (c0 : w.cell? ⟨p, 0, none⟩ = some (.string s)) (c1 : w.cell? ⟨p, 1, none⟩ = some (.slice (some ⟨g, 0, none⟩) n n)) (hr : FRow w (some ⟨g, 0, none⟩) ys) (hw : Wf ys) (hn : ys.length = 2 * n) (hl : n ≤ 1048576) : Calls Try.prog 10 #[.pointer (some ⟨p, 0, none⟩)] w (RS (.bool (trackB s ys n)) w) := by
  have HA := Hf.mk (fun w => l07Name_any s hs w)
  have HP := Hf.mk (fun w hr => l07Packed_any (g := g) w hr hw hn hl)
  have HR := Hf.mk hr
  have B0 := Hb.mk (Below.refl w.heap.size w)
  clear hr hw hn
  cases ha : nameB s
  · have KF := Hf.mk (show trackB s ys n = false by unfold trackB; rw [ha, Bool.false_and])
    rw [ha] at HA
    go_enter Try.func10, Try.ntmps10
    go_wp2_with (first | (go_at_call 18; refine (HA.out _).mono ?_; rintro e w' ⟨rfl, n1, rfl⟩))
    go_ret
    rw [KF.out]
    exact ⟨rfl, (by repeat (first | exact B0.out | refine Below.drews ?_ | refine Below.drew ?_ | refine Below.alloc ?_ (by have hq_ := B0.out.size; first | omega | (simp <;> omega)) _ | refine Below.setCell ?_ (by have hq_ := B0.out.size; first | omega | (simp <;> omega)) _))⟩
  · have KR := Hf.mk (show trackB s ys n = packB ys n by unfold trackB; rw [ha, Bool.true_and])
    rw [ha] at HA
    clear ha
    go_enter Try.func10, Try.ntmps10
    go_wp2_with (first | (go_at_call 18; refine (HA.out _).mono ?_; rintro e w' ⟨rfl, n1, rfl⟩) | (go_at_call 19; refine (HP.out _ (HR.out.drew _)).mono ?_; rintro e w2 ⟨rfl, b2⟩; have B2 := Hb.mk (Below.on (B := w.heap.size) (a := w) (by repeat (first | exact B0.out | refine Below.drews ?_ | refine Below.drew ?_ | refine Below.alloc ?_ (by have hq_ := B0.out.size; first | omega | (simp <;> omega)) _ | refine Below.setCell ?_ (by have hq_ := B0.out.size; first | omega | (simp <;> omega)) _)) b2 (by have hq_ := B0.out.size; first | omega | (simp <;> omega))); clear b2))
    go_ret
    rw [KR.out]
    exact ⟨rfl, (by repeat (first | exact B2.out | refine Below.drews ?_ | refine Below.drew ?_ | refine Below.alloc ?_ (by have hq_ := B2.out.size; first | omega | (simp <;> omega)) _ | refine Below.setCell ?_ (by have hq_ := B2.out.size; first | omega | (simp <;> omega)) _))⟩
theorem iValidTrack_any {s : ByteArray} {g n : Nat} {ys : List Nat} (hw : Wf ys) (hn : ys.length = 2 * n) (hl : n ≤ 1048576) (w : World) (hr : FRow w (some ⟨g, 0, none⟩) ys) : Calls Try.prog 14 #[tv s g n] w (RS (.bool (trackB s ys n)) w) := by
  have HA := Hf.mk (fun w => iName_any s w)
  have HP := Hf.mk (fun w hr => iArePacked_any (g := g) w hr hw hn hl)
  have HR := Hf.mk hr
  have B0 := Hb.mk (Below.refl w.heap.size w)
  clear hr hw hn
  cases ha : nameB s
  · have KF := Hf.mk (show trackB s ys n = false by unfold trackB; rw [ha, Bool.false_and])
    rw [ha] at HA
    go_enter Try.func14, Try.ntmps14
    go_wp2_with (first | (go_at_call 26; refine (HA.out _).mono ?_; rintro e w1 ⟨rfl, b1⟩; have B1 := Hb.mk (Below.on (B := w.heap.size) (a := w) (by repeat (first | exact B0.out | refine Below.drews ?_ | refine Below.drew ?_ | refine Below.alloc ?_ (by have hq_ := B0.out.size; first | omega | (simp <;> omega)) _ | refine Below.setCell ?_ (by have hq_ := B0.out.size; first | omega | (simp <;> omega)) _)) b1 (by have hq_ := B0.out.size; first | omega | (simp <;> omega))); clear b1))
    go_ret
    rw [KF.out]
    exact ⟨rfl, (by repeat (first | exact B1.out | refine Below.drews ?_ | refine Below.drew ?_ | refine Below.alloc ?_ (by have hq_ := B1.out.size; first | omega | (simp <;> omega)) _ | refine Below.setCell ?_ (by have hq_ := B1.out.size; first | omega | (simp <;> omega)) _))⟩
  · have KR := Hf.mk (show trackB s ys n = packB ys n by unfold trackB; rw [ha, Bool.true_and])
    rw [ha] at HA
    clear ha
    go_enter Try.func14, Try.ntmps14
    go_wp2_with (first | (go_at_call 26; refine (HA.out _).mono ?_; rintro e w1 ⟨rfl, b1⟩; have B1 := Hb.mk (Below.on (B := w.heap.size) (a := w) (by repeat (first | exact B0.out | refine Below.drews ?_ | refine Below.drew ?_ | refine Below.alloc ?_ (by have hq_ := B0.out.size; first | omega | (simp <;> omega)) _ | refine Below.setCell ?_ (by have hq_ := B0.out.size; first | omega | (simp <;> omega)) _)) b1 (by have hq_ := B0.out.size; first | omega | (simp <;> omega))); have p0 := Hb.mk (At.keep b1 (p := ⟨(w.heap.size), 0, none⟩) (v := .string s) (by simp [go_sem]) (by simp [go_sem])); obtain ⟨p0c, p0z, p0l⟩ := p0.out; have p1 := Hb.mk (At.keep b1 (p := ⟨(w.heap.size), 1, none⟩) (v := .slice (some ⟨g, 0, none⟩) n n) (by simp [go_sem]) (by simp [go_sem])); obtain ⟨p1c, p1z, p1l⟩ := p1.out; clear b1) | (go_at_call 23; refine (HP.out _ (HR.out.below B1.out)).mono ?_; rintro e w2 ⟨rfl, b2⟩; have B2 := Hb.mk (Below.on (B := w.heap.size) (a := w) (by repeat (first | exact B1.out | refine Below.drews ?_ | refine Below.drew ?_ | refine Below.alloc ?_ (by have hq_ := B1.out.size; first | omega | (simp <;> omega)) _ | refine Below.setCell ?_ (by have hq_ := B1.out.size; first | omega | (simp <;> omega)) _)) b2 (by have hq_ := B1.out.size; first | omega | (simp <;> omega))); clear b2))
    go_ret
    rw [KR.out]
    exact ⟨rfl, (by repeat (first | exact B2.out | refine Below.drews ?_ | refine Below.drew ?_ | refine Below.alloc ?_ (by have hq_ := B2.out.size; first | omega | (simp <;> omega)) _ | refine Below.setCell ?_ (by have hq_ := B2.out.size; first | omega | (simp <;> omega)) _))⟩
end Go.Proofs.Ytmioclcipdifpaa
