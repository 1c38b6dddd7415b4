/-
CountOutputs of the model: how many lines are no or what. No premise beyond the text's size.
-/
import Derived.Test.YtcgakdgfmhkpjaaDoorCut
import Derived.Deep.RegionWith
namespace Go.Proofs.YtcgakdgfmhkpjaaDoor
open Go Go.RowKit
set_option maxRecDepth 100000

theorem cu_shf {w : World} {base : Nat} {e : TypeId} {size : Nat} {v : Value} {n : Nat} {xs : List Value} (h : w.ownsRow base e size v n xs) (h0 : 0 < n) : ∃ g cap, v = .slice (some ⟨g, 0, none⟩) n cap ∧ base ≤ g ∧ g < w.heap.size ∧ n ≤ cap := by
  obtain ⟨_, h2⟩ := h
  rcases h2 with ⟨_, hz⟩ | ⟨g, cap, cur, hv, hg, hh, hn, hc, _⟩
  · omega
  · exact ⟨g, cap, hv, hg, (Array.getElem?_eq_some_iff.1 hh).1, hn⟩
/-- A list of texts lies in a block. -/
def TRow (w : World) (g : Nat) (L : List (List UInt8)) : Prop := ∀ j, j < L.length → w.cell? ⟨g, j, none⟩ = some (.string ⟨(L.getD j []).toArray⟩)
theorem TRow.below {w w' : World} {g : Nat} {L : List (List UInt8)} (h : TRow w g L) (b : Below w.heap.size w w') : TRow w' g L := fun j hj => Below.keep b (h j hj)
theorem trow_own {w : World} {base g n cap : Nat} {e : TypeId} {L : List (List UInt8)} (h : w.ownsRow base e 1 (.slice (some ⟨g, 0, none⟩) n cap) n (sRow L)) : TRow w g L := by
  intro j hj
  have hl : n = L.length := by have := h.1; rw [sRow_len] at this; omega
  have := h.cellAt j (by omega)
  rw [this]
  unfold sRow
  rw [List.getElem?_map, List.getD, List.getElem?_eq_getElem hj]
  rfl
theorem trow_pre {w : World} {g : Nat} {L M : List (List UInt8)} (h : TRow w g (L ++ M)) : TRow w g L := by
  intro j hj
  have := h j (by rw [List.length_append]; omega)
  rw [this]
  have e : (L ++ M).getD j [] = L.getD j [] := by simp [List.getD, List.getElem?_append_left hj]
  rw [e]
/-- The lines of a text and what is left. -/
theorem cut_split (c : UInt8) (t : List UInt8) : ∃ (L : List (List UInt8)) (r : List UInt8), cutL c t = L ++ [r] ∧ r = (cutL c t).getLast (cutL_ne c t) := by
  refine ⟨(cutL c t).dropLast, _, (List.dropLast_concat_getLast (cutL_ne c t)).symm, rfl⟩
set_option maxHeartbeats 1000000 in
theorem l08Lines_any {s : ByteArray} {L : List (List UInt8)} {r : List UInt8} (hs : s.size ≤ 1048576) (hc : cutL 10 s.data.toList = L ++ [r]) (hL : L.length ≤ 1048576) (w : World) : Calls Tryd.prog 60 #[.string s] w (fun e w' => ∃ g cap, e = .returned (.tuple #[.slice (some ⟨g, 0, none⟩) L.length cap, .string ⟨r.toArray⟩]) ∧ TRow w' g L ∧ Below w.heap.size w w') := by
  have KC := Hf.mk (fun w => l01Cut_any (c := 10) hs w)
  rw [hc] at KC
  simp only [List.length_append, List.length_singleton] at KC
  go_enter Tryd.func60, Tryd.ntmps60
  go_wp2_with (go_at_call 91; refine (KC.out _).mono ?_; rintro e w1 ⟨v1, rfl, o1, b1⟩; have B1 := Hb.mk b1; obtain ⟨g1, k1, rfl, hg1, hl1, hk1⟩ := cu_shf o1 (by omega); have T1 := Hf.mk (trow_own o1); clear o1 b1)
  have q1 := (T1.out) L.length (by simp)
  rw [show (L ++ [r]).getD L.length [] = r by simp [List.getD]] at q1
  have hT := hk1
  go_region
  go_wp2
  go_ret2
  exact ⟨g1, k1, rfl, fun j hj => (trow_pre T1.out) j hj, (by repeat (first | with_reducible refine Below.setCell ?_ (by first | omega | (simp <;> omega)) _ | with_reducible refine Below.drews ?_ | with_reducible refine Below.drew ?_ | with_reducible refine Below.alloc ?_ (by first | omega | (simp <;> omega)) _ | with_reducible exact B1.out | with_reducible exact Below.refl _ _))⟩
/-- no or what -/
def bdL (l : List UInt8) : Bool := decide (l = [110, 111] ∨ l = [119, 104, 97, 116])
def bdC (L : List (List UInt8)) : Nat → Nat
  | 0 => 0
  | k + 1 => bdC L k + (if bdL (L.getD k []) then 1 else 0)
theorem bdC_le (L : List (List UInt8)) : ∀ k, bdC L k ≤ k := by
  intro k
  induction k with
  | zero => exact Nat.le_refl _
  | succ k ih => unfold bdC; split <;> omega
abbrev coT (a b : Int) (ok : Bool) : Value := .tuple #[.int .i64 a, .int .i64 b, .bool ok]
set_option maxHeartbeats 2000000 in
theorem sCou_long {s : ByteArray} (hs : s.size ≤ 1048576) (hl : 16000 < s.size) (w : World) : Calls Tryd.prog 28 #[.string s] w (RS (coT 0 0 false) w) := by
  go_enter Tryd.func28, Tryd.ntmps28
  go_wp2
  go_ret3
  exact ⟨rfl, (by repeat (first | exact Below.refl _ _ | with_reducible assumption | refine Below.drews ?_ | refine Below.drew ?_ | refine Below.alloc ?_ (by simp <;> omega) _ | refine Below.setCell ?_ (by simp <;> omega) _))⟩
set_option maxHeartbeats 2000000 in
theorem sCou_rest {s : ByteArray} {L : List (List UInt8)} {r : List UInt8} (hl : s.size ≤ 16000) (hc : cutL 10 s.data.toList = L ++ [r]) (hL : L.length ≤ 1048576) (hr : r ≠ []) (w : World) : Calls Tryd.prog 28 #[.string s] w (RS (coT 0 0 false) w) := by
  have KL := Hf.mk (fun w => l08Lines_any (by omega) hc hL w)
  have hr2 : r.isEmpty = false := by cases r with | nil => exact absurd rfl hr | cons _ _ => rfl
  have B0 := Hb.mk (Below.refl w.heap.size w)
  clear hc hr
  go_enter Tryd.func28, Tryd.ntmps28
  go_wp2_with (go_at_call 60; refine (KL.out _).mono ?_; rintro e w1 ⟨g1, k1, rfl, t1, b1⟩; have B1 := Hb.mk (Below.on (B := w.heap.size) (a := w) (by repeat (first | exact B0.out | refine Below.drews ?_ | refine Below.drew ?_ | refine Below.alloc ?_ (by have hq_ := B0.out.size; first | omega | (simp <;> omega)) _ | refine Below.setCell ?_ (by have hq_ := B0.out.size; first | omega | (simp <;> omega)) _)) b1 (by have hq_ := B0.out.size; first | omega | (simp <;> omega))); clear b1)
  go_ret3
  exact ⟨rfl, (by repeat (first | exact B1.out | refine Below.drews ?_ | refine Below.drew ?_ | refine Below.alloc ?_ (by have hq_ := B1.out.size; first | omega | (simp <;> omega)) _ | refine Below.setCell ?_ (by have hq_ := B1.out.size; first | omega | (simp <;> omega)) _))⟩
set_option maxHeartbeats 2000000 in
theorem sCou_yes {s : ByteArray} {L : List (List UInt8)} (hl : s.size ≤ 16000) (hc : cutL 10 s.data.toList = L ++ [ [] ]) (hL : L.length ≤ 1048576) (w : World) : Calls Tryd.prog 28 #[.string s] w (RS (coT (bdC L L.length : Nat) ((L.length : Int) - (bdC L L.length : Nat)) true) w) := by
  have KL := Hf.mk (fun w => l08Lines_any (by omega) hc hL w)
  have B0 := Hb.mk (Below.refl w.heap.size w)
  have hbl := bdC_le L L.length
  clear hc
  go_enter Tryd.func28, Tryd.ntmps28
  go_wp2_with (go_at_call 60; refine (KL.out _).mono ?_; rintro e w1 ⟨g1, k1, rfl, t1, b1⟩; have B1 := Hb.mk (Below.on (B := w.heap.size) (a := w) (by repeat (first | exact B0.out | refine Below.drews ?_ | refine Below.drew ?_ | refine Below.alloc ?_ (by have hq_ := B0.out.size; first | omega | (simp <;> omega)) _ | refine Below.setCell ?_ (by have hq_ := B0.out.size; first | omega | (simp <;> omega)) _)) b1 (by have hq_ := B0.out.size; first | omega | (simp <;> omega))); have T1 := Hf.mk t1; clear b1 t1)
  go_loopw [7, 8] (fun v7 v8 wr => ∃ j : Nat, j ≤ L.length ∧ v8 = .int .i64 j ∧ v7 = .int .i64 (bdC L j : Nat) ∧ Drew w1 wr) (fun _ v8 _ => L.length - (intOf v8).toNat)
  case atStart => exact ⟨0, by omega, rfl, rfl, (by repeat (first | exact Drew.refl _ | refine Drew.more ?_))⟩
  case round =>
    obtain ⟨j, hj, rfl, rfl, q, rfl⟩ := hrel
    by_cases hlt : j < L.length
    · have d0 := T1.out j hlt
      have hbj := bdC_le L j
      have HY : Hf (bdC L (j + 1) = bdC L j + (if bdL (L.getD j []) then 1 else 0)) := ⟨rfl⟩
      generalize L.getD j [] = l at *
      go_wp2
      all_goals first
        | (have hb : bdL l = true := by (unfold bdL; simp_all; done)
           rw [hb] at HY
           exact ⟨⟨j + 1, by omega, i_ext2 (by omega), i_ext2 (by rw [HY.out]; simp), (by repeat (first | exact Drew.refl _ | refine Drew.more ?_))⟩, by simp [intOf]; omega⟩)
        | (have hb : bdL l = false := by (unfold bdL; simp_all; done)
           rw [hb] at HY
           exact ⟨⟨j + 1, by omega, i_ext2 (by omega), i_ext2 (by rw [HY.out]; simp), (by repeat (first | exact Drew.refl _ | refine Drew.more ?_))⟩, by simp [intOf]; omega⟩)
    · obtain rfl : j = L.length := by omega
      go_wp2
      go_ret3
      exact ⟨rfl, (by repeat (first | exact B1.out | refine Below.drews ?_ | refine Below.drew ?_ | refine Below.alloc ?_ (by have hq_ := B1.out.size; first | omega | (simp <;> omega)) _ | refine Below.setCell ?_ (by have hq_ := B1.out.size; first | omega | (simp <;> omega)) _))⟩
end Go.Proofs.YtcgakdgfmhkpjaaDoor
