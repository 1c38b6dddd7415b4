/-
CountOutputs of the program: how many lines are no or what, by strings.CutSuffix and strings.Split. No premise beyond the text's size and the library's own variable.
-/
import Derived.Test.YtcgakdgfmhkpjaaDoorCou
import Derived.Test.YtcgakdgfmhkpjaaDoorShf
namespace Go.Proofs.YtcgakdgfmhkpjaaDoor
open Go Go.RowKit
set_option maxRecDepth 100000

abbrev nlB : ByteArray := ⟨#[10]⟩
theorem split_row (s : ByteArray) : (Lib.splitB nlB 0 (Lib.countB s nlB) s).map Value.string = sRow (cutL 10 s.data.toList) := by
  have h := splitK_cut 10 s.data.toList
  have h2 := Lib.splitB_data nlB 0 (Lib.countB s nlB) s
  rw [show nlB.data.toList = [10] from rfl] at h2
  rw [show Lib.countB s nlB = Lib.count s.data.toList [10] from rfl] at h2 ⊢
  rw [h] at h2
  rw [← h2]
  simp [sRow]
theorem trim_nl {t u : List UInt8} (h : t = u ++ [10]) : Lib.hasSuffix t [10] = true ∧ Lib.trimSuffix t [10] = u := by
  have h1 : Lib.hasSuffix t [10] = true := by
    unfold Lib.hasSuffix
    rw [List.isSuffixOf_iff_suffix]
    exact ⟨u, h.symm⟩
  refine ⟨h1, ?_⟩
  unfold Lib.trimSuffix
  rw [if_pos h1, h]
  simp
theorem row_trow {w : World} {L : List (List UInt8)} (t : TypeId) : TRow (w.alloc (.cells (sRow L).toArray t)) w.heap.size L := by
  intro j hj
  have e : (sRow L)[j]? = some (.string ⟨(L.getD j []).toArray⟩) := by
    unfold sRow
    rw [List.getElem?_map, List.getD, List.getElem?_eq_getElem hj]
    rfl
  simpa [go_sem] using e
set_option maxHeartbeats 2000000 in
theorem iCou_nil (w : World) : Calls Tryd.prog 29 #[.string ⟨#[]⟩] w (RS (coT 0 0 true) w) := by
  go_enter Tryd.func29, Tryd.ntmps29
  go_wp2
  go_loopw [7, 19] (fun v7 v19 wr => v19 = .int .i64 0 ∧ v7 = .int .i64 0 ∧ Drew w wr) (fun _ _ _ => 0)
  case atStart => exact ⟨rfl, rfl, (by repeat (first | exact Drew.refl _ | refine Drew.more ?_))⟩
  case round =>
    obtain ⟨rfl, rfl, q, rfl⟩ := hrel
    go_wp2
    go_ret3
    exact ⟨rfl, (by repeat (first | exact Below.refl _ _ | with_reducible assumption | refine Below.drews ?_ | refine Below.drew ?_ | refine Below.alloc ?_ (by simp <;> omega) _ | refine Below.setCell ?_ (by simp <;> omega) _))⟩
set_option maxHeartbeats 2000000 in
theorem iCou_no {s : ByteArray} (hs : s.size ≤ 1048576) (h0 : s.toList.isEmpty = false) (hn : Lib.hasSuffix s.data.toList [10] = false) (w : World) : Calls Tryd.prog 29 #[.string s] w (RS (coT 0 0 false) w) := by
  have KC := Hf.mk (fun w => Tryd.strings_CutSuffix s nlB w (by omega))
  rw [show nlB.data.toList = [10] from rfl, hn] at KC
  go_enter Tryd.func29, Tryd.ntmps29
  go_wp2_with (first | (go_at_call 97; refine (KC.out _).mono ?_; rintro e w' ⟨rfl, hw⟩; rw [hw]; clear hw w') | go_in)
  go_ret3
  exact ⟨rfl, (by repeat (first | exact Below.refl _ _ | with_reducible assumption | refine Below.drews ?_ | refine Below.drew ?_ | refine Below.alloc ?_ (by simp <;> omega) _ | refine Below.setCell ?_ (by simp <;> omega) _))⟩
set_option maxHeartbeats 2000000 in
theorem iCou_long {s : ByteArray} (hs : s.size ≤ 1048576) (h0 : s.toList.isEmpty = false) (hl : 16000 < s.size) (w : World) : Calls Tryd.prog 29 #[.string s] w (RS (coT 0 0 false) w) := by
  have KC := Hf.mk (fun w => Tryd.strings_CutSuffix s nlB w (by omega))
  rw [show nlB.data.toList = [10] from rfl] at KC
  cases hn : Lib.hasSuffix s.data.toList [10]
  · exact iCou_no hs h0 hn w
  · rw [hn] at KC
    go_enter Tryd.func29, Tryd.ntmps29
    go_wp2_with (first | (go_at_call 97; refine (KC.out _).mono ?_; rintro e w' ⟨rfl, hw⟩; rw [hw]; clear hw w') | go_in)
    go_ret3
    exact ⟨rfl, (by repeat (first | exact Below.refl _ _ | with_reducible assumption | refine Below.drews ?_ | refine Below.drew ?_ | refine Below.alloc ?_ (by simp <;> omega) _ | refine Below.setCell ?_ (by simp <;> omega) _))⟩
set_option maxHeartbeats 4000000 in
theorem iCou_yes {s : ByteArray} {u : List UInt8} {m : Int} (hl : s.size ≤ 16000) (h0 : s.toList.isEmpty = false) (hu : s.data.toList = u ++ [10]) (w : World) (hv : w.cell? ⟨0, 0, none⟩ = some (.int .i64 m)) : Calls Tryd.prog 29 #[.string s] w (RS (coT (bdC (cutL 10 u) (cutL 10 u).length : Nat) (((cutL 10 u).length : Int) - (bdC (cutL 10 u) (cutL 10 u).length : Nat)) true) w) := by
  obtain ⟨hn, ht⟩ := trim_nl hu
  have hul : u.length + 1 = s.size := by
    have : s.data.toList.length = s.size := rfl
    rw [hu] at this
    simpa using this
  have KC := Hf.mk (fun w => Tryd.strings_CutSuffix s nlB w (by omega))
  rw [show nlB.data.toList = [10] from rfl, hn, ht] at KC
  have hus : (⟨u.toArray⟩ : ByteArray).size = u.length := by simp [ByteArray.size]
  have hLn : Lib.countB ⟨u.toArray⟩ nlB + 1 = (cutL 10 u).length := by
    have h1 := congrArg List.length (split_row ⟨u.toArray⟩)
    rw [List.length_map, sRow_len, Lib.splitB_all nlB (by decide) 0 _ _ rfl] at h1
    exact h1
  have KS := Hf.mk (fun w hv => Tryd.strings_Split ⟨u.toArray⟩ nlB m w (by rw [hus]; omega) hv (by decide))
  rw [split_row, hLn] at KS
  rw [show (⟨u.toArray⟩ : ByteArray).data.toList = u from rfl] at KS
  obtain ⟨L, hL⟩ : ∃ L, L = cutL 10 u := ⟨_, rfl⟩
  rw [← hL] at KS ⊢
  have hLl : L.length ≤ 16001 := by rw [hL, ← hLn]; have := Lib.countB_le nlB (by decide) _ ⟨u.toArray⟩ (Nat.le_refl _); rw [hus] at this; omega
  have B0 := Hb.mk (Below.refl w.heap.size w)
  have hbl := bdC_le L L.length
  clear hL hLn hu hn ht
  go_enter Tryd.func29, Tryd.ntmps29
  go_wp2_with (first | (go_at_call 97; refine (KC.out _).mono ?_; rintro e w' ⟨rfl, hw⟩; rw [hw]; clear hw w') | (go_at_call 98; refine (KS.out _ (by simpa using hv)).mono ?_; rintro e w1 ⟨rfl, hw⟩; have B1 := Hb.mk (show Below w.heap.size w w1 from by rw [hw]; exact (by repeat (first | exact Below.refl _ _ | with_reducible assumption | refine Below.drews ?_ | refine Below.drew ?_ | refine Below.alloc ?_ (by simp <;> omega) _ | refine Below.setCell ?_ (by simp <;> omega) _))); have T1 := Hf.mk (show TRow w1 w.heap.size L from by rw [hw]; exact row_trow _); clear hw) | go_in)
  go_loopw [7, 19] (fun v7 v19 wr => ∃ j : Nat, j ≤ L.length ∧ v19 = .int .i64 j ∧ v7 = .int .i64 (bdC L j : Nat) ∧ Drew w1 wr) (fun _ v19 _ => L.length - (intOf v19).toNat)
  case atStart => exact ⟨0, by omega, rfl, rfl, (by repeat (first | exact Drew.refl _ | refine Drew.more ?_))⟩
  case round =>
    obtain ⟨j, hj, rfl, rfl, q, rfl⟩ := hrel
    by_cases hlt : j < L.length
    · have d0 := T1.out j hlt
      have hbj := bdC_le L j
      have HY : Hf (bdC L (j + 1) = bdC L j + (if bdL (L.getD j []) then 1 else 0)) := ⟨rfl⟩
      have HE := Hf.mk (show ∃ l, L.getD j [] = l from ⟨_, rfl⟩)
      generalize L.getD j [] = l at *
      clear HE KC KS
      by_cases h1 : l = [110, 111]
      · subst h1
        rw [show bdL [110, 111] = true from rfl] at HY
        go_wp2
        go_roundw
        case rel => exact ⟨j + 1, by omega, i_ext2 (by omega), i_ext2 (by rw [HY.out]; simp), (by repeat (first | exact Drew.refl _ | refine Drew.more ?_))⟩
        case measure => simp [intOf]; omega
      · by_cases h2 : l = [119, 104, 97, 116]
        · subst h2
          rw [show bdL [119, 104, 97, 116] = true from rfl] at HY
          go_wp2
          go_roundw
          case rel => exact ⟨j + 1, by omega, i_ext2 (by omega), i_ext2 (by rw [HY.out]; simp), (by repeat (first | exact Drew.refl _ | refine Drew.more ?_))⟩
          case measure => simp [intOf]; omega
        · rw [show bdL l = false from decide_eq_false (by rintro (h | h); exact h1 h; exact h2 h)] at HY
          have hb1 : (l == [110, 111]) = false := by rw [beq_eq_false_iff_ne]; exact h1
          have hb2 : (l == [119, 104, 97, 116]) = false := by rw [beq_eq_false_iff_ne]; exact h2
          clear h1 h2
          go_wp2
          go_roundw
          case rel => exact ⟨j + 1, by omega, i_ext2 (by omega), i_ext2 (by rw [HY.out]; simp), (by repeat (first | exact Drew.refl _ | refine Drew.more ?_))⟩
          case measure => simp [intOf]; omega
    · obtain rfl : j = L.length := by omega
      go_wp2
      go_ret3
      exact ⟨rfl, (by repeat (first | exact B1.out | refine Below.drews ?_ | refine Below.drew ?_ | refine Below.alloc ?_ (by have hq_ := B1.out.size; first | omega | (simp <;> omega)) _ | refine Below.setCell ?_ (by have hq_ := B1.out.size; first | omega | (simp <;> omega)) _))⟩
end Go.Proofs.YtcgakdgfmhkpjaaDoor
