/-
CountOutputs: the law. No premise but that the library's own variable holds some integer (which the world's shape gives).
-/
import Derived.Test.YtcgakdgfmhkpjaaDoorCoi
namespace Go.Proofs.YtcgakdgfmhkpjaaDoor
open Go Go.RowKit
set_option maxRecDepth 100000

theorem cutL_len (c : UInt8) : ∀ l : List UInt8, (cutL c l).length ≤ l.length + 1 := by
  intro l
  induction l with
  | nil => simp [cutL]
  | cons b l ih =>
    unfold cutL
    split
    · simp; omega
    · split
      · simp
      · rename_i p ps h
        rw [h] at ih
        simp at ih ⊢
        omega
set_option maxHeartbeats 2000000 in
theorem walk_CountOutputs {s : ByteArray} {a b m : Int} {ok : Bool} (hl : s.size ≤ 1048576) (w : World) (hv : w.cell? ⟨0, 0, none⟩ = some (.int .i64 m))
    (hs : ∀ W, Calls Tryd.prog 28 #[.string s] W (RS (coT a b ok) W))
    (hi : ∀ W, W.cell? ⟨0, 0, none⟩ = some (.int .i64 m) → Calls Tryd.prog 29 #[.string s] W (RS (coT a b ok) W)) : Calls Tryd.prog 7 #[.string s] w (RS (.bool true) w) := by
  have HS := Hf.mk hs
  have HI := Hf.mk hi
  have HV := Hf.mk hv
  have B0 := Hb.mk (Below.refl w.heap.size w)
  clear hs hi hv
  cases ok
  all_goals
    go_enter Tryd.func7, Tryd.ntmps7
    go_wp2_with (first | (go_at_call 28; refine (HS.out _).mono ?_; rintro e w1 ⟨rfl, b1⟩; have B1 := Hb.mk (Below.on (B := w.heap.size) (a := w) (by repeat (first | exact B0.out | refine Below.drews ?_ | refine Below.drew ?_ | refine Below.alloc ?_ (by have hq_ := B0.out.size; first | omega | (simp <;> omega)) _ | refine Below.setCell ?_ (by have hq_ := B0.out.size; first | omega | (simp <;> omega)) _)) b1 (by have hq_ := B0.out.size; first | omega | (simp <;> omega))); clear b1) | (go_at_call 29; refine (HI.out _ (Below.keep (by repeat (first | with_reducible refine Below.setCell ?_ (by first | omega | (simp <;> omega)) _ | with_reducible refine Below.drews ?_ | with_reducible refine Below.drew ?_ | with_reducible refine Below.alloc ?_ (by first | omega | (simp <;> omega)) _ | with_reducible exact B1.out | with_reducible exact Below.refl _ _)) HV.out)).mono ?_; rintro e w2 ⟨rfl, b2⟩; have B2 := Hb.mk (Below.on (B := w.heap.size) (a := w) (by repeat (first | exact B1.out | refine Below.drews ?_ | refine Below.drew ?_ | refine Below.alloc ?_ (by have hq_ := B1.out.size; first | omega | (simp <;> omega)) _ | refine Below.setCell ?_ (by have hq_ := B1.out.size; first | omega | (simp <;> omega)) _)) b2 (by have hq_ := B1.out.size; first | omega | (simp <;> omega))); clear b2))
    go_ret
    exact ⟨rfl, (by repeat (first | exact B2.out | refine Below.drews ?_ | refine Below.drew ?_ | refine Below.alloc ?_ (by have hq_ := B2.out.size; first | omega | (simp <;> omega)) _ | refine Below.setCell ?_ (by have hq_ := B2.out.size; first | omega | (simp <;> omega)) _))⟩
theorem law_CountOutputs {s : ByteArray} (hm : s.size ≤ 9223372036854775807) (w : World) (hv : ∃ m, w.cell? ⟨0, 0, none⟩ = some (.int .i64 m)) : Calls Tryd.prog 7 #[.string s] w (RS (.bool true) w) := by
  obtain ⟨m, hv⟩ := hv
  by_cases hl : s.size ≤ 1048576
  · have hz : s.data.toList.length = s.size := rfl
    by_cases h16 : s.size ≤ 16000
    · by_cases h0 : s.data.toList = []
      · have he : s = ⟨#[]⟩ := by
          apply ByteArray.ext
          apply Array.toList_inj.1
          rw [h0]
        subst he
        exact walk_CountOutputs (a := 0) (b := 0) (ok := true) hl w hv (fun W => sCou_yes (L := []) (by decide) (by simp [cutL]) (by simp) W) (fun W _ => iCou_nil W)
      · have hne : s.toList.isEmpty = false := by
          rw [ByteArray.toList_eq]
          cases hh : s.data.toList with
          | nil => exact absurd hh h0
          | cons _ _ => rfl
        by_cases hlast : s.data.toList.getLast h0 = 10
        · have hu : s.data.toList = s.data.toList.dropLast ++ [10] := by
            have := List.dropLast_concat_getLast h0
            rw [hlast] at this
            exact this.symm
          obtain ⟨u, hu2⟩ : ∃ u, u = s.data.toList.dropLast := ⟨_, rfl⟩
          rw [← hu2] at hu
          have hul : u.length ≤ s.size := by rw [← hz, hu]; simp
          have hc := cutL_len 10 u
          exact walk_CountOutputs (ok := true) hl w hv (fun W => sCou_yes (L := cutL 10 u) h16 (by rw [hu, cutL_end]) (by omega) W) (fun W hW => iCou_yes h16 hne hu W hW)
        · obtain ⟨L, r, hc, hr⟩ := cut_split 10 s.data.toList
          have hr2 : r ≠ [] := by rw [hr]; exact cutL_last h0 hlast
          have hL : L.length ≤ 1048576 := by
            have h1 := cutL_len 10 s.data.toList
            rw [hc, List.length_append, List.length_singleton] at h1
            omega
          have hn : Lib.hasSuffix s.data.toList [10] = false := by
            cases hh : Lib.hasSuffix s.data.toList [10]
            · rfl
            · exfalso
              unfold Lib.hasSuffix at hh
              rw [List.isSuffixOf_iff_suffix] at hh
              obtain ⟨u, hu⟩ := hh
              apply hlast
              have : s.data.toList.getLast h0 = (u ++ [10]).getLast (by simp) := by simp only [hu]
              rw [this]; simp
          exact walk_CountOutputs (ok := false) hl w hv (fun W => sCou_rest h16 hc hL hr2 W) (fun W _ => iCou_no hl hne hn W)
    · have hne : s.toList.isEmpty = false := by
        rw [ByteArray.toList_eq]
        cases hh : s.data.toList with
        | nil => rw [hh] at hz; simp at hz; omega
        | cons _ _ => rfl
      exact walk_CountOutputs (ok := false) hl w hv (fun W => sCou_long hl (by omega) W) (fun W _ => iCou_long hl hne (by omega) W)
  · go_enter Tryd.func7, Tryd.ntmps7
    go_wp2
    go_ret
    exact ⟨rfl, (by repeat (first | exact Below.refl _ _ | with_reducible assumption | refine Below.drews ?_ | refine Below.drew ?_ | refine Below.alloc ?_ (by simp <;> omega) _ | refine Below.setCell ?_ (by simp <;> omega) _))⟩
end Go.Proofs.YtcgakdgfmhkpjaaDoor
