/-
RecoverJournal of the model.
-/
import Derived.Test.YtcgakdgfmhkpjaaDoorRjn
import Derived.Deep.RegionHeld3
import Derived.Deep.AppendLies
namespace Go.Proofs.YtcgakdgfmhkpjaaDoor
open Go Go.RowKit
set_option maxRecDepth 100000

/-- 'lines, a number and a bool, the list its own' -/
def RJy (T : TypeId) (M : List (List UInt8)) (n : Nat) (ok : Bool) (w : World) (e : Ending) (w' : World) : Prop := (∃ v, e = .returned (.tuple #[v, .int .i64 (n : Int), .bool ok]) ∧ w'.ownsRow w.heap.size T 1 v M.length (sRow M)) ∧ Below w.heap.size w w'
theorem rec_end {T : TypeId} {w w1 W' : World} {t : List UInt8} {L : List (List UInt8)} {k N : Nat} {v : Value} (hM : rjM t = (L.take (rcK L)).map lnW) (hN : rjN t = cnL (L.take (rcK L))) (hk : rcK L = k) (hNk : cnL (L.take k) = N) (ho : W'.ownsRow w1.heap.size T 1 v k (sRow ((L.take k).map lnW))) (h1 : w.heap.size ≤ w1.heap.size) (hb : Below w.heap.size w W') :
    ∃ v', Ending.returned (.tuple #[v, .int .i64 (N : Int)]) = .returned (.tuple #[v', .int .i64 (rjN t : Int)]) ∧ W'.ownsRow w.heap.size T 1 v' (rjM t).length (sRow (rjM t)) ∧ Below w.heap.size w W' := by
  rw [hk] at hM hN
  have hl : k = (rjM t).length := by
    have := ho.1
    rw [sRow_len, ← hM] at this
    omega
  refine ⟨v, by rw [hN, hNk], ?_, hb⟩
  rw [← hl, hM]
  obtain ⟨h2, h3⟩ := ho
  refine ⟨h2, ?_⟩
  rcases h3 with h3 | ⟨g, cap, cur, hv, hg, hr⟩
  · exact .inl h3
  · exact .inr ⟨g, cap, cur, hv, Nat.le_trans h1 hg, hr⟩
set_option maxHeartbeats 4000000 in
theorem l08Recover_any {s : ByteArray} (hs : s.size ≤ 16000) (w : World) : Calls Tryd.prog 68 #[.string s] w (fun e w' => ∃ v, e = .returned (.tuple #[v, .int .i64 (rjN s.data.toList : Int)]) ∧ w'.ownsRow w.heap.size 9 1 v (rjM s.data.toList).length (sRow (rjM s.data.toList)) ∧ Below w.heap.size w w') := by
  obtain ⟨i0, hi0, hz0, hz1, hz2⟩ := info_parts (P := Tryd.prog) (e := 9) (z := .string ByteArray.empty) (size := 1) (bytes := 16) (by kernel_rfl)
  obtain ⟨L, r, hc, hr0⟩ := cut_split 10 s.data.toList
  clear hr0
  have hsl : s.data.toList.length = s.size := rfl
  have HLl := Hf.mk (ln_len hc)
  have HLi := Hf.mk (fun k hk => line_le hc (k := k) hk)
  have HCn := Hf.mk (fun k => cn_le hc k)
  have KL := Hf.mk (fun w => l08Lines_any (s := s) (by omega) hc (by have := ln_len hc; omega) w)
  have e2 := (rj_of hc).2.1
  have e3 := (rj_of hc).2.2
  have HM := Hf.mk e2
  have HN := Hf.mk e3
  rw [hsl] at HLl HLi HCn
  clear e2 e3 hc hsl
  have B0 := Hb.mk (Below.refl w.heap.size w)
  go_enter Tryd.func68, Tryd.ntmps68
  go_wp2_with (go_at_call 60; refine (KL.out _).mono ?_; rintro e w1 ⟨g1, k1, rfl, t1, b1⟩; have B1 := Hb.mk (Below.on (B := w.heap.size) (a := w) (by repeat (first | exact B0.out | refine Below.drews ?_ | refine Below.drew ?_ | refine Below.alloc ?_ (by have hq_ := B0.out.size; first | omega | (simp <;> omega)) _ | refine Below.setCell ?_ (by have hq_ := B0.out.size; first | omega | (simp <;> omega)) _)) b1 (by have hq_ := B0.out.size; first | omega | (simp <;> omega))); have T1 := Hf.mk t1; clear t1 b1)
  have S1 : w.heap.size ≤ w1.heap.size := B1.out.size
  go_loopw [6, 7, 8, 9] (fun v c n i wr => ∃ k : Nat, k ≤ L.length ∧ i = .int .i64 k ∧ c = .int .i64 (ckL (L.take k)) ∧ n = .int .i64 (cnL (L.take k) : Nat) ∧ Hf (∀ j, j < k → gdW (ckL (L.take j)) (L.getD j []) = true) ∧ Hf (wr.ownsRow w1.heap.size 9 1 v k (sRow ((L.take k).map lnW))) ∧ Hb (Below w1.heap.size w1 wr)) (fun _ _ _ i _ => L.length - (intOf i).toNat)
  case atStart => exact ⟨0, by omega, rfl, rfl, rfl, ⟨fun j hj => absurd hj (Nat.not_lt_zero j)⟩, ⟨World.ownsRow_made _ _ _ (Nat.le_refl _) (by decide) rfl⟩, ⟨(by repeat (first | exact Below.refl _ _ | with_reducible assumption | refine Below.drews ?_ | refine Below.drew ?_ | refine Below.alloc ?_ (by simp <;> omega) _ | refine Below.setCell ?_ (by simp <;> omega) _))⟩⟩
  case round =>
    obtain ⟨k, hk, rfl, rfl, rfl, hgd, hown, hB⟩ := hrel
    have hsz := hB.out.size
    by_cases hlt : k < L.length
    · have d0 := (T1.out.below hB.out) k hlt
      have HLe := Hf.mk (HLi.out k hlt)
      have HU := Hf.mk (take_up hlt)
      have hcn := HCn.out k
      have hin := ckL_in (L.take k)
      generalize hl : L.getD k [] = l at *
      generalize hc : ckL (L.take k) = c at *
      generalize hnn : cnL (L.take k) = N at *
      have hsp := spW_le l
      have HK := Hf.mk hl
      have HC := Hf.mk hc
      have HN0 := Hf.mk hnn
      have hll : l.length ≤ 16000 := by have := HLe.out; omega
      clear hl hc hnn
      go_wp2
      go_loopw [10] (fun v wi => ∃ m : Nat, m ≤ spW l ∧ v = .int .i64 m ∧ Drew wr wi) (fun v _ => l.length - (intOf v).toNat)
      case atStart => exact ⟨0, by omega, rfl, (by repeat (first | exact Drew.refl _ | refine Drew.more ?_))⟩
      case round =>
        obtain ⟨m, hm, rfl, q, rfl⟩ := hrel
        have hD2 : ∀ (W : World) (n : Nat) (x : Addr), (W.drewN n).cell? x = W.cell? x := fun _ _ _ => rfl
        by_cases hm2 : m < spW l
        · have hml : m < l.length := by omega
          have hb : (((((⟨l.toArray⟩ : ByteArray)[m]'(by simpa [ByteArray.size] using hml)).toNat : Int) != 32)) = true := by
            rw [byte_at]
            have : l.getD m 0 ≠ 32 := fun e => by
              have := spW_min (l := l) (j := m) (by rw [List.getElem?_eq_getElem hml]; simpa [List.getD, List.getElem?_eq_getElem hml] using e)
              omega
            have h2 : ((l.getD m 0).toNat : Int) ≠ 32 := fun e => this (UInt8.toNat_inj.1 (by show _ = 32; omega))
            simpa using h2
          go_wp2
          go_roundw
          case rel => exact ⟨m + 1, by omega, i_ext2 (by omega), (by repeat (first | exact Drew.refl _ | refine Drew.more ?_))⟩
          case measure => simp [intOf]; omega
        · obtain rfl : m = spW l := by omega
          by_cases hle : spW l < l.length
          · have hb : (((((⟨l.toArray⟩ : ByteArray)[spW l]'(by simpa [ByteArray.size] using hle)).toNat : Int) != 32)) = false := by
              rw [byte_at]
              have := spW_at hle
              rw [List.getElem?_eq_getElem hle] at this
              have : l.getD (spW l) 0 = 32 := by simpa [List.getD, List.getElem?_eq_getElem hle] using this
              show (((l.getD (spW l) 0).toNat : Int) != 32) = false
              rw [this]
              rfl
            have hne : ((spW l : Int) == (l.length : Int)) = false := by simp; omega
            have hx : (⟨l.toArray⟩ : ByteArray).extract (spW l + 1) l.length = ofL (lnW l) := by
              rw [ext_part]
              show ofL ((l.drop (spW l + 1)).take (l.length - (spW l + 1))) = _
              rw [List.take_of_length_le (by simp)]
            have hck := ckW_in hin.1 hin.2 l
            have KCk : Hf (∀ w, Calls Tryd.prog 99 #[.int .i64 c, .string ((⟨l.toArray⟩ : ByteArray).extract (spW l + 1) l.length)] w (RI .i64 (ckW c l) w)) := ⟨fun w => by
              have h := l01Check_any (ofL (lnW l)) (by rw [ofL_size]; have := lnW_le l; omega) c hin.1 hin.2 w
              rw [ofL_size] at h
              rw [hx]
              exact h⟩
            have KD := Hf.mk (fun w => l01Dec_any (n := ckW c l) (by omega) (by omega) w)
            have HX := Hf.mk hx
            have HCK : Hf (ckL (L.take (k + 1)) = ckW c l) := ⟨by rw [HU.out, ckL_snoc, HC.out]⟩
            have HCN : Hf (cnL (L.take (k + 1)) = N + (l.length + 1)) := ⟨by rw [HU.out, cnL_snoc, HN0.out]⟩
            have BK := Hb.mk (Below.refl wr.heap.size wr)
            clear hx
            have hy : ((⟨l.toArray⟩ : ByteArray).extract 0 (spW l)).toList = l.take (spW l) := by
              rw [ByteArray.toList_eq, ext_part]
              simp
            have ha : (((⟨l.toArray⟩ : ByteArray).extract 0 (spW l)).toList == Lib.itoa (ckW c l)) = gdW c l := by
              rw [hy]
              unfold gdW
              rw [decide_eq_true hle, Bool.true_and, Bool.eq_iff_iff]
              simp
            clear hy
            cases hg : gdW c l
            · have HG := Hf.mk hg
              rw [hg] at ha
              clear hg
              have HF := Hf.mk (rcK_eq hk hgd.out (fun _ => by rw [HC.out, HK.out]; exact HG.out))
              generalize ckW c l = c2 at *
              go_wp2_with (go_at_call 99; refine (KCk.out _).mono ?_; rintro e w' ⟨rfl, n1, rfl⟩)
              go_region_with (go_at_call 100; refine (KD.out _).mono ?_; rintro e w2 ⟨rfl, b2⟩; have d1 : w2.cell? ⟨g1, k, none⟩ = some (.string ⟨l.toArray⟩) := Below.keep b2 d0; have B2 : Hb (Below wr.heap.size wr w2) := ⟨⟨b2.os, b2.tape, b2.output, b2.size, b2.block⟩⟩; clear b2)
              all_goals
                go_wp2
                go_ret2
                exact rec_end HM.out HN.out HF.out HN0.out (cu_below hown.out B2.out) S1 (Below.on (B := w.heap.size) (Below.on (B := w.heap.size) B1.out hB.out S1) B2.out (by omega))
            · have HG := Hf.mk hg
              rw [hg] at ha
              clear hg
              have HSn : Hf (sRow ((L.take k).map lnW) ++ [.string ((⟨l.toArray⟩ : ByteArray).extract (spW l + 1) l.length)] = sRow ((L.take (k + 1)).map lnW)) := ⟨by rw [HX.out, HU.out, List.map_append, List.map_cons, List.map_nil, ← sRow_app]⟩
              have HN1 := Hf.mk (HCn.out (k + 1))
              have hk3 : k + 1 ≤ 16000 := by have := HLl.out; omega
              have hN3 : N + (l.length + 1) ≤ 16000 := by have := HN1.out; rw [HCN.out] at this; omega
              generalize ckW c l = c2 at *
              go_wp2_with (go_at_call 99; refine (KCk.out _).mono ?_; rintro e w' ⟨rfl, n1, rfl⟩)
              go_region_with (go_at_call 100; refine (KD.out _).mono ?_; rintro e w2 ⟨rfl, b2⟩; have d1 : w2.cell? ⟨g1, k, none⟩ = some (.string ⟨l.toArray⟩) := Below.keep b2 d0; have B2 : Hb (Below wr.heap.size wr w2) := ⟨⟨b2.os, b2.tape, b2.output, b2.size, b2.block⟩⟩; clear b2)
              all_goals
                have O2 := Hf.mk (cu_below hown.out B2.out)
                have S2 := B2.out.size
                go_wp2_with (at_builtin; refine wpList_append_lies _ rfl _ _ 48 rfl w1.heap.size 9 i0 (.string ByteArray.empty) 1 16 Tryd.underlying48 hi0 hz0 hz1 hz2 rfl (by decide) _ k (sRow ((L.take k).map lnW)) rfl (cu_below O2.out ((Below.refl _ _).alloc (Nat.le_refl _) _)) ⟨w2.heap.size, 0, none⟩ 1 1 [.string ((⟨l.toArray⟩ : ByteArray).extract (spW l + 1) l.length)] rfl rfl (str_one _ _ _) rt_str (by decide) (by unfold maxLen; omega) (by omega) (by first | omega | (simp <;> omega)) _ rfl ?_; intro g3 cap3 w3 o3 hg3 hp3 hl3; have B3 := Hb.mk (Below.grown (Below.alloc (Below.on (B := w1.heap.size) hB.out B2.out hsz) (by omega) _) hg3 (by simp; omega) (fun k h => cu_ge O2.out h)); have d3 := (T1.out.below B3.out) k hlt; rw [HK.out] at d3; have O3 := Hf.mk o3; clear o3 hg3 hp3 hl3)
                go_roundw
                case rel =>
                  refine ⟨k + 1, by omega, i_ext2 (by omega), by rw [HCK.out], by rw [HCN.out]; exact i_ext2 (by omega), ⟨fun j hj => ?_⟩, ⟨by rw [← HSn.out]; exact O3.out⟩, B3⟩
                  by_cases hj2 : j < k
                  · exact hgd.out j hj2
                  · obtain rfl : j = k := by omega
                    rw [HC.out, HK.out]
                    exact HG.out
                case measure => simp [intOf]; omega
          · have hE := Hf.mk (show spW l = l.length by omega)
            have hbad := Hf.mk (show gdW c l = false by unfold gdW; rw [decide_eq_false (by omega)]; rfl)
            have hne : ((spW l : Int) == (l.length : Int)) = true := by simp; omega
            have HF := Hf.mk (rcK_eq hk hgd.out (fun _ => by rw [HC.out, HK.out]; exact hbad.out))
            go_wp2
            go_ret2
            exact rec_end HM.out HN.out HF.out HN0.out (cu_below hown.out (by repeat (first | exact Below.refl _ _ | with_reducible assumption | refine Below.drews ?_ | refine Below.drew ?_ | refine Below.alloc ?_ (by simp <;> omega) _ | refine Below.setCell ?_ (by simp <;> omega) _))) S1 (Below.on (B := w.heap.size) (Below.on (B := w.heap.size) B1.out hB.out S1) (by repeat (first | exact Below.refl _ _ | with_reducible assumption | refine Below.drews ?_ | refine Below.drew ?_ | refine Below.alloc ?_ (by simp <;> omega) _ | refine Below.setCell ?_ (by simp <;> omega) _)) (by omega))
    · obtain rfl : k = L.length := by omega
      have HF := Hf.mk (rcK_eq hk hgd.out (fun h => absurd h hlt))
      go_wp2
      go_ret2
      exact rec_end HM.out HN.out HF.out rfl hown.out S1 (Below.on (B := w.heap.size) B1.out hB.out S1)
set_option maxHeartbeats 2000000 in
theorem sRj_any {s : ByteArray} (hs : s.size ≤ 16000) (w : World) : Calls Tryd.prog 35 #[.string s] w (RJy 9 (rjM s.data.toList) (rjN s.data.toList) true w) := by
  have K := Hf.mk (l08Recover_any (s := s) hs w)
  generalize rjM s.data.toList = M at *
  generalize rjN s.data.toList = n at *
  go_enter Tryd.func35, Tryd.ntmps35
  go_wp2_with (go_at_call 68; refine K.out.mono ?_; rintro e w1 ⟨v1, rfl, o1, b1⟩; have O1 := Hf.mk o1; have B1 := Hb.mk b1; clear o1 b1)
  go_ret3
  exact ⟨⟨_, rfl, O1.out⟩, (by repeat (first | exact B1.out | refine Below.drews ?_ | refine Below.drew ?_ | refine Below.alloc ?_ (by have hq_ := B1.out.size; first | omega | (simp <;> omega)) _ | refine Below.setCell ?_ (by have hq_ := B1.out.size; first | omega | (simp <;> omega)) _))⟩
theorem sRj_no {s : ByteArray} (hs : s.size ≤ 1048576) (h1 : 16000 < s.size) (w : World) : Calls Tryd.prog 35 #[.string s] w (RJy 9 [] 0 false w) := by
  go_enter Tryd.func35, Tryd.ntmps35
  go_wp2
  go_ret3
  exact ⟨⟨_, rfl, World.ownsRow_nil _ _ _ _⟩, (by repeat (first | exact Below.refl _ _ | with_reducible assumption | refine Below.drews ?_ | refine Below.drew ?_ | refine Below.alloc ?_ (by simp <;> omega) _ | refine Below.setCell ?_ (by simp <;> omega) _))⟩
end Go.Proofs.YtcgakdgfmhkpjaaDoor
