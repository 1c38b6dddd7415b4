/-
StoreTrack: the program's function.
-/
import Derived.Test.YtmioclcipdifpaaStq
import Derived.Deep.RegionWith
import Derived.Deep.CutRange
namespace Go.Proofs.Ytmioclcipdifpaa
open Go Go.RowKit
set_option maxRecDepth 100000

theorem bs_str (l : List UInt8) (B : ByteArray) : (⟨l.toArray⟩ : ByteArray) ++ B = ⟨(l ++ B.data.toList).toArray⟩ := by
  apply ByteArray.ext
  simp
theorem one_conv {W : World} {g : Nat} {x : UInt8} {n : Int} (hx : (x.toNat : Int) = n) (h : W.cell? ⟨g, 0, none⟩ = some (.int .u8 n)) : (convert 41 9 (.slice (some ⟨g, 0, none⟩) 1 1)).run Try.prog W = .ok (.string ⟨#[x]⟩) W := by
  subst hx
  exact st_conv (n := 1) (cap := 1) (l := [x]) (fun j hj => by
    have : j = 0 := by simp at hj; exact hj
    subst this
    exact h) rfl
set_option maxHeartbeats 800000 in
theorem iStore_no {s : ByteArray} {g n : Nat} {ys : List Nat} (hw : Wf ys) (hn : ys.length = 2 * n) (hl : n ≤ 1048576) (w : World) (hr : FRow w (some ⟨g, 0, none⟩) ys) (hb : trackB s ys n = false) : Calls Try.prog 7 #[tv s g n] w (RS (stP ⟨#[]⟩ false) w) := by
  have HP := Hf.mk (fun w hr => iPackPlaces_any (g := g) w hr hw hn hl)
  have HV := Hf.mk (fun w hr => iValidTrack_any (s := s) (g := g) hw hn hl w hr)
  rw [hb] at HV
  have HR := Hf.mk hr
  have B0 := Hb.mk (Below.refl w.heap.size w)
  generalize packS ys n = Z at *
  generalize packB ys n = z at *
  clear hr hw hn hb
  cases z
  all_goals
    go_enter Try.func7, Try.ntmps7
    go_wp2_with (first
      | (go_at_call 13; refine (HP.out _ (HR.out.below (by repeat (first | exact Below.refl _ _ | with_reducible assumption | refine Below.drews ?_ | refine Below.drew ?_ | refine Below.alloc ?_ (by simp <;> omega) _ | refine Below.setCell ?_ (by simp <;> omega) _)))).mono ?_; rintro e w1 ⟨rfl, b1⟩; have B1 := Hb.mk (Below.on (B := w.heap.size) (a := w) (by repeat (first | exact B0.out | refine Below.drews ?_ | refine Below.drew ?_ | refine Below.alloc ?_ (by have hq_ := B0.out.size; first | omega | (simp <;> omega)) _ | refine Below.setCell ?_ (by have hq_ := B0.out.size; first | omega | (simp <;> omega)) _)) b1 (by have hq_ := B0.out.size; first | omega | (simp <;> omega))); have k0 := Below.keep b1 (p := ⟨w.heap.size, 0, none⟩) (v := .string s) (by simp [go_sem]); have k1 := Below.keep b1 (p := ⟨w.heap.size, 1, none⟩) (v := .slice (some ⟨g, 0, none⟩) n n) (by simp [go_sem]); clear b1)
      | (go_at_call 14; refine (HV.out _ (HR.out.below B1.out)).mono ?_; rintro e w2 ⟨rfl, b2⟩; have B2 := Hb.mk (Below.on (B := w.heap.size) (a := w) (by repeat (first | exact B1.out | refine Below.drews ?_ | refine Below.drew ?_ | refine Below.alloc ?_ (by have hq_ := B1.out.size; first | omega | (simp <;> omega)) _ | refine Below.setCell ?_ (by have hq_ := B1.out.size; first | omega | (simp <;> omega)) _)) b2 (by have hq_ := B1.out.size; first | omega | (simp <;> omega))); clear b2))
    go_ret2
    first
      | (have hB := B2; exact ⟨rfl, (by repeat (first | exact hB.out | refine Below.drews ?_ | refine Below.drew ?_ | refine Below.alloc ?_ (by have hq_ := hB.out.size; first | omega | (simp <;> omega)) _ | refine Below.setCell ?_ (by have hq_ := hB.out.size; first | omega | (simp <;> omega)) _))⟩)
      | (have hB := B1; exact ⟨rfl, (by repeat (first | exact hB.out | refine Below.drews ?_ | refine Below.drew ?_ | refine Below.alloc ?_ (by have hq_ := hB.out.size; first | omega | (simp <;> omega)) _ | refine Below.setCell ?_ (by have hq_ := hB.out.size; first | omega | (simp <;> omega)) _))⟩)
set_option maxHeartbeats 8000000 in
theorem iStore_yes {s : ByteArray} {g n : Nat} {ys : List Nat} (hw : Wf ys) (hn : ys.length = 2 * n) (hl : n ≤ 1048576) (w : World) (hr : FRow w (some ⟨g, 0, none⟩) ys) (hb : trackB s ys n = true) : Calls Try.prog 7 #[tv s g n] w (RS (stP (stS s ys n) true) w) := by
  have HP := Hf.mk (fun w hr => iPackPlaces_any (g := g) w hr hw hn hl)
  have HV := Hf.mk (fun w hr => iValidTrack_any (s := s) (g := g) hw hn hl w hr)
  rw [hb] at HV
  have hb' := hb
  unfold trackB at hb'
  rw [Bool.and_eq_true] at hb'
  obtain ⟨hs1, hs8⟩ := name_len hb'.1
  rw [hb'.2] at HP
  have hZ : packS ys n = bytesOf (pB ys n) := by unfold packS; rw [if_pos hb'.2]
  obtain ⟨hp, _⟩ := packB_of hb'.2
  unfold arePl at hp
  rw [Bool.and_eq_true, decide_eq_true_eq] at hp
  obtain ⟨⟨hn1, hn64⟩, hav⟩ := hp
  have hpl := pB_len (allV_at hav) n (Nat.le_refl _)
  have hZl : (packS ys n).size ≤ 1024 := by rw [hZ, bytesOf_size]; omega
  have hPk : pkL ys n = (packS ys n).data.toList := by rw [hZ]; rfl
  have HS := Hf.mk (show stS s ys n = ⟨(stT (stB s (pkL ys n))).toArray⟩ by unfold stS; rw [hb]; rfl)
  have HK := Hf.mk (show pkL ys n = (packS ys n).data.toList from hPk)
  have HR := Hf.mk hr
  have B0 := Hb.mk (Below.refl w.heap.size w)
  generalize packS ys n = Z at *
  generalize stS s ys n = S at *
  generalize pkL ys n = P at *
  clear hr hw hn hb hb' hZ hav hpl hPk
  go_enter Try.func7, Try.ntmps7
  go_upto_region 4 with (first
      | (go_at_call 13; refine (HP.out _ (HR.out.below (by repeat (first | exact Below.refl _ _ | with_reducible assumption | refine Below.drews ?_ | refine Below.drew ?_ | refine Below.alloc ?_ (by simp <;> omega) _ | refine Below.setCell ?_ (by simp <;> omega) _)))).mono ?_; rintro e w1 ⟨rfl, b1⟩; have B1 := Hb.mk (Below.on (B := w.heap.size) (a := w) (by repeat (first | exact B0.out | refine Below.drews ?_ | refine Below.drew ?_ | refine Below.alloc ?_ (by have hq_ := B0.out.size; first | omega | (simp <;> omega)) _ | refine Below.setCell ?_ (by have hq_ := B0.out.size; first | omega | (simp <;> omega)) _)) b1 (by have hq_ := B0.out.size; first | omega | (simp <;> omega))); have k0 := Below.keep b1 (p := ⟨w.heap.size, 0, none⟩) (v := .string s) (by simp [go_sem]); have k1 := Below.keep b1 (p := ⟨w.heap.size, 1, none⟩) (v := .slice (some ⟨g, 0, none⟩) n n) (by simp [go_sem]); have s1 := Hf.mk b1.size; clear b1)
      | (go_at_call 14; refine (HV.out _ (HR.out.below B1.out)).mono ?_; rintro e w2 ⟨rfl, b2⟩; have B2 := Hb.mk (Below.on (B := w.heap.size) (a := w) (by repeat (first | exact B1.out | refine Below.drews ?_ | refine Below.drew ?_ | refine Below.alloc ?_ (by have hq_ := B1.out.size; first | omega | (simp <;> omega)) _ | refine Below.setCell ?_ (by have hq_ := B1.out.size; first | omega | (simp <;> omega)) _)) b2 (by have hq_ := B1.out.size; first | omega | (simp <;> omega))); have q0 := Hf.mk (Below.keep b2 k0); have s2 := Hf.mk b2.size; clear b2))
  have KT := Hf.mk (fun (k : Nat) (h : k < 65536) w => iTwo_any h w)
  obtain ⟨X, hX⟩ : ∃ X : ByteArray, X = ⟨#[b8 s.size]⟩ := ⟨_, rfl⟩
  obtain ⟨Y, hY⟩ : ∃ Y : ByteArray, Y = ⟨#[b8 (Z.size % 256), b8 (Z.size / 256)]⟩ := ⟨_, rfl⟩
  have hYs : Y.size = 2 := by rw [hY]; rfl
  have KY := Hf.mk (fun w => iTwo_any (k := Z.size) (by omega) w)
  rw [← hY] at KY
  have q0' := q0.out
  have m5 : w.heap.size < w2.heap.size := by
    have h1 := s1.out
    have h2 := s2.out
    simp at h1 h2
    omega
  have Q0 : w2.cell? ⟨w.heap.size, 0, none⟩ = some (.string s) := q0.out
  have Q1 : w2.drew.cell? ⟨w.heap.size, 0, none⟩ = some (.string s) := q0.out
  have Q2 : ∀ o, (w2.alloc o).cell? ⟨w.heap.size, 0, none⟩ = some (.string s) := fun o => Below.keep ((Below.refl _ _).alloc (Nat.le_refl _) o) q0.out
  have Q3 : ∀ o, (w2.alloc o).drew.cell? ⟨w.heap.size, 0, none⟩ = some (.string s) := fun o => Q2 o
  have R0 : (w2.alloc (.cells #[.int .u8 (s.size : Int)] 5)).cell? ⟨w2.heap.size, 0, none⟩ = some (.int .u8 (s.size : Int)) := by simp
  have R1 : (w2.alloc (.cells #[.int .u8 (s.size : Int)] 5)).drew.cell? ⟨w2.heap.size, 0, none⟩ = some (.int .u8 (s.size : Int)) := R0
  have m1 : w.heap.size ≠ w2.heap.size := by omega
  have m2 : w2.heap.size ≠ w.heap.size := by omega
  obtain ⟨T, hT⟩ : ∃ T : ByteArray, T = ⟨(stB s P).toArray⟩ := ⟨_, rfl⟩
  have kca : ∀ W : World, (convert 41 9 (.slice (some ⟨W.heap.size, 0, none⟩) 1 1)).run Try.prog (W.alloc (.cells #[.int .u8 (s.size : Int)] 5)) = .ok (.string X) (W.alloc (.cells #[.int .u8 (s.size : Int)] 5)) := fun W => by
    rw [hX]
    exact one_conv (b8_nat (by omega)) (by simp)
  have kcb : ∀ W : World, (convert 41 9 (.slice (some ⟨W.heap.size, 0, none⟩) 1 1)).run Try.prog (W.alloc (.cells #[.int .u8 (s.size : Int)] 5)).drew = .ok (.string X) (W.alloc (.cells #[.int .u8 (s.size : Int)] 5)).drew := fun W => by
    rw [hX]
    exact one_conv (b8_nat (by omega)) (by simp)
  have kcd : ∀ (W : World) (g : Nat), W.cell? ⟨g, 0, none⟩ = some (.int .u8 (s.size : Int)) → (convert 41 9 (.slice (some ⟨g, 0, none⟩) 1 1)).run Try.prog W = .ok (.string X) W := fun W g h => by
    rw [hX]
    exact one_conv (b8_nat (by omega)) h
  have hadd1 : ∀ w, (Op.stringOp .add ⟨#[84, 82, 75, 50]⟩ X).run Try.prog w = .ok (.string (⟨#[84, 82, 75, 50]⟩ ++ X)) w := fun w => run_string_add_sum w _ X (by rw [hX, show (⟨#[84, 82, 75, 50]⟩ : ByteArray).size = 4 from rfl, show (⟨#[b8 s.size]⟩ : ByteArray).size = 1 from rfl]; omega)
  have z1 : (⟨#[84, 82, 75, 50]⟩ ++ X : ByteArray).size = 5 := by rw [ByteArray.size_append, hX]; rfl
  have hadd2 : ∀ w, (Op.stringOp .add (⟨#[84, 82, 75, 50]⟩ ++ X) s).run Try.prog w = .ok (.string (⟨#[84, 82, 75, 50]⟩ ++ X ++ s)) w := fun w => run_string_add_sum w _ s (by omega)
  have hadd3 : ∀ w, (Op.stringOp .add (⟨#[84, 82, 75, 50]⟩ ++ X ++ s) Y).run Try.prog w = .ok (.string (⟨#[84, 82, 75, 50]⟩ ++ X ++ s ++ Y)) w := fun w => run_string_add_sum w _ Y (by rw [ByteArray.size_append, z1, hYs]; omega)
  have hadd4 : ∀ w, (Op.stringOp .add (⟨#[84, 82, 75, 50]⟩ ++ X ++ s ++ Y) Z).run Try.prog w = .ok (.string (⟨#[84, 82, 75, 50]⟩ ++ X ++ s ++ Y ++ Z)) w := fun w => run_string_add_sum w _ Z (by rw [ByteArray.size_append, ByteArray.size_append, z1, hYs]; omega)
  have HT : Hf (⟨#[84, 82, 75, 50]⟩ ++ X ++ s ++ Y ++ Z = T) := ⟨by
    have hl : P.length = Z.size := by rw [HK.out]; rfl
    rw [hT, hX, hY]
    unfold stB
    rw [HK.out, show Z.data.toList.length = Z.size from rfl]
    apply ByteArray.ext
    simp⟩
  have hwr : IntKind.u8.wrap (s.size : Int) = (s.size : Int) := IntWalk.u8_in _ ⟨by omega, by omega⟩
  have hTl : T.size ≤ 2048 := by
    rw [← HT.out, ByteArray.size_append, ByteArray.size_append, ByteArray.size_append, z1, hYs]
    omega
  have hTs : T.size = (stB s P).length := by rw [hT]; simp [ByteArray.size]
  obtain ⟨K, hK⟩ : ∃ K : Nat, stK (stB s P) = (K : Int) := ⟨(stK (stB s P)).toNat, by have := stK_in (stB s P); omega⟩
  have hKb : K < 65003 := by have := stK_in (stB s P); omega
  have hKc : chkN T 0 T.size = (K : Int) := by
    rw [hTs, hT]
    exact hK
  have KC := Hf.mk (fun w => iCheck_yes T (by omega) 0 (by decide) (by decide) w)
  rw [hKc] at KC
  obtain ⟨Y2, hY2⟩ : ∃ Y2 : ByteArray, Y2 = ⟨#[b8 (K % 256), b8 (K / 256)]⟩ := ⟨_, rfl⟩
  have KY2 := Hf.mk (fun w => iTwo_any (k := K) (by omega) w)
  rw [← hY2] at KY2
  have HSS : T ++ Y2 = S := by
    rw [HS.out, hT, hY2]
    unfold stT
    rw [hK, Int.toNat_natCast]
    apply ByteArray.ext
    simp
  have hadd5 : ∀ w, (Op.stringOp .add T Y2).run Try.prog w = .ok (.string S) w := fun w => by
    rw [run_string_add_sum w T Y2 (by rw [hY2, show (⟨#[b8 (K % 256), b8 (K / 256)]⟩ : ByteArray).size = 2 from rfl]; omega), HSS]
  clear hTs hK hKc hY2 HSS
  clear z1 hX hY hYs
  clear hT k0 k1
  go_cut [6] from 22 to 38 (fun s6 wx => s6 = .string T ∧ Hf (Below w.heap.size w wx))
  case first =>
    go_region_with (go_at_call 15; refine (KY.out _).mono ?_; rintro e w3 ⟨rfl, b3⟩; have B3 := Hb.mk (Below.on (B := w.heap.size) (a := w) (by repeat (first | exact B2.out | refine Below.drews ?_ | refine Below.drew ?_ | refine Below.alloc ?_ (by have hq_ := B2.out.size; first | omega | (simp <;> omega)) _ | refine Below.setCell ?_ (by have hq_ := B2.out.size; first | omega | (simp <;> omega)) _)) b3 (by have hq_ := B2.out.size; first | omega | (simp <;> omega))); (first | (have q3 := Below.keep b3 Q0) | (have q3 := Below.keep b3 Q1) | (have q3 := Below.keep b3 (Q2 _)) | (have q3 := Below.keep b3 (Q3 _))); have z3 := b3.size; have m6 : w.heap.size < w3.heap.size := (by simp at z3; omega); have m7 : w.heap.size ≠ w3.heap.size := (by omega); have m8 : w3.heap.size ≠ w.heap.size := (by omega); (first | (have r3 := Below.keep b3 R0; clear b3 z3) | (have r3 := Below.keep b3 R1; clear b3 z3) | (clear b3 z3)))
    all_goals go_wp2_with fail
    all_goals go_meet
    all_goals exact ⟨by rw [HT.out], ⟨(by repeat (first | exact B3.out | refine Below.drews ?_ | refine Below.drew ?_ | refine Below.alloc ?_ (by have hq_ := B3.out.size; first | omega | (simp <;> omega)) _ | refine Below.setCell ?_ (by have hq_ := B3.out.size; first | omega | (simp <;> omega)) _))⟩⟩
  case rest =>
    obtain ⟨rfl, hB⟩ := hcut
    clear hadd1 hadd2 hadd3 hadd4 kca kcb kcd Q0 Q1 Q2 Q3 R0 R1 m5 m1 m2
    go_wp2_with (first
      | (go_at_call 16; refine (KC.out _).mono ?_; rintro e w4 ⟨rfl, d4⟩; have b4 := st_drw d4; have B4 := Hb.mk (Below.on (B := w.heap.size) (a := w) (by repeat (first | exact hB.out | refine Below.drews ?_ | refine Below.drew ?_ | refine Below.alloc ?_ (by have hq_ := hB.out.size; first | omega | (simp <;> omega)) _ | refine Below.setCell ?_ (by have hq_ := hB.out.size; first | omega | (simp <;> omega)) _)) b4 (by have hq_ := hB.out.size; first | omega | (simp <;> omega))); clear b4 d4)
      | (go_at_call 15; refine (KY2.out _).mono ?_; rintro e w5 ⟨rfl, b5⟩; have B5 := Hb.mk (Below.on (B := w.heap.size) (a := w) (by repeat (first | exact B4.out | refine Below.drews ?_ | refine Below.drew ?_ | refine Below.alloc ?_ (by have hq_ := B4.out.size; first | omega | (simp <;> omega)) _ | refine Below.setCell ?_ (by have hq_ := B4.out.size; first | omega | (simp <;> omega)) _)) b5 (by have hq_ := B4.out.size; first | omega | (simp <;> omega))); clear b5))
    go_ret2
    exact ⟨rfl, (by repeat (first | exact B5.out | refine Below.drews ?_ | refine Below.drew ?_ | refine Below.alloc ?_ (by have hq_ := B5.out.size; first | omega | (simp <;> omega)) _ | refine Below.setCell ?_ (by have hq_ := B5.out.size; first | omega | (simp <;> omega)) _))⟩
end Go.Proofs.Ytmioclcipdifpaa
