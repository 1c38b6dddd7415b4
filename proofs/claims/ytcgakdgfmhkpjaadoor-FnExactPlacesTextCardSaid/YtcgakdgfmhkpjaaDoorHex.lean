/-
The hexadecimal word of a number: the model's spec.l01Hex.
-/
import Derived.Test.YtcgakdgfmhkpjaaDoorTxt
namespace Go.Proofs.YtcgakdgfmhkpjaaDoor
open Go Go.RowKit
set_option maxRecDepth 100000

/-- A hexadecimal digit. -/
def hx (d : Nat) : UInt8 := UInt8.ofNat (if d < 10 then 48 + d else 87 + d)
theorem hx_nat {d : Nat} (h : d < 16) : (hx d).toNat = if d < 10 then 48 + d else 87 + d := by
  unfold hx
  rw [UInt8.toNat_ofNat']
  split <;> omega
/-- Eight of them. -/
def hexL (N : Nat) : List UInt8 := (List.range 8).map fun j => hx (N / 16 ^ (7 - j) % 16)
theorem hexL_len (N : Nat) : (hexL N).length = 8 := by simp [hexL]
theorem hexL_up {N j : Nat} (h : j < 8) : (hexL N).take (j + 1) = (hexL N).take j ++ [hx (N / 16 ^ (7 - j) % 16)] := by
  rw [List.take_add_one]
  congr 1
  simp [hexL, h]
theorem i64_m15 (n : Int) : bits .and .i64 n 15 = n % 16 := by
  have h1 : (BitVec.ofInt 64 15).toNat = 2 ^ 4 - 1 := by decide
  have key : (BitVec.ofInt 64 n &&& BitVec.ofInt 64 15).toNat = (n % ((2 ^ 64 : Nat) : Int)).toNat % 2 ^ 4 := by
    rw [BitVec.toNat_and, BitVec.toNat_ofInt, h1, Nat.and_two_pow_sub_one_eq_mod]
  show IntKind.i64.wrap ((BitVec.ofInt 64 n &&& BitVec.ofInt 64 15).toNat : Nat) = n % 16
  rw [key, IntKind.wrap_i64]
  omega
abbrev hexT : ByteArray := ⟨#[48, 49, 50, 51, 52, 53, 54, 55, 56, 57, 97, 98, 99, 100, 101, 102]⟩
theorem hx_tab : ∀ d : Fin 16, (hexT[d.1]'(show d.1 < hexT.size from d.2)).toNat = (hx d.1).toNat := by decide
theorem hx_get {d : Nat} (h : d < 16) : (hexT[d]'(show d < hexT.size from h)).toNat = (hx d).toNat := hx_tab ⟨d, h⟩
theorem byte_one {k : Int} : ∀ u ∈ [Value.int .u8 k], u.oneCell' = true := by
  intro u hu
  simp at hu
  subst hu
  rfl
theorem hx_row {l : List UInt8} {d : Nat} (h : d < 16) : bRow l ++ [.int .u8 ((hexT[d]'(show d < hexT.size from h)).toNat : Int)] = bRow (l ++ [hx d]) := by
  rw [hx_get h]
  simp [bRow]
set_option maxHeartbeats 2000000 in
theorem l01Hex_any {c x : Nat} (hx : Fl .f32 c x) (w : World) : Calls Tryd.prog 107 #[.float .f32 x] w (RS (.string (ofL (hexL c))) w) := by
  obtain ⟨i0, hi0, hz0, hz1, hz2⟩ := info_parts (P := Tryd.prog) (e := 5) (z := .int .u8 0) (size := 1) (bytes := 1) (by kernel_rfl)
  have KB := Hf.mk (fun w => l01Bits_any hx w)
  have hc : c < 4294967296 := hx.self.lt32
  clear hx
  go_enter Tryd.func107, Tryd.ntmps107
  go_wp2_with (go_at_call 114; refine (KB.out _).mono ?_; rintro e w' ⟨rfl, n1, rfl⟩)
  go_loopw [4, 5] (fun v k wr => ∃ (j : Nat), j ≤ 8 ∧ k = .int .i64 (28 - 4 * (j : Int)) ∧ Hf (wr.ownsRow w.heap.size 5 1 v j (bRow ((hexL c).take j))) ∧ Hb (Below w.heap.size w wr)) (fun _ k _ => (intOf k + 4).toNat)
  case atStart => exact ⟨0, by omega, rfl, ⟨World.ownsRow_made _ _ _ (Nat.le_refl _) (by decide) rfl⟩, ⟨(by repeat (first | exact Below.refl _ _ | with_reducible assumption | refine Below.drews ?_ | refine Below.drew ?_ | refine Below.alloc ?_ (by simp <;> omega) _ | refine Below.setCell ?_ (by simp <;> omega) _))⟩⟩
  case round =>
    obtain ⟨j, hj, rfl, hown, hB⟩ := hrel
    obtain ⟨W1, hW1⟩ : ∃ W1, W1 = wr := ⟨_, rfl⟩
    subst hW1
    have hsz := hB.out.size
    by_cases hlt : j < 8
    · obtain ⟨d, hd⟩ : ∃ d, d = c / 16 ^ (7 - j) % 16 := ⟨_, rfl⟩
      have HU := Hf.mk (hexL_up (N := c) hlt)
      rw [← hd] at HU
      have hd16 : d < 16 := by rw [hd]; exact Nat.mod_lt _ (by decide)
      have HL := Hf.mk (show (bRow ((hexL c).take j)).length = j by rw [bRow_len, List.length_take, hexL_len]; omega)
      have HG := Hf.mk (hx_get hd16)
      have hc8 : j = 0 ∨ j = 1 ∨ j = 2 ∨ j = 3 ∨ j = 4 ∨ j = 5 ∨ j = 6 ∨ j = 7 := by omega
      rcases hc8 with rfl | rfl | rfl | rfl | rfl | rfl | rfl | rfl
      · have e0 : bits .and .i64 ((c : Int) / 268435456) 15 = (d : Int) := by rw [i64_m15]; simp at hd; omega
        clear hd hlt
        go_wp2_with (at_builtin; refine wpList_append_own _ rfl _ _ 89 rfl w.heap.size 5 i0 (.int .u8 0) 1 1 Tryd.underlying89 hi0 hz0 hz1 hz2 rfl (by decide) _ 0 (bRow ((hexL c).take 0)) rfl (cu_below hown.out ((Below.refl _ _).alloc (Nat.le_refl _) _)) ⟨W1.heap.size, 0, none⟩ 1 1 [_] rfl rfl (str_one _ _ _) byte_one (by unfold maxLen; omega) (by omega) (by first | omega | (simp <;> omega)) ?_; intro v' w3 o3 hgrow3 _; have B3 := Hb.mk (Below.grown (Below.alloc hB.out (by first | omega | (simp <;> omega)) _) hgrow3 (by first | omega | (simp <;> omega)) (fun k h => cu_ge hown.out h)); have O3 := Hf.mk o3; clear o3 hgrow3)
        go_roundw
        case rel => exact ⟨1, by omega, i_ext2 (by omega), ⟨by have := O3.out; rw [HU.out]; rw [hx_row hd16] at this; exact this⟩, B3⟩
        case measure => simp [intOf]
      · have e0 : bits .and .i64 ((c : Int) / 16777216) 15 = (d : Int) := by rw [i64_m15]; simp at hd; omega
        clear hd hlt
        go_wp2_with (at_builtin; refine wpList_append_own _ rfl _ _ 89 rfl w.heap.size 5 i0 (.int .u8 0) 1 1 Tryd.underlying89 hi0 hz0 hz1 hz2 rfl (by decide) _ 1 (bRow ((hexL c).take 1)) rfl (cu_below hown.out ((Below.refl _ _).alloc (Nat.le_refl _) _)) ⟨W1.heap.size, 0, none⟩ 1 1 [_] rfl rfl (str_one _ _ _) byte_one (by unfold maxLen; omega) (by omega) (by first | omega | (simp <;> omega)) ?_; intro v' w3 o3 hgrow3 _; have B3 := Hb.mk (Below.grown (Below.alloc hB.out (by first | omega | (simp <;> omega)) _) hgrow3 (by first | omega | (simp <;> omega)) (fun k h => cu_ge hown.out h)); have O3 := Hf.mk o3; clear o3 hgrow3)
        go_roundw
        case rel => exact ⟨2, by omega, i_ext2 (by omega), ⟨by have := O3.out; rw [HU.out]; rw [hx_row hd16] at this; exact this⟩, B3⟩
        case measure => simp [intOf]
      · have e0 : bits .and .i64 ((c : Int) / 1048576) 15 = (d : Int) := by rw [i64_m15]; simp at hd; omega
        clear hd hlt
        go_wp2_with (at_builtin; refine wpList_append_own _ rfl _ _ 89 rfl w.heap.size 5 i0 (.int .u8 0) 1 1 Tryd.underlying89 hi0 hz0 hz1 hz2 rfl (by decide) _ 2 (bRow ((hexL c).take 2)) rfl (cu_below hown.out ((Below.refl _ _).alloc (Nat.le_refl _) _)) ⟨W1.heap.size, 0, none⟩ 1 1 [_] rfl rfl (str_one _ _ _) byte_one (by unfold maxLen; omega) (by omega) (by first | omega | (simp <;> omega)) ?_; intro v' w3 o3 hgrow3 _; have B3 := Hb.mk (Below.grown (Below.alloc hB.out (by first | omega | (simp <;> omega)) _) hgrow3 (by first | omega | (simp <;> omega)) (fun k h => cu_ge hown.out h)); have O3 := Hf.mk o3; clear o3 hgrow3)
        go_roundw
        case rel => exact ⟨3, by omega, i_ext2 (by omega), ⟨by have := O3.out; rw [HU.out]; rw [hx_row hd16] at this; exact this⟩, B3⟩
        case measure => simp [intOf]
      · have e0 : bits .and .i64 ((c : Int) / 65536) 15 = (d : Int) := by rw [i64_m15]; simp at hd; omega
        clear hd hlt
        go_wp2_with (at_builtin; refine wpList_append_own _ rfl _ _ 89 rfl w.heap.size 5 i0 (.int .u8 0) 1 1 Tryd.underlying89 hi0 hz0 hz1 hz2 rfl (by decide) _ 3 (bRow ((hexL c).take 3)) rfl (cu_below hown.out ((Below.refl _ _).alloc (Nat.le_refl _) _)) ⟨W1.heap.size, 0, none⟩ 1 1 [_] rfl rfl (str_one _ _ _) byte_one (by unfold maxLen; omega) (by omega) (by first | omega | (simp <;> omega)) ?_; intro v' w3 o3 hgrow3 _; have B3 := Hb.mk (Below.grown (Below.alloc hB.out (by first | omega | (simp <;> omega)) _) hgrow3 (by first | omega | (simp <;> omega)) (fun k h => cu_ge hown.out h)); have O3 := Hf.mk o3; clear o3 hgrow3)
        go_roundw
        case rel => exact ⟨4, by omega, i_ext2 (by omega), ⟨by have := O3.out; rw [HU.out]; rw [hx_row hd16] at this; exact this⟩, B3⟩
        case measure => simp [intOf]
      · have e0 : bits .and .i64 ((c : Int) / 4096) 15 = (d : Int) := by rw [i64_m15]; simp at hd; omega
        clear hd hlt
        go_wp2_with (at_builtin; refine wpList_append_own _ rfl _ _ 89 rfl w.heap.size 5 i0 (.int .u8 0) 1 1 Tryd.underlying89 hi0 hz0 hz1 hz2 rfl (by decide) _ 4 (bRow ((hexL c).take 4)) rfl (cu_below hown.out ((Below.refl _ _).alloc (Nat.le_refl _) _)) ⟨W1.heap.size, 0, none⟩ 1 1 [_] rfl rfl (str_one _ _ _) byte_one (by unfold maxLen; omega) (by omega) (by first | omega | (simp <;> omega)) ?_; intro v' w3 o3 hgrow3 _; have B3 := Hb.mk (Below.grown (Below.alloc hB.out (by first | omega | (simp <;> omega)) _) hgrow3 (by first | omega | (simp <;> omega)) (fun k h => cu_ge hown.out h)); have O3 := Hf.mk o3; clear o3 hgrow3)
        go_roundw
        case rel => exact ⟨5, by omega, i_ext2 (by omega), ⟨by have := O3.out; rw [HU.out]; rw [hx_row hd16] at this; exact this⟩, B3⟩
        case measure => simp [intOf]
      · have e0 : bits .and .i64 ((c : Int) / 256) 15 = (d : Int) := by rw [i64_m15]; simp at hd; omega
        clear hd hlt
        go_wp2_with (at_builtin; refine wpList_append_own _ rfl _ _ 89 rfl w.heap.size 5 i0 (.int .u8 0) 1 1 Tryd.underlying89 hi0 hz0 hz1 hz2 rfl (by decide) _ 5 (bRow ((hexL c).take 5)) rfl (cu_below hown.out ((Below.refl _ _).alloc (Nat.le_refl _) _)) ⟨W1.heap.size, 0, none⟩ 1 1 [_] rfl rfl (str_one _ _ _) byte_one (by unfold maxLen; omega) (by omega) (by first | omega | (simp <;> omega)) ?_; intro v' w3 o3 hgrow3 _; have B3 := Hb.mk (Below.grown (Below.alloc hB.out (by first | omega | (simp <;> omega)) _) hgrow3 (by first | omega | (simp <;> omega)) (fun k h => cu_ge hown.out h)); have O3 := Hf.mk o3; clear o3 hgrow3)
        go_roundw
        case rel => exact ⟨6, by omega, i_ext2 (by omega), ⟨by have := O3.out; rw [HU.out]; rw [hx_row hd16] at this; exact this⟩, B3⟩
        case measure => simp [intOf]
      · have e0 : bits .and .i64 ((c : Int) / 16) 15 = (d : Int) := by rw [i64_m15]; simp at hd; omega
        clear hd hlt
        go_wp2_with (at_builtin; refine wpList_append_own _ rfl _ _ 89 rfl w.heap.size 5 i0 (.int .u8 0) 1 1 Tryd.underlying89 hi0 hz0 hz1 hz2 rfl (by decide) _ 6 (bRow ((hexL c).take 6)) rfl (cu_below hown.out ((Below.refl _ _).alloc (Nat.le_refl _) _)) ⟨W1.heap.size, 0, none⟩ 1 1 [_] rfl rfl (str_one _ _ _) byte_one (by unfold maxLen; omega) (by omega) (by first | omega | (simp <;> omega)) ?_; intro v' w3 o3 hgrow3 _; have B3 := Hb.mk (Below.grown (Below.alloc hB.out (by first | omega | (simp <;> omega)) _) hgrow3 (by first | omega | (simp <;> omega)) (fun k h => cu_ge hown.out h)); have O3 := Hf.mk o3; clear o3 hgrow3)
        go_roundw
        case rel => exact ⟨7, by omega, i_ext2 (by omega), ⟨by have := O3.out; rw [HU.out]; rw [hx_row hd16] at this; exact this⟩, B3⟩
        case measure => simp [intOf]
      · have e0 : bits .and .i64 ((c : Int)) 15 = (d : Int) := by rw [i64_m15]; simp at hd; omega
        clear hd hlt
        go_wp2_with (at_builtin; refine wpList_append_own _ rfl _ _ 89 rfl w.heap.size 5 i0 (.int .u8 0) 1 1 Tryd.underlying89 hi0 hz0 hz1 hz2 rfl (by decide) _ 7 (bRow ((hexL c).take 7)) rfl (cu_below hown.out ((Below.refl _ _).alloc (Nat.le_refl _) _)) ⟨W1.heap.size, 0, none⟩ 1 1 [_] rfl rfl (str_one _ _ _) byte_one (by unfold maxLen; omega) (by omega) (by first | omega | (simp <;> omega)) ?_; intro v' w3 o3 hgrow3 _; have B3 := Hb.mk (Below.grown (Below.alloc hB.out (by first | omega | (simp <;> omega)) _) hgrow3 (by first | omega | (simp <;> omega)) (fun k h => cu_ge hown.out h)); have O3 := Hf.mk o3; clear o3 hgrow3)
        go_roundw
        case rel => exact ⟨8, by omega, i_ext2 (by omega), ⟨by have := O3.out; rw [HU.out]; rw [hx_row hd16] at this; exact this⟩, B3⟩
        case measure => simp [intOf]
    · obtain rfl : j = 8 := by omega
      have HT := Hf.mk (show (hexL c).take 8 = hexL c from List.take_of_length_le (by rw [hexL_len]; exact Nat.le_refl _))
      obtain ⟨g', c', rfl, _, _⟩ := dec_form hown.out (by omega)
      have kcv := conv_b (cap := c') (bat_own hown.out) (show ((hexL c).take 8).length = 8 by rw [HT.out, hexL_len])
      rw [HT.out] at kcv
      go_wp2
      go_ret
      exact ⟨rfl, (by repeat (first | with_reducible refine Below.setCell ?_ (by first | omega | (simp <;> omega)) _ | with_reducible refine Below.drews ?_ | with_reducible refine Below.drew ?_ | with_reducible refine Below.alloc ?_ (by first | omega | (simp <;> omega)) _ | with_reducible refine Below.on ?_ hB.out (by first | omega | (simp <;> omega)) | with_reducible exact Below.refl _ _))⟩
end Go.Proofs.YtcgakdgfmhkpjaaDoor
