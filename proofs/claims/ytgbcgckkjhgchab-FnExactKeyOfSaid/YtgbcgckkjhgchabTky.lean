/-
  The key of a tile, of the program and of its model; the exact law TileKey. No condition.
-/
import Derived.Test.YtgbcgckkjhgchabKtl
import Derived.Laws.BytesArg
import Derived.Deep.QuietTactic
import Derived.BigQuiet
import Derived.Deep.RegionWith
import Derived.Deep.RegionHeld3
import Derived.Test.YtgbcgckkjhgchabTail
namespace Go.Proofs.Ytgbcgckkjhgchab
open Go Go.RowKit
set_option maxRecDepth 100000

/-- A number with its last binary digits cut off. -/
def dv (X : Nat) : Nat → Nat
  | 0 => X
  | j + 1 => dv X j / 2
theorem dv_eq (X : Nat) : ∀ j, dv X j = X / 2 ^ j := by
  intro j
  induction j with
  | zero => simp [dv]
  | succ j ih => unfold dv; rw [ih, Nat.div_div_eq_div_mul, Nat.pow_succ]
theorem dv_le (X : Nat) : ∀ j, dv X j ≤ X := by
  intro j
  rw [dv_eq]; exact Nat.div_le_self _ _
def kb (z X Y k : Nat) : Nat := 48 + 2 * (dv Y (z - 1 - k) % 2) + dv X (z - 1 - k) % 2
theorem kb_lt (z X Y k : Nat) : kb z X Y k < 256 := by unfold kb; omega
def kbs (z X Y : Nat) : List Int := (List.range z).map fun k => (kb z X Y k : Int)
def keyS (z X Y : Nat) : ByteArray := strOfNums (kbs z X Y)
theorem kbs_len (z X Y : Nat) : (kbs z X Y).length = z := by simp [kbs]
theorem kbs_at {z X Y k : Nat} (h : k < z) : (kbs z X Y).getD k 0 = (kb z X Y k : Int) := by simp [kbs, List.getD, h]
set_option maxHeartbeats 1000000 in
theorem l07Key_any {z X Y : Nat} (hz : z ≤ 20) (hX : X ≤ 1048575) (hY : Y ≤ 1048575) (w : World) : Calls Try.prog 65 #[.int .i64 (z : Int), .int .i64 (X : Int), .int .i64 (Y : Int)] w (RS (.string (keyS z X Y)) w) := by
  obtain ⟨i0, hi, hz0, hz1, hz2⟩ := info_parts (P := Try.prog) (e := 5) (z := .int .u8 0) (size := 1) (bytes := 1) (by kernel_rfl)
  go_enter Try.func65, Try.ntmps65
  go_wp2_with (at_make; refine wpList_make_full _ rfl _ _ 111 rfl w.heap.size 5 i0 _ 1 Try.underlying111 hi hz0 hz1 .i64 .i64 _ _ z rfl rfl rfl rfl (by rw [hz2]; omega) (by unfold maxLen; omega) (Nat.le_refl _) ?_; intro w0 hown0 hgrow0)
  go_loopw [1, 2, 8] (fun x y k wr => ∃ (j : Nat) (cur : List Value), j ≤ z ∧ x = .int .i64 (dv X j : Int) ∧ y = .int .i64 (dv Y j : Int) ∧ k = .int .i64 ((z : Int) - 1 - j) ∧ Hf (wr.ownsRow w.heap.size 5 1 (.slice (some ⟨w.heap.size, 0, none⟩) z z) z cur) ∧ Hf (∀ i, z - j ≤ i → i < z → cur[i]? = some (.int .u8 (kb z X Y i : Int))) ∧ Hf (Below w.heap.size w wr)) (fun _ _ k _ => (intOf k + 1).toNat)
  case atStart => exact ⟨0, _, by omega, rfl, rfl, i_ext2 (by omega), ⟨hown0⟩, ⟨fun i h1 h2 => absurd h1 (by omega)⟩, ⟨(Below.refl _ _).grown hgrow0 (Nat.le_refl _) (fun k h => by cases h)⟩⟩
  case round =>
    obtain ⟨j, cur, hj, rfl, rfl, rfl, hown, hcur, hbel⟩ := hrel
    by_cases hlt : j < z
    · have hx := dv_le X j
      have hy := dv_le Y j
      have hlen : cur.length = z * 1 := hown.out.1
      obtain ⟨i, hi⟩ : ∃ i : Nat, i + j + 1 = z := ⟨z - 1 - j, by omega⟩
      rw [show (z : Int) - 1 - (j : Int) = (i : Int) by omega]
      obtain ⟨old, hold⟩ : ∃ old, cur[i]? = some old := ⟨_, List.getElem?_eq_getElem (by omega)⟩
      have d0 : wr.cell? ⟨w.heap.size, i, none⟩ = some old := (hown.out.cellAt i (by omega)).trans hold
      have z0 := hown.out.frozenAt i
      have lw := block_lt_of_cell d0
      simp at lw
      have hk := Hf.mk (show kb z X Y i = 48 + 2 * (dv Y j % 2) + dv X j % 2 by unfold kb; rw [show z - 1 - i = j by omega])
      have hdx := Hf.mk (show dv X (j + 1) = dv X j / 2 from rfl)
      have hdy := Hf.mk (show dv Y (j + 1) = dv Y j / 2 from rfl)
      clear hold
      go_wp2
      go_roundw
      case rel =>
        have ev : (48 + 2 * ((dv Y j : Int) % 2) + (dv X j : Int) % 2) = (kb z X Y i : Int) := by rw [hk.out]; omega
        rw [ev]
        have hst := hown.out.stored i (.int .u8 (kb z X Y i : Int))
        refine ⟨j + 1, _, by omega, i_ext2 (by rw [hdx.out]; omega), i_ext2 (by rw [hdy.out]; omega), i_ext2 (by omega), ⟨hst.1⟩, ⟨?_⟩, ⟨Below.setCell hbel.out (Nat.le_refl _) _⟩⟩
        intro r h1 h2
        by_cases he : r = i
        · subst he; rw [List.getElem?_set_self (by omega)]
        · rw [List.getElem?_set_ne (by omega)]; exact hcur.out r (by omega) h2
      case measure => simp [intOf]; try omega
    · obtain rfl : j = z := by omega
      have kcv := run_convert_bytes_arg (P := Try.prog) wr 111 5 Try.underlying111 Try.underlying5 w.heap.size 0 j j (kbs j X Y) (kbs_len _ _ _) (fun i hi => by
        rw [Nat.zero_add, kbs_at hi]
        exact (hown.out.cellAt i (by omega)).trans (hcur.out i (by omega) hi)) 9 Try.underlying9
      go_wp2
      go_ret
      exact ⟨rfl, hbel.out⟩
theorem i64_and1 (n : Int) : bits .and .i64 n 1 = n % 2 := by
  have h1 : (BitVec.ofInt 64 1).toNat = 2 ^ 1 - 1 := by decide
  have key : (BitVec.ofInt 64 n &&& BitVec.ofInt 64 1).toNat = (n % ((2 ^ 64 : Nat) : Int)).toNat % 2 ^ 1 := by
    rw [BitVec.toNat_and, BitVec.toNat_ofInt, h1, Nat.and_two_pow_sub_one_eq_mod]
  show IntKind.i64.wrap ((BitVec.ofInt 64 n &&& BitVec.ofInt 64 1).toNat : Nat) = n % 2
  rw [key, IntKind.wrap_i64]
  omega
theorem i64_mask {j : Nat} (hj : j ≤ 62) (n : Int) : bits .and .i64 n (((2 ^ j - 1 : Nat)) : Int) = n % ((2 ^ j : Nat) : Int) := by
  have hp : 2 ^ j ≤ 2 ^ 62 := Nat.pow_le_pow_right (by decide) hj
  have h0 : 0 < 2 ^ j := Nat.two_pow_pos j
  have h1 : (BitVec.ofInt 64 (((2 ^ j - 1 : Nat)) : Int)).toNat = 2 ^ j - 1 := by
    rw [BitVec.toNat_ofInt]
    omega
  have key : (BitVec.ofInt 64 n &&& BitVec.ofInt 64 (((2 ^ j - 1 : Nat)) : Int)).toNat = (n % ((2 ^ 64 : Nat) : Int)).toNat % 2 ^ j := by
    rw [BitVec.toNat_and, BitVec.toNat_ofInt, h1, Nat.and_two_pow_sub_one_eq_mod]
  show IntKind.i64.wrap ((BitVec.ofInt 64 n &&& BitVec.ofInt 64 (((2 ^ j - 1 : Nat)) : Int)).toNat : Nat) = n % ((2 ^ j : Nat) : Int)
  have hd : ((2 ^ j : Nat) : Int) ∣ ((2 ^ 64 : Nat) : Int) := by
    refine ⟨((2 ^ (64 - j) : Nat) : Int), ?_⟩
    rw [← Int.natCast_mul, ← Nat.pow_add, show j + (64 - j) = 64 by omega]
  have hm : (((n % ((2 ^ 64 : Nat) : Int)).toNat % 2 ^ j : Nat) : Int) = n % ((2 ^ j : Nat) : Int) := by
    rw [Int.natCast_emod, Int.toNat_of_nonneg (Int.emod_nonneg _ (by decide)), Int.emod_emod_of_dvd _ hd]
  rw [key, IntKind.wrap_i64]
  have h2 := Int.emod_nonneg n (b := ((2 ^ j : Nat) : Int)) (by omega)
  have h3 := Int.emod_lt_of_pos n (b := ((2 ^ j : Nat) : Int)) (by omega)
  omega
theorem kb_word {z X Y k : Nat} : IntKind.u8.wrap (IntKind.i64.wrap (IntKind.i64.wrap (48 + IntKind.i64.wrap (2 * bits .and .i64 ((Y : Int) / 2 ^ (z - 1 - k)) 1)) + bits .and .i64 ((X : Int) / 2 ^ (z - 1 - k)) 1)) = (kb z X Y k : Int) := by
  rw [i64_and1, i64_and1]
  unfold kb
  have e1 : ((Y : Int) / 2 ^ (z - 1 - k)) % 2 = ((dv Y (z - 1 - k) % 2 : Nat) : Int) := by rw [dv_eq]; simp
  have e2 : ((X : Int) / 2 ^ (z - 1 - k)) % 2 = ((dv X (z - 1 - k) % 2 : Nat) : Int) := by rw [dv_eq]; simp
  rw [e1, e2]
  clear e1 e2
  have ha : dv Y (z - 1 - k) % 2 < 2 := Nat.mod_lt _ (by decide)
  have hb : dv X (z - 1 - k) % 2 < 2 := Nat.mod_lt _ (by decide)
  generalize dv Y (z - 1 - k) % 2 = a at *
  generalize dv X (z - 1 - k) % 2 = b at *
  rw [show IntKind.i64.wrap (2 * (a : Int)) = 2 * (a : Int) by rw [IntKind.wrap_i64]; omega, show IntKind.i64.wrap (48 + 2 * (a : Int)) = 48 + 2 * (a : Int) by rw [IntKind.wrap_i64]; omega, show IntKind.i64.wrap (48 + 2 * (a : Int) + (b : Int)) = 48 + 2 * (a : Int) + (b : Int) by rw [IntKind.wrap_i64]; omega, IntKind.wrap_u8]
  omega
theorem kb_word2 {z X Y k : Nat} : wrap64 (wrap64 (48 + wrap64 (2 * bits .and .i64 ((Y : Int) / 2 ^ (z - 1 - k)) 1)) + bits .and .i64 ((X : Int) / 2 ^ (z - 1 - k)) 1) % 256 = (kb z X Y k : Int) := by
  rw [← kb_word, IntKind.wrap_u8]
  simp only [IntKind.wrap_i64, wrap64]
theorem dvInt (X j : Nat) : ((dv X j : Nat) : Int) = (X : Int) / 2 ^ j := by
  rw [dv_eq]
  simp
theorem At.ot1 {w : World} {b o b2 o2 : Nat} {v : Value} (h : At w ⟨b, o, none⟩ v) (hne : b ≠ b2 ∨ o ≠ o2) (u : Value) : At (w.setCell ⟨b2, o2, none⟩ u) ⟨b, o, none⟩ v := by
  refine ⟨?_, ?_, ?_⟩
  · rw [World.cell?_setCell_other _ _ _ _ (by intro e; injection e; omega)]; exact h.cell
  · rw [World.frozen?_setCell]; exact h.free
  · simpa using h.lt
theorem At.drw1 {w : World} {p : Addr} {v : Value} (h : At w p v) : At w.drew p v := ⟨h.cell, h.free, h.lt⟩
set_option maxHeartbeats 2000000 in
theorem key_any {z X Y : Nat} (hz : z ≤ 20) (hX : X ≤ 1048575) (hY : Y ≤ 1048575) (w : World) : Calls Try.prog 88 #[tl (z : Int) (X : Int) (Y : Int)] w (RS (.string (keyS z X Y)) w) := by
  obtain ⟨i0, hi, hz0, hz1, hz2⟩ := info_parts (P := Try.prog) (e := 5) (z := .int .u8 0) (size := 1) (bytes := 1) (by kernel_rfl)
  go_enter Try.func88, Try.ntmps88
  go_wp2_with (at_make; refine wpList_make_full _ rfl _ _ 111 rfl (w.heap.size + 1) 5 i0 _ 1 Try.underlying111 hi hz0 hz1 .i64 .i64 _ _ z rfl rfl rfl rfl (by rw [hz2]; omega) (by unfold maxLen; omega) (by simp) ?_; intro w0 hown0 hgrow0; simp only [World.size_alloc] at hown0; have b0 := (Below.refl _ _).grown hgrow0 (Nat.le_refl _) (fun k h => by cases h); have p0 := Hb.mk (At.keep b0 (p := ⟨(w.heap.size), 0, none⟩) (v := .int .i64 (z : Int)) (by simp [go_sem]) (by simp [go_sem])); obtain ⟨p0c, p0z, p0l⟩ := p0.out; have p1 := Hb.mk (At.keep b0 (p := ⟨(w.heap.size), 1, none⟩) (v := .int .i64 (X : Int)) (by simp [go_sem]) (by simp [go_sem])); obtain ⟨p1c, p1z, p1l⟩ := p1.out; have p2 := Hb.mk (At.keep b0 (p := ⟨(w.heap.size), 2, none⟩) (v := .int .i64 (Y : Int)) (by simp [go_sem]) (by simp [go_sem])); obtain ⟨p2c, p2z, p2l⟩ := p2.out; have B0 := Hb.mk (Below.on (B := w.heap.size) (a := w) (Below.alloc (Below.refl _ _) (Nat.le_refl _) _) b0 (by simp)); clear b0)
  go_loopw [11] (fun v wr => ∃ (k : Nat) (cur : List Value), k ≤ z ∧ v = .int .i64 k ∧ Hf (wr.ownsRow (w.heap.size + 1) 5 1 (.slice (some ⟨w.heap.size + 1, 0, none⟩) z z) z cur) ∧ Hf (∀ i, i < k → cur[i]? = some (.int .u8 (kb z X Y i : Int))) ∧ Hb (At wr ⟨w.heap.size, 0, none⟩ (.int .i64 z)) ∧ Hb (At wr ⟨w.heap.size, 1, none⟩ (.int .i64 X)) ∧ Hb (At wr ⟨w.heap.size, 2, none⟩ (.int .i64 Y)) ∧ Hf (Below w.heap.size w wr)) (fun v _ => z - (intOf v).toNat)
  case atStart => exact ⟨0, _, by omega, rfl, ⟨hown0⟩, ⟨fun i h1 => absurd h1 (by omega)⟩, p0, p1, p2, ⟨B0.out⟩⟩
  case round =>
    obtain ⟨k, cur, hk, rfl, hown, hcur, ⟨hz0⟩, ⟨hx0⟩, ⟨hy0⟩, hbel⟩ := hrel
    obtain ⟨zc, zz, zl⟩ := hz0
    obtain ⟨xc, xz, xl⟩ := hx0
    obtain ⟨yc, yz, yl⟩ := hy0
    by_cases hlt : k < z
    · have hlen : cur.length = z * 1 := hown.out.1
      obtain ⟨old, hold⟩ : ∃ old, cur[k]? = some old := ⟨_, List.getElem?_eq_getElem (by omega)⟩
      have d0 : wr.cell? ⟨w.heap.size + 1, k, none⟩ = some old := (hown.out.cellAt k (by omega)).trans hold
      have z0 := hown.out.frozenAt k
      have lw := block_lt_of_cell d0
      simp at lw
      clear hold
      go_wp2
      go_region_held3 (fun w' => w'.cell? ⟨w.heap.size, 1, none⟩ = some (.int .i64 (X : Int)) ∧ w'.cell? ⟨w.heap.size, 2, none⟩ = some (.int .i64 (Y : Int))) (first | exact ⟨xc, yc⟩ | go_keep) (fail)
      go_wp2
      go_roundw
      case rel =>
        rw [kb_word2]
        have hst := hown.out.stored k (.int .u8 (kb z X Y k : Int))
        refine ⟨k + 1, _, by omega, i_ext2 (by omega), ⟨hst.1⟩, ⟨?_⟩, ⟨At.drw1 ((At.mk zc zz zl).ot1 (by omega) _)⟩, ⟨At.drw1 ((At.mk xc xz xl).ot1 (by omega) _)⟩, ⟨At.drw1 ((At.mk yc yz yl).ot1 (by omega) _)⟩, ⟨Below.drew (Below.setCell hbel.out (by simp) _)⟩⟩
        intro r h1
        by_cases he : r = k
        · subst he; rw [List.getElem?_set_self (by omega)]
        · rw [List.getElem?_set_ne (by omega)]; exact hcur.out r (by omega)
      case measure => simp [intOf]; omega
    · obtain rfl : k = z := by omega
      have kcv := run_convert_bytes_arg (P := Try.prog) wr 111 5 Try.underlying111 Try.underlying5 (w.heap.size + 1) 0 k k (kbs k X Y) (kbs_len _ _ _) (fun i hi => by
        rw [Nat.zero_add, kbs_at hi]
        exact (hown.out.cellAt i (by omega)).trans (hcur.out i hi)) 9 Try.underlying9
      go_wp2
      go_ret
      exact ⟨rfl, hbel.out⟩
end Go.Proofs.Ytgbcgckkjhgchab
