/-
strconv.FormatInt in base 16, of a number below 2 to the 32.
-/
import Derived.Test.YtcgakdgfmhkpjaaDoorFmn
import Derived.Test.YtcgakdgfmhkpjaaDoorShf
namespace Go.Proofs.YtcgakdgfmhkpjaaDoor
open Go Go.RowKit
set_option maxRecDepth 100000

/-- The one place of the library's table that base 16 reads. -/
abbrev Db4 (w : World) : Prop := w.cell? ⟨6, 15, none⟩ = some (.int .u8 4)
theorem Db4.on {w w' : World} (h : Db4 w) (b : Below w.heap.size w w') : Db4 w' := Below.keep b h
abbrev hexS : ByteArray := ⟨#[48, 49, 50, 51, 52, 53, 54, 55, 56, 57, 97, 98, 99, 100, 101, 102, 103, 104, 105, 106, 107, 108, 109, 110, 111, 112, 113, 114, 115, 116, 117, 118, 119, 120, 121, 122]⟩
theorem hs_tab : ∀ d : Fin 16, (hexS[d.1]'(show d.1 < hexS.size from Nat.lt_of_lt_of_le d.2 (by decide))).toNat = (hx d.1).toNat := by decide
theorem hs_get {d : Nat} (h : d < 16) : (hexS[d]'(show d < hexS.size from Nat.lt_of_lt_of_le h (by decide))).toNat = (hx d).toNat := hs_tab ⟨d, h⟩
theorem tz64_16 (w : World) (h : Db4 w) : Calls Tryd.prog 167 #[.int .u64 16] w (fun e w' => e = .returned (.int .i64 4) ∧ w' = w) := by
  have h1 : IntKind.u64.wrap (-16) = 18446744073709551600 := by decide
  have h2 : bits .and .u64 16 18446744073709551600 = 16 := by decide
  have h3 : IntKind.u64.wrap (16 * 285870213051353865) = 4573923408821661840 := by decide
  go_enter Tryd.func167, Tryd.ntmps167
  go_wp2
  go_ret
  exact ⟨rfl, rfl⟩
theorem tz_16 (w : World) (h : Db4 w) : Calls Tryd.prog 164 #[.int .u64 16] w (fun e w' => e = .returned (.int .i64 4) ∧ w' = w) := by
  have K := Hf.mk (fun w h => tz64_16 w h)
  go_enter Tryd.func164, Tryd.ntmps164
  go_wp2_with (go_at_call 167; refine (K.out _ h).mono ?_; rintro e w' ⟨rfl, rfl⟩)
  go_ret
  exact ⟨rfl, rfl⟩
theorem pow2_16 (w : World) : Calls Tryd.prog 163 #[.int .i64 16] w (fun e w' => e = .returned (.bool true) ∧ w' = w) := by
  have hb : bits .and .i64 16 15 = 0 := by decide
  go_enter Tryd.func163, Tryd.ntmps163
  go_wp2
  go_ret
  exact ⟨rfl, rfl⟩
theorem HxA.fresh (w : World) : HxA (w.alloc (.cells Tryd.zeroCells185 185)) w.heap.size 65 [] := by
  have hs : Tryd.zeroCells185.size = 65 := by kernel_rfl
  refine ⟨fun j hj => ?_, fun j => by simp, fun j hj => absurd hj (Nat.not_lt_zero j)⟩
  rw [World.cell?_alloc_new]
  exact ⟨_, Array.getElem?_eq_getElem (by omega)⟩
theorem arr_slice {g i : Nat} (hi : i < 65) (w : World) : (Instr.sliceAt 185 (.pointer (some ⟨g, 0, none⟩)) (some (.int .i64 (i : Int))) none none).run Tryd.prog w = .ok (.slice (some ⟨g, i, none⟩) (65 - i) (65 - i)) w := by
  have h65 : Tryd.prog.arrayLen 185 = 65 := by kernel_rfl
  have he : Tryd.prog.elem 185 = 5 := by kernel_rfl
  have hz : ((sizeOf 5).run Tryd.prog w) = .ok 1 w := by simp [go_sem]
  rw [run_sliceAt_array_l (P := Tryd.prog) w 185 ⟨g, 0, none⟩ (by rw [h65, he]; exact Tryd.underlying185) .i64 (i : Int) (by omega) (by rw [h65]; omega), h65, he, hz]
  show Result.ok (slicedAt _ _ _ _ _) w = _
  unfold slicedAt
  rw [Int.toNat_natCast, if_neg (by omega), Nat.mul_one, add_at]
theorem hxa_conv {w : World} {g i : Nat} {out : List UInt8} (h : HxA w g i out) : (convert 89 9 (.slice (some ⟨g, i, none⟩) out.length out.length)).run Tryd.prog w = .ok (.string ⟨out.toArray⟩) w := by
  have := run_convert_bytes_arg (P := Tryd.prog) w 89 5 Tryd.underlying89 Tryd.underlying5 g i out.length out.length (out.map fun b => (b.toNat : Int)) (by rw [List.length_map]) (fun j hj => by
    rw [h.say j hj]
    simp [List.getD, List.getElem?_map, List.getElem?_eq_getElem hj]) 9 Tryd.underlying9
  rw [this, Lib.Lz.strOfNums_map]
set_option maxHeartbeats 2000000 in
theorem fmtBits_16 {N : Nat} (hN : N < 4294967296) (w : World) (h : Db4 w) : Calls Tryd.prog 149 #[.slice none 0 0, .int .u64 (N : Int), .int .i64 16, .bool false, .bool false] w (RS (.tuple #[.slice none 0 0, .string (ofL (hexD N))]) w) := by
  have KT := Hf.mk (fun w h => tz_16 w h)
  have KP := Hf.mk (fun w => pow2_16 w)
  have HD := Hf.mk h
  clear h
  go_enter Tryd.func149, Tryd.ntmps149
  go_wp2_with (first | (go_at_call 164; refine (KT.out _ (HD.out.on (by repeat (first | exact Below.refl _ _ | with_reducible assumption | refine Below.drews ?_ | refine Below.drew ?_ | refine Below.alloc ?_ (by simp <;> omega) _ | refine Below.setCell ?_ (by simp <;> omega) _)))).mono ?_; rintro e w' ⟨rfl, rfl⟩) | (go_at_call 163; refine (KP.out _).mono ?_; rintro e w' ⟨rfl, rfl⟩))
  go_loopw [1, 13] (fun v1 v13 wr => ∃ (u i : Nat) (out : List UInt8), v1 = .int .u64 (u : Int) ∧ v13 = .int .i64 (i : Int) ∧ i + out.length = 65 ∧ Hf (HexAt N u out) ∧ Hf (HxA wr w.heap.size i out) ∧ Hb (Below w.heap.size w wr)) (fun v1 _ _ => (intOf v1).toNat)
  case atStart => exact ⟨N, 65, [], rfl, rfl, rfl, ⟨HexAt.first N⟩, ⟨HxA.fresh w⟩, ⟨(by repeat (first | exact Below.refl _ _ | with_reducible assumption | refine Below.drews ?_ | refine Below.drew ?_ | refine Below.alloc ?_ (by simp <;> omega) _ | refine Below.setCell ?_ (by simp <;> omega) _))⟩⟩
  case round =>
    obtain ⟨u, i, out, rfl, rfl, hio, hX, hA, hB⟩ := hrel
    have hsz := hB.out.size
    have hle := hX.out.le
    have hln := hX.out.len hN
    obtain ⟨i', rfl⟩ : ∃ i', i = i' + 1 := ⟨i - 1, by omega⟩
    obtain ⟨old, hcA⟩ := hA.out.all i' (by omega)
    have hfA := hA.out.free i'
    have HU := Hf.mk hA.out.put
    by_cases hu : u < 16
    · have hl := Hf.mk (hX.out.last hu)
      have HG := Hf.mk (hs_get hu)
      have kcv := hxa_conv (HU.out (by omega) (hx u))
      rw [show (hx u :: out).length = 65 - i' by rw [List.length_cons]; omega] at kcv
      rw [← HG.out] at kcv
      have ksl := fun W => arr_slice (g := w.heap.size) (i := i') (by omega) W
      go_wp2
      go_ret2
      exact ⟨by rw [hl.out]; rfl, Below.setCell hB.out (Nat.le_refl _) _⟩
    · have hm := u64_m15 (u : Int)
      obtain ⟨d, hd⟩ : ∃ d, d = u % 16 := ⟨_, rfl⟩
      rw [show (u : Int) % 16 = (d : Int) by omega] at hm
      have hd16 : d < 16 := by omega
      have HS := Hf.mk (hX.out.step hu)
      rw [← hd] at HS
      clear hd
      go_wp2
      go_roundw
      case rel => 
        refine ⟨u / 16, i', hx d :: out, i_ext2 (by omega), i_ext2 (by omega), by rw [List.length_cons]; omega, HS, ⟨?_⟩, ⟨Below.setCell hB.out (Nat.le_refl _) _⟩⟩
        have := HU.out (by omega) (hx d)
        rw [← hs_get hd16] at this
        exact this
      case measure => simp [intOf]; omega
theorem fmtI_16 {N : Nat} (hN : N < 4294967296) (w : World) (h : Db4 w) : Calls Tryd.prog 131 #[.int .i64 (N : Int), .int .i64 16] w (RS (.string (ofL (hexD N))) w) := by
  have K := Hf.mk (fun w h => fmtBits_16 hN w h)
  have B0 := Hb.mk (Below.refl w.heap.size w)
  go_enter Tryd.func131, Tryd.ntmps131
  go_wp2_with (go_at_call 149; refine (K.out _ (h.on (by repeat (first | exact Below.refl _ _ | with_reducible assumption | refine Below.drews ?_ | refine Below.drew ?_ | refine Below.alloc ?_ (by simp <;> omega) _ | refine Below.setCell ?_ (by simp <;> omega) _)))).mono ?_; rintro e w1 ⟨rfl, b1⟩; have B1 := Hb.mk (Below.on (B := w.heap.size) (a := w) (by repeat (first | exact B0.out | refine Below.drews ?_ | refine Below.drew ?_ | refine Below.alloc ?_ (by have hq_ := B0.out.size; first | omega | (simp <;> omega)) _ | refine Below.setCell ?_ (by have hq_ := B0.out.size; first | omega | (simp <;> omega)) _)) b1 (by have hq_ := B0.out.size; first | omega | (simp <;> omega))); clear b1)
  go_ret
  exact ⟨rfl, (by repeat (first | exact B1.out | refine Below.drews ?_ | refine Below.drew ?_ | refine Below.alloc ?_ (by have hq_ := B1.out.size; first | omega | (simp <;> omega)) _ | refine Below.setCell ?_ (by have hq_ := B1.out.size; first | omega | (simp <;> omega)) _))⟩
theorem fmtO_16 {N : Nat} (hN : N < 4294967296) (w : World) (h : Db4 w) : Calls Tryd.prog 110 #[.int .i64 (N : Int), .int .i64 16] w (RS (.string (ofL (hexD N))) w) := by
  have K := Hf.mk (fun w h => fmtI_16 hN w h)
  have B0 := Hb.mk (Below.refl w.heap.size w)
  go_enter Tryd.func110, Tryd.ntmps110
  go_wp2_with (go_at_call 131; refine (K.out _ (h.on (by repeat (first | exact Below.refl _ _ | with_reducible assumption | refine Below.drews ?_ | refine Below.drew ?_ | refine Below.alloc ?_ (by simp <;> omega) _ | refine Below.setCell ?_ (by simp <;> omega) _)))).mono ?_; rintro e w1 ⟨rfl, b1⟩; have B1 := Hb.mk (Below.on (B := w.heap.size) (a := w) (by repeat (first | exact B0.out | refine Below.drews ?_ | refine Below.drew ?_ | refine Below.alloc ?_ (by have hq_ := B0.out.size; first | omega | (simp <;> omega)) _ | refine Below.setCell ?_ (by have hq_ := B0.out.size; first | omega | (simp <;> omega)) _)) b1 (by have hq_ := B0.out.size; first | omega | (simp <;> omega))); clear b1)
  go_ret
  exact ⟨rfl, (by repeat (first | exact B1.out | refine Below.drews ?_ | refine Below.drew ?_ | refine Below.alloc ?_ (by have hq_ := B1.out.size; first | omega | (simp <;> omega)) _ | refine Below.setCell ?_ (by have hq_ := B1.out.size; first | omega | (simp <;> omega)) _))⟩
theorem repeatL_one (b : UInt8) (c : Nat) : Lib.repeatL [b] c = List.replicate c b := by
  induction c with
  | zero => rfl
  | succ c ih => rw [Lib.repeatL, ih]; rfl
set_option maxHeartbeats 1000000 in
theorem numberWord_any {c x : Nat} (hx : Fl .f32 c x) (w : World) (h : Db4 w) : Calls Tryd.prog 76 #[.float .f32 x] w (RS (.string (ofL (hexL c))) w) := by
  have hc : c < 4294967296 := hx.self.lt32
  have KB := Hf.mk (fun w => bitsOf_any hx w)
  obtain ⟨h1, h2⟩ := hexD_8 hc
  obtain ⟨D, hD⟩ : ∃ D, D = ofL (hexD c) := ⟨_, rfl⟩
  have hDs : D.size = (hexD c).length := by rw [hD, ofL_size]
  obtain ⟨Z, hZ⟩ : ∃ Z, Z = ofL (List.replicate (8 - (hexD c).length) 48) := ⟨_, rfl⟩
  have hZs : Z.size ≤ 8 := by rw [hZ, ofL_size, List.length_replicate]; omega
  have KF := Hf.mk (show ∀ w, Db4 w → Calls Tryd.prog 110 #[.int .i64 (c : Int), .int .i64 16] w (RS (.string D) w) by rw [hD]; exact fun w h => fmtO_16 hc w h)
  have KR := Hf.mk (show ∀ w, Calls Tryd.prog 112 #[.string ⟨#[48]⟩, .int .i64 (8 - (D.size : Int))] w (RS (.string Z) w) by
    intro w
    have := Tryd.strings_Repeat ⟨#[48]⟩ (8 - (hexD c).length) w (by omega) (by show 1 * _ ≤ _; omega)
    rw [show ((8 - (hexD c).length : Nat) : Int) = 8 - (D.size : Int) by omega, show (⟨#[48]⟩ : ByteArray).data.toList = [48] from rfl, repeatL_one] at this
    rw [hZ]
    exact this)
  have K := Hf.mk (show Z ++ D = ofL (hexL c) by rw [hZ, hD, ofL_app, h2])
  have hD8 : D.size ≤ 8 := by omega
  have HD := Hf.mk h
  clear hD hZ h2 hx hDs h1 h
  have B0 := Hb.mk (Below.refl w.heap.size w)
  go_enter Tryd.func76, Tryd.ntmps76
  go_wp2_with (first | (go_at_call 111; refine (KB.out _).mono ?_; rintro e w' ⟨rfl, n1, rfl⟩) | (go_at_call 110; refine (KF.out _ (HD.out.on (by repeat (first | exact Below.refl _ _ | with_reducible assumption | refine Below.drews ?_ | refine Below.drew ?_ | refine Below.alloc ?_ (by simp <;> omega) _ | refine Below.setCell ?_ (by simp <;> omega) _)))).mono ?_; rintro e w1 ⟨rfl, b1⟩; have B1 := Hb.mk (Below.on (B := w.heap.size) (a := w) (by repeat (first | exact B0.out | refine Below.drews ?_ | refine Below.drew ?_ | refine Below.alloc ?_ (by have hq_ := B0.out.size; first | omega | (simp <;> omega)) _ | refine Below.setCell ?_ (by have hq_ := B0.out.size; first | omega | (simp <;> omega)) _)) b1 (by have hq_ := B0.out.size; first | omega | (simp <;> omega))); clear b1) | (go_at_call 112; refine (KR.out _).mono ?_; rintro e w2 ⟨rfl, b2⟩; have B2 := Hb.mk (Below.on (B := w.heap.size) (a := w) (by repeat (first | exact B1.out | refine Below.drews ?_ | refine Below.drew ?_ | refine Below.alloc ?_ (by have hq_ := B1.out.size; first | omega | (simp <;> omega)) _ | refine Below.setCell ?_ (by have hq_ := B1.out.size; first | omega | (simp <;> omega)) _)) b2 (by have hq_ := B1.out.size; first | omega | (simp <;> omega))); clear b2))
  go_ret
  exact ⟨by rw [← K.out]; rfl, (by repeat (first | exact B2.out | refine Below.drews ?_ | refine Below.drew ?_ | refine Below.alloc ?_ (by have hq_ := B2.out.size; first | omega | (simp <;> omega)) _ | refine Below.setCell ?_ (by have hq_ := B2.out.size; first | omega | (simp <;> omega)) _))⟩
end Go.Proofs.YtcgakdgfmhkpjaaDoor
