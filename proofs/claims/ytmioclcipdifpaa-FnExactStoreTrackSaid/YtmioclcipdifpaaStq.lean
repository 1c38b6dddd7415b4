/-
StoreTrack: the bytes of a track; the model's function, the program's two bytes.
-/
import Derived.Test.YtmioclcipdifpaaSto
namespace Go.Proofs.Ytmioclcipdifpaa
open Go Go.RowKit
set_option maxRecDepth 100000

/-- what StoreTrack answers -/
def stS (s : ByteArray) (ys : List Nat) (n : Nat) : ByteArray := if trackB s ys n = true then ⟨(stT (stB s (pkL ys n))).toArray⟩ else ⟨#[]⟩
set_option maxHeartbeats 800000 in
theorem sStore_any {s : ByteArray} {g n : Nat} {ys : List Nat} (hs : s.size ≤ 1048576) (hw : Wf ys) (hn : ys.length = 2 * n) (hl : n ≤ 1048576) (w : World) (hr : FRow w (some ⟨g, 0, none⟩) ys) : Calls Try.prog 5 #[tv s g n] w (RS (stP (stS s ys n) (trackB s ys n)) w) := by
  have HT := Hf.mk (fun w p c0 c1 hr => l07Track_any (p := p) (g := g) hs w c0 c1 hr hw hn hl)
  have HR := Hf.mk hr
  have B0 := Hb.mk (Below.refl w.heap.size w)
  cases hb : trackB s ys n
  · have KS := Hf.mk (show stS s ys n = ⟨#[]⟩ by unfold stS; rw [hb]; rfl)
    rw [hb] at HT
    clear hr hw hn hb
    go_enter Try.func5, Try.ntmps5
    go_wp2_with (first | (go_at_call 10; refine (HT.out _ _ (by simp [go_sem]) (by simp [go_sem]) (HR.out.below (by repeat (first | exact Below.refl _ _ | with_reducible assumption | refine Below.drews ?_ | refine Below.drew ?_ | refine Below.alloc ?_ (by simp <;> omega) _ | refine Below.setCell ?_ (by simp <;> omega) _)))).mono ?_; rintro e w1 ⟨rfl, b1⟩; have B1 := Hb.mk (Below.on (B := w.heap.size) (a := w) (by repeat (first | exact B0.out | refine Below.drews ?_ | refine Below.drew ?_ | refine Below.alloc ?_ (by have hq_ := B0.out.size; first | omega | (simp <;> omega)) _ | refine Below.setCell ?_ (by have hq_ := B0.out.size; first | omega | (simp <;> omega)) _)) b1 (by have hq_ := B0.out.size; first | omega | (simp <;> omega))); clear b1))
    go_ret2
    rw [KS.out]
    exact ⟨rfl, (by repeat (first | exact B1.out | refine Below.drews ?_ | refine Below.drew ?_ | refine Below.alloc ?_ (by have hq_ := B1.out.size; first | omega | (simp <;> omega)) _ | refine Below.setCell ?_ (by have hq_ := B1.out.size; first | omega | (simp <;> omega)) _))⟩
  · have KS := Hf.mk (show stS s ys n = ⟨(stT (stB s (pkL ys n))).toArray⟩ by unfold stS; rw [hb]; rfl)
    have HS := Hf.mk (fun w p c0 c1 hr => l07Store_any (p := p) (g := g) hb w c0 c1 hr hw hn)
    rw [← KS.out] at HS
    rw [hb] at HT
    generalize stS s ys n = R at *
    clear hr hw hn hb KS
    go_enter Try.func5, Try.ntmps5
    go_wp2_with (first
      | (go_at_call 10; refine (HT.out _ _ (by simp [go_sem]) (by simp [go_sem]) (HR.out.below (by repeat (first | exact Below.refl _ _ | with_reducible assumption | refine Below.drews ?_ | refine Below.drew ?_ | refine Below.alloc ?_ (by simp <;> omega) _ | refine Below.setCell ?_ (by simp <;> omega) _)))).mono ?_; rintro e w1 ⟨rfl, b1⟩; have B1 := Hb.mk (Below.on (B := w.heap.size) (a := w) (by repeat (first | exact B0.out | refine Below.drews ?_ | refine Below.drew ?_ | refine Below.alloc ?_ (by have hq_ := B0.out.size; first | omega | (simp <;> omega)) _ | refine Below.setCell ?_ (by have hq_ := B0.out.size; first | omega | (simp <;> omega)) _)) b1 (by have hq_ := B0.out.size; first | omega | (simp <;> omega))); have k0 := Hf.mk (Below.keep b1 (p := ⟨w.heap.size, 0, none⟩) (v := .string s) (by simp [go_sem])); have k1 := Hf.mk (Below.keep b1 (p := ⟨w.heap.size, 1, none⟩) (v := .slice (some ⟨g, 0, none⟩) n n) (by simp [go_sem])); clear b1)
      | (go_at_call 11; refine (HS.out _ _ k0.out k1.out (HR.out.below B1.out)).mono ?_; rintro e w2 ⟨rfl, b2⟩; have B2 := Hb.mk (Below.on (B := w.heap.size) (a := w) (by repeat (first | exact B1.out | refine Below.drews ?_ | refine Below.drew ?_ | refine Below.alloc ?_ (by have hq_ := B1.out.size; first | omega | (simp <;> omega)) _ | refine Below.setCell ?_ (by have hq_ := B1.out.size; first | omega | (simp <;> omega)) _)) b2 (by have hq_ := B1.out.size; first | omega | (simp <;> omega))); clear b2))
    go_ret2
    exact ⟨rfl, (by repeat (first | exact B2.out | refine Below.drews ?_ | refine Below.drew ?_ | refine Below.alloc ?_ (by have hq_ := B2.out.size; first | omega | (simp <;> omega)) _ | refine Below.setCell ?_ (by have hq_ := B2.out.size; first | omega | (simp <;> omega)) _))⟩
theorem two_bat (w : World) {k : Nat} (hk : k < 65536) (t : TypeId) : BAt (w.alloc (.cells #[.int .u8 ((k : Int) % 256), .int .u8 ((k : Int) / 256)] t)) w.heap.size [b8 (k % 256), b8 (k / 256)] := by
  have h1 : ((b8 (k % 256)).toNat : Int) = (k : Int) % 256 := by rw [b8_nat (by omega)]; omega
  have h2 : ((b8 (k / 256)).toNat : Int) = (k : Int) / 256 := by rw [b8_nat (by omega)]; omega
  intro j hj
  match j, hj with
  | 0, _ => simp only [List.getD_cons_zero]; rw [h1]; simp
  | 1, _ => simp only [List.getD_cons_succ, List.getD_cons_zero]; rw [h2]; simp
  | j + 2, hj => exact absurd hj (by simp only [List.length_cons, List.length_nil]; omega)
theorem iTwo_any {k : Nat} (hk : k < 65536) (w : World) : Calls Try.prog 15 #[.int .i64 (k : Int)] w (RS (.string ⟨#[b8 (k % 256), b8 (k / 256)]⟩) w) := by
  have B0 := Hb.mk (Below.refl w.heap.size w)
  have kcv := st_conv (n := 2) (cap := 2) (two_bat w hk 5) rfl
  go_enter Try.func15, Try.ntmps15
  go_wp2
  go_ret
  exact ⟨rfl, (by repeat (first | exact Below.refl _ _ | with_reducible assumption | refine Below.drews ?_ | refine Below.drew ?_ | refine Below.alloc ?_ (by simp <;> omega) _ | refine Below.setCell ?_ (by simp <;> omega) _))⟩
end Go.Proofs.Ytmioclcipdifpaa
