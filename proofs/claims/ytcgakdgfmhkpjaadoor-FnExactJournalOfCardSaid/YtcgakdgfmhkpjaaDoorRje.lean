/-
The line of a journal for a line, of the program.
-/
import Derived.Test.YtcgakdgfmhkpjaaDoorRjn
import Derived.Test.YtcgakdgfmhkpjaaDoorWDecimal
namespace Go.Proofs.YtcgakdgfmhkpjaaDoor
open Go Go.RowKit
set_option maxRecDepth 100000
theorem itoa_len {n : Int} (h0 : 0 ≤ n) (h1 : n < 65003) : (Lib.itoa n).length ≤ 21 := by
  have := Lib.itoa_length_le n (by omega) (by omega)
  omega
set_option maxHeartbeats 2000000 in
theorem entryOf_any {l : List UInt8} {c : Int} (hs : l.length ≤ 1048576) (h0 : 0 ≤ c) (h1 : c < 65003) (w : World) (ht : P10 w) :
    Calls Tryd.prog 63 #[.int .i64 c, .string (ofL l)] w (RS (.tuple #[.string (ofL (Lib.itoa (chkN (ofL l) c l.length) ++ 32 :: l ++ [10])), .int .i64 (chkN (ofL l) c l.length)]) w) := by
  have hin := chkN_in (ofL l) h0 h1 l.length
  have KC := Hf.mk (fun w => iCheck_yes (ofL l) (by rw [ofL_size]; omega) c h0 h1 w)
  rw [ofL_size] at KC
  have KD := Hf.mk (fun w ht => iDec_any (n := chkN (ofL l) c l.length) (by omega) (by omega) w ht)
  have HL := itoa_len hin.1 hin.2
  have HT := Hf.mk ht
  clear ht
  have B0 := Hb.mk (Below.refl w.heap.size w)
  generalize chkN (ofL l) c l.length = d at *
  have HE : Hf (ofL (Lib.itoa d ++ 32 :: l ++ [10]) = ((⟨(Lib.itoa d).toArray⟩ ++ ⟨#[32]⟩) ++ ofL l) ++ ⟨#[10]⟩) := ⟨by
    show _ = ((ofL (Lib.itoa d) ++ ofL [32]) ++ ofL l) ++ ofL [10]
    rw [ofL_app, ofL_app, ofL_app]
    simp⟩
  rw [HE.out]
  generalize hz : Lib.itoa d = z at *
  clear hz HE
  go_enter Tryd.func63, Tryd.ntmps63
  go_wp2_with (first | (go_at_call 101; refine (KC.out _).mono ?_; rintro e w' ⟨rfl, n1, rfl⟩) | (go_at_call 90; refine (KD.out _ (HT.out.on (by repeat (first | exact Below.refl _ _ | with_reducible assumption | refine Below.drews ?_ | refine Below.drew ?_ | refine Below.alloc ?_ (by simp <;> omega) _ | refine Below.setCell ?_ (by simp <;> omega) _)))).mono ?_; rintro e w2 ⟨rfl, b2⟩; have B2 := Hb.mk (Below.on (B := w.heap.size) (a := w) (by repeat (first | exact B0.out | refine Below.drews ?_ | refine Below.drew ?_ | refine Below.alloc ?_ (by have hq_ := B0.out.size; first | omega | (simp <;> omega)) _ | refine Below.setCell ?_ (by have hq_ := B0.out.size; first | omega | (simp <;> omega)) _)) b2 (by have hq_ := B0.out.size; first | omega | (simp <;> omega))); clear b2))
  go_ret2
  exact ⟨rfl, (by repeat (first | exact B2.out | refine Below.drews ?_ | refine Below.drew ?_ | refine Below.alloc ?_ (by have hq_ := B2.out.size; first | omega | (simp <;> omega)) _ | refine Below.setCell ?_ (by have hq_ := B2.out.size; first | omega | (simp <;> omega)) _))⟩
end Go.Proofs.YtcgakdgfmhkpjaaDoor
