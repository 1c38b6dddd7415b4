/-
Lists of floats that a function returns, told by their own words: compared, marked and held by a law. No premise.
-/
import Derived.Test.YthanhmchgidjlaaDoorRnp
namespace Go.Proofs.YthanhmchgidjlaaDoor
open Go Go.RowKit
set_option maxRecDepth 100000

theorem told_own {w : World} {base g n cap : Nat} {e : TypeId} {xs : List Nat} (h : w.ownsRow base e 1 (.slice (some ⟨g, 0, none⟩) n cap) n (fls xs)) (hf : FlW xs) : Told w g n (fun j => xs.getD j 0) := by
  have hl : n = xs.length := by have := h.1; rw [fls_len] at this; omega
  intro j hj
  refine ⟨xs.getD j 0, ?_, hf j (by omega)⟩
  rw [h.cellAt j (by omega)]
  have hj2 : j < xs.length := by omega
  simp [fls, List.getElem?_map, List.getD, List.getElem?_eq_getElem hj2]
theorem own_form {w : World} {base n : Nat} {e : TypeId} {v : Value} {ys : List Value} (h : w.ownsRow base e 1 v n ys) : (v = .slice none 0 0 ∧ n = 0) ∨ ∃ g cap, v = .slice (some ⟨g, 0, none⟩) n cap := by
  rcases h.2 with h | ⟨g, cap, cur, hv, _⟩
  · exact .inl h
  · exact .inr ⟨g, cap, hv⟩
theorem eqF_zero {a b : Option Addr} {k1 k2 : Nat} (w : World) : Calls Tryd.prog 24 #[.slice a 0 k1, .slice b 0 k2] w (RB true w) := by
  go_enter Tryd.func24, Tryd.ntmps24
  go_wp2
  go_loopw [5] (fun i wr => i = .int .i64 0 ∧ Drew w wr) (fun _ _ => 0)
  case atStart => exact ⟨rfl, (by repeat (first | exact Drew.refl _ | refine Drew.more ?_))⟩
  case round =>
    obtain ⟨rfl, q, rfl⟩ := hrel
    go_wp2
    go_ret
    exact RB.any rfl (by repeat (first | exact Drew.refl _ | refine Drew.more ?_))
theorem eqF_own {b1 b2 n m : Nat} {T1 T2 : TypeId} {v1 v2 : Value} {xs : List Nat} (w : World) (h1 : w.ownsRow b1 T1 1 v1 n (fls xs)) (h2 : w.ownsRow b2 T2 1 v2 m (fls xs)) (hf : FlW xs) (hl : xs.length ≤ 1048576) : Calls Tryd.prog 24 #[v1, v2] w (RB true w) := by
  have e1 : n = xs.length := by have := h1.1; rw [fls_len] at this; omega
  have e2 : m = xs.length := by have := h2.1; rw [fls_len] at this; omega
  have hnm : n = m := by omega
  clear e2
  subst hnm
  rcases own_form h1 with ⟨rfl, h0⟩ | ⟨g1, k1, rfl⟩
  · subst h0
    rcases own_form h2 with ⟨rfl, _⟩ | ⟨g2, k2, rfl⟩
    · exact eqF_zero w
    · exact eqF_zero w
  · rcases own_form h2 with ⟨rfl, h0⟩ | ⟨g2, k2, rfl⟩
    · subst h0
      exact eqF_zero w
    · exact eqFT_any w (told_own h1 hf) (told_own h2 hf) (by omega)
/-- 'these are marks' -/
def QF (w : World) (v : Value) (n : Nat) (k : Int) : Prop := (v = .slice none 0 0 ∧ n = 0) ∨ ∃ g cap, v = .slice (some ⟨g, 0, none⟩) n cap ∧ Told w g n (sqI k)
theorem QF.below {w w' : World} {v : Value} {n : Nat} {k : Int} (h : QF w v n k) (b : Below w.heap.size w w') : QF w' v n k := by
  rcases h with h | ⟨g, cap, h1, h2⟩
  · exact .inl h
  · exact .inr ⟨g, cap, h1, h2.below b⟩
theorem markF_own {n base : Nat} {v : Value} {cur : List Value} {k : Int} (w : World) (ho : w.ownsRow base 51 1 v n cur) (hl : n ≤ 1048576) (hk0 : 0 ≤ k) (hk1 : k ≤ 2097152) : Calls Tryd.prog 27 #[v, .int .i64 k] w (fun e w' => e = .returned (.int .i64 (k + (n : Int))) ∧ QF w' v n k ∧ w.grownBy w' v.ownBlock) := by
  rcases own_form ho with ⟨rfl, h0⟩ | ⟨g, cap, rfl⟩
  · subst h0
    refine (markF_nil w).mono ?_
    rintro e w' ⟨rfl, q, rfl⟩
    exact ⟨by simp, .inl ⟨rfl, rfl⟩, gb_drew _ _ _⟩
  · refine (markF_any (k := k) w ho hl hk0 hk1).mono ?_
    rintro e w' ⟨rfl, h1, h2⟩
    exact ⟨rfl, .inr ⟨g, cap, rfl, h1⟩, h2⟩
theorem heldF_own {n : Nat} {v : Value} {k : Int} (w : World) (h : QF w v n k) (hl : n ≤ 1048576) (hk0 : 0 ≤ k) (hk1 : k ≤ 2097152) : Calls Tryd.prog 28 #[v, .int .i64 k] w (RI .i64 (k + (n : Int)) w) := by
  rcases h with ⟨rfl, h0⟩ | ⟨g, cap, rfl, h1⟩
  · subst h0
    refine (heldF_nil w).mono ?_
    rintro e w' ⟨rfl, q, rfl⟩
    exact ⟨by simp, q, rfl⟩
  · exact heldF_any w h1 hl hk0 hk1
end Go.Proofs.YthanhmchgidjlaaDoor
