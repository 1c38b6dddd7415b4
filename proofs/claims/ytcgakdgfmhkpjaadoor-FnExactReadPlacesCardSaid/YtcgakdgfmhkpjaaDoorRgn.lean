/-
ReadGrid: what is read, as numbers; grids of no heights.
-/
import Derived.Test.YtcgakdgfmhkpjaaDoorRnp
import Derived.Test.YtcgakdgfmhkpjaaDoorLrb
import Derived.Deep.RegionHeld3
namespace Go.Proofs.YtcgakdgfmhkpjaaDoor
open Go Go.RowKit
set_option maxRecDepth 100000

theorem cutL_miss {c : UInt8} {l : List UInt8} (h : Lib.index l [c] = -1) : cutL c l = [l] := by rw [← splitK_cut, Lib.count_miss h]; rfl
theorem cutL_at {c : UInt8} {l : List UInt8} {i : Nat} (h : Lib.index l [c] = i) : cutL c l = l.take i :: cutL c (l.drop (i + 1)) := by
  have hn : ¬ (Lib.index l [c] == -1) = true := fun e => by have := beq_iff_eq.1 e; omega
  rw [← splitK_cut c l, Lib.count_hit (by simp) h, Nat.add_comm 1, Lib.splitK, if_neg hn, h, Int.toNat_natCast, ← splitK_cut c (l.drop (i + 1))]
  simp
abbrev cA (l : List UInt8) : List UInt8 := (Lib.cut l [59]).1
abbrev cB (l : List UInt8) : List UInt8 := (Lib.cut l [59]).2.1
theorem cut_len (l : List UInt8) : (cA l).length ≤ l.length ∧ (cB l).length ≤ l.length := by
  unfold cA cB Lib.cut
  split
  · simp; omega
  · simp
theorem mem_cut {c b : UInt8} : ∀ {l : List UInt8}, b ∈ l → b ≠ c → ∃ wd, wd ∈ cutL c l ∧ b ∈ wd := by
  intro l
  induction l with
  | nil => intro h; cases h
  | cons x l ih =>
    intro h hb
    rw [cutL]
    by_cases hx : x = c
    · rw [if_pos hx]
      rcases List.mem_cons.1 h with rfl | h2
      · exact absurd hx hb
      · obtain ⟨wd, h3, h4⟩ := ih h2 hb
        exact ⟨wd, List.mem_cons_of_mem _ h3, h4⟩
    · rw [if_neg hx]
      cases hc : cutL c l with
      | nil => exact absurd hc (cutL_ne c l)
      | cons p ps =>
        rcases List.mem_cons.1 h with rfl | h2
        · exact ⟨b :: p, List.mem_cons_self, List.mem_cons_self⟩
        · obtain ⟨wd, h3, h4⟩ := ih h2 hb
          rw [hc] at h3
          rcases List.mem_cons.1 h3 with rfl | h5
          · exact ⟨x :: wd, List.mem_cons_self, List.mem_cons_of_mem _ h4⟩
          · exact ⟨wd, List.mem_cons_of_mem _ h5, h4⟩
theorem rn_semi {l : List UInt8} (h : (59 : UInt8) ∈ l) : rnO l = false := by
  have hne : l ≠ noneL := by intro e; rw [e] at h; revert h; decide
  refine (rn_no hne ?_).1
  obtain ⟨wd, hw, hb⟩ := mem_cut (c := 44) h (by decide)
  rw [Bool.eq_false_iff]
  intro e
  unfold okF at e
  rw [Bool.and_eq_true, List.all_eq_true] at e
  have h2 := e.2 wd hw
  unfold hwOk at h2
  rw [Bool.and_eq_true, Bool.and_eq_true, List.all_eq_true] at h2
  have h3 := h2.2.1 59 hb
  revert h3
  decide
theorem rn_empty : rnO [] = false := by
  refine (rn_no (by decide) ?_).1
  refine okF_no (m := 0) (by decide) (hwOk_len (by decide))
theorem semi_of {l : List UInt8} (h : 2 ≤ (cutL 59 l).length) : (59 : UInt8) ∈ l := by
  apply Classical.byContradiction
  intro hn
  rw [cutL_no (fun b hb e => hn (by rw [← e]; exact hb))] at h
  simp at h
theorem cut_two {l : List UInt8} (h : (cutL 59 l).length = 2) : cutL 59 l = [cA l, cB l] := by
  have hge := Lib.index_ge l [59]
  by_cases hm : Lib.index l [59] = -1
  · rw [cutL_miss hm] at h; simp at h
  · obtain ⟨i, hi⟩ : ∃ i : Nat, Lib.index l [59] = i := ⟨(Lib.index l [59]).toNat, by omega⟩
    have e := cutL_at hi
    rw [e, List.length_cons] at h
    have h1 : cA l = l.take i ∧ cB l = l.drop (i + 1) := by
      unfold cA cB Lib.cut
      rw [if_pos (by omega), hi]
      simp
    rw [e, h1.1, h1.2]
    have h2 : cutL 59 (l.drop (i + 1)) = [l.drop (i + 1)] := by
      apply cutL_miss
      apply Classical.byContradiction
      intro hn
      have hge2 := Lib.index_ge (l.drop (i + 1)) [59]
      obtain ⟨j, hj⟩ : ∃ j : Nat, Lib.index (l.drop (i + 1)) [59] = j := ⟨(Lib.index (l.drop (i + 1)) [59]).toNat, by omega⟩
      rw [cutL_at hj, List.length_cons] at h
      have := List.length_pos_iff.2 (cutL_ne 59 ((l.drop (i + 1)).drop (j + 1)))
      omega
    rw [h2]
theorem cut_not {l : List UInt8} (h : (cutL 59 l).length ≠ 2) : rnO (cB l) = false := by
  have hge := Lib.index_ge l [59]
  by_cases hm : Lib.index l [59] = -1
  · have : cB l = [] := by
      unfold cB Lib.cut
      rw [if_neg (by omega)]
    rw [this]
    exact rn_empty
  · obtain ⟨i, hi⟩ : ∃ i : Nat, Lib.index l [59] = i := ⟨(Lib.index l [59]).toNat, by omega⟩
    have h1 : cB l = l.drop (i + 1) := by
      unfold cB Lib.cut
      rw [if_pos (by omega), hi]
      simp
    rw [cutL_at hi, List.length_cons] at h
    rw [h1]
    have := List.length_pos_iff.2 (cutL_ne 59 (l.drop (i + 1)))
    exact rn_semi (semi_of (by omega))
/-- What is read. -/
def rgW (l : List UInt8) : Int := (rlX (cA l)).getD 0 0
def rgH (l : List UInt8) : Int := (rlX (cA l)).getD 1 0
def rgN (l : List UInt8) : Nat := (rnX (cB l)).length
def rgF (l : List UInt8) (j : Nat) : Nat := (rnX (cB l)).getD j 0
def rgO (l : List UInt8) : Bool := decide ((cutL 59 l).length = 2) && (rlO (cA l) && (rnO (cB l) && (decide ((rlX (cA l)).length = 2) && gridB (rgW l) (rgH l) (rgN l) (rgF l))))
theorem rgN_le (l : List UInt8) : rgN l ≤ 256 := rnX_len _
theorem gridB_zero {wd hg : Int} {f : Nat → Nat} : gridB wd hg 0 f = false := by
  cases h : gridB wd hg 0 f
  · rfl
  · unfold gridB at h
    rw [Bool.and_eq_true, Bool.and_eq_true] at h
    have h1 : 2 ≤ wd ∧ wd ≤ 16 ∧ 2 ≤ hg ∧ hg ≤ 16 := by have := h.1; unfold sideB at this; exact of_decide_eq_true this
    have h2 : ((0 : Nat) : Int) = wd * hg := of_decide_eq_true h.2.1
    have b2 : 4 ≤ wd * hg := by have := Int.mul_le_mul h1.1 h1.2.2.1 (by omega) (by omega); simpa using this
    omega
theorem frow_vown {w : World} {base n : Nat} {e : TypeId} {v : Value} {xs : List Nat} (h : w.ownsRow base e 1 v n (fls xs)) : ∃ a cap, v = .slice a n cap ∧ n = xs.length := by
  have hl : n = xs.length := by have := h.1; rw [fls_len] at this; omega
  rcases h.2 with ⟨rfl, h0⟩ | ⟨g, cap, cur, rfl, _⟩
  · subst h0
    exact ⟨none, 0, rfl, hl⟩
  · exact ⟨_, cap, rfl, hl⟩
theorem l06Is_zero {b k : Nat} {a : Option Addr} {wd hg : Int} (w : World) (c0 : w.cell? ⟨b, 0, none⟩ = some (.int .i64 wd)) (c1 : w.cell? ⟨b, 1, none⟩ = some (.int .i64 hg)) (c2 : w.cell? ⟨b, 2, none⟩ = some (.slice a 0 k)) : Calls Tryd.prog 49 #[.pointer (some ⟨b, 0, none⟩)] w (RB false w) := by
  cases h1 : sideB wd hg
  · have H1 := Hf.mk h1
    clear h1
    go_enter Tryd.func49, Tryd.ntmps49
    go_wp2
    go_quiet ((first | (go_at_call 82; have KC := l06Sides_any wd hg; rw [H1.out] at KC; exact Calls.quiet_of (KC _))))
    go_wp2
    go_ret
    exact RB.any rfl (by repeat (first | exact Drew.refl _ | refine Drew.more ?_))
  · obtain ⟨s1, s2, s3, s4⟩ : 2 ≤ wd ∧ wd ≤ 16 ∧ 2 ≤ hg ∧ hg ≤ 16 := by unfold sideB at h1; exact of_decide_eq_true h1
    have H1 := Hf.mk h1
    have b0 : 4 ≤ wd * hg := by have := Int.mul_le_mul s1 s3 (by omega) (by omega); simpa using this
    have b1 : wd * hg ≤ 256 := by have := Int.mul_le_mul s2 s4 (by omega) (by omega); simpa using this
    obtain ⟨p, hp⟩ : ∃ p : Int, p = wd * hg := ⟨_, rfl⟩
    have hp' : wd * hg = p := hp.symm
    rw [hp'] at b0 b1
    clear hp h1
    have h3 : ((0 : Int) == p) = false := by rw [beq_eq_false_iff_ne]; omega
    go_enter Tryd.func49, Tryd.ntmps49
    go_wp2
    go_quiet ((first | (go_at_call 82; have KC := l06Sides_any wd hg; rw [H1.out] at KC; exact Calls.quiet_of (KC _))))
    go_wp2
    go_ret
    exact RB.any rfl (by repeat (first | exact Drew.refl _ | refine Drew.more ?_))
theorem l06Give_zero {k : Nat} {a : Option Addr} {wd hg : Int} (w : World) : Calls Tryd.prog 93 #[gd wd hg (.slice a 0 k)] w (RS (.tuple #[gd 0 0 (.slice none 0 0), .bool false]) w) := by
  have B0 := Hb.mk (Below.refl w.heap.size w)
  go_enter Tryd.func93, Tryd.ntmps93
  go_wp2_with (first | (go_at_call 49; refine (l06Is_zero (k := k) (a := a) (wd := wd) (hg := hg) _ (by simp) (by simp) (by simp)).mono ?_; rintro e w' ⟨rfl, q0, rfl⟩))
  exact bodyPost_ret (v := .tuple #[gd 0 0 (.slice none 0 0), .bool false]) (by simp [results, Tryd.results93, go_sem]) rfl ⟨rfl, (by repeat (first | with_reducible refine Below.setCell ?_ (by first | omega | (simp <;> omega)) _ | with_reducible refine Below.drews ?_ | with_reducible refine Below.drew ?_ | with_reducible refine Below.alloc ?_ (by first | omega | (simp <;> omega)) _ | with_reducible exact B0.out | with_reducible exact Below.refl _ _))⟩
theorem iValid_zero {k : Nat} {a : Option Addr} {wd hg : Int} (w : World) : Calls Tryd.prog 52 #[gd wd hg (.slice a 0 k)] w (RS (.bool false) w) := by
  have B0 := Hb.mk (Below.refl w.heap.size w)
  cases h1 : sideB wd hg
  · have H1 := Hf.mk h1
    clear h1
    go_enter Tryd.func52, Tryd.ntmps52
    go_wp2_with (first | (go_at_call 85; refine (sides_any _ _ _ _).mono ?_; rintro e w1 ⟨rfl, b1⟩; have B1 := Hb.mk (Below.on (B := w.heap.size) (a := w) (by repeat (first | exact B0.out | refine Below.drews ?_ | refine Below.drew ?_ | refine Below.alloc ?_ (by have hq_ := B0.out.size; first | omega | (simp <;> omega)) _ | refine Below.setCell ?_ (by have hq_ := B0.out.size; first | omega | (simp <;> omega)) _)) b1 (by have hq_ := B0.out.size; first | omega | (simp <;> omega))); have r0 := Hb.mk (At.keep b1 (p := ⟨(w.heap.size), 0, none⟩) (v := .int .i64 wd) (by simp [go_sem]) (by simp [go_sem])); obtain ⟨r0c, r0z, r0l⟩ := r0.out; have r1 := Hb.mk (At.keep b1 (p := ⟨(w.heap.size), 1, none⟩) (v := .int .i64 hg) (by simp [go_sem]) (by simp [go_sem])); obtain ⟨r1c, r1z, r1l⟩ := r1.out; have r2 := Hb.mk (At.keep b1 (p := ⟨(w.heap.size), 2, none⟩) (v := .slice a 0 k) (by simp [go_sem]) (by simp [go_sem])); obtain ⟨r2c, r2z, r2l⟩ := r2.out; clear b1) | (go_at_call 86; refine (areValid_any _ _ _).mono ?_; rw [H1.out]; rintro e w2 ⟨rfl, b2⟩; have B2 := Hb.mk (Below.on (B := w.heap.size) (a := w) (by repeat (first | exact B1.out | refine Below.drews ?_ | refine Below.drew ?_ | refine Below.alloc ?_ (by have hq_ := B1.out.size; first | omega | (simp <;> omega)) _ | refine Below.setCell ?_ (by have hq_ := B1.out.size; first | omega | (simp <;> omega)) _)) b2 (by have hq_ := B1.out.size; first | omega | (simp <;> omega))); have r0 := Hb.mk (At.re r0.out b2 (by first | exact r0c | simp [go_sem, r0c, r0l]) (by first | exact r0z | simp [go_sem, r0z, r0l])); obtain ⟨r0c, r0z, r0l⟩ := r0.out; have r1 := Hb.mk (At.re r1.out b2 (by first | exact r1c | simp [go_sem, r1c, r1l]) (by first | exact r1z | simp [go_sem, r1z, r1l])); obtain ⟨r1c, r1z, r1l⟩ := r1.out; have r2 := Hb.mk (At.re r2.out b2 (by first | exact r2c | simp [go_sem, r2c, r2l]) (by first | exact r2z | simp [go_sem, r2z, r2l])); obtain ⟨r2c, r2z, r2l⟩ := r2.out; clear b2))
    go_ret
    exact ⟨rfl, B2.out⟩
  · obtain ⟨s1, s2, s3, s4⟩ : 2 ≤ wd ∧ wd ≤ 16 ∧ 2 ≤ hg ∧ hg ≤ 16 := by unfold sideB at h1; exact of_decide_eq_true h1
    have H1 := Hf.mk h1
    have b0 : 4 ≤ wd * hg := by have := Int.mul_le_mul s1 s3 (by omega) (by omega); simpa using this
    have b1 : wd * hg ≤ 256 := by have := Int.mul_le_mul s2 s4 (by omega) (by omega); simpa using this
    obtain ⟨p, hp⟩ : ∃ p : Int, p = wd * hg := ⟨_, rfl⟩
    have hp' : wd * hg = p := hp.symm
    rw [hp'] at b0 b1
    clear hp h1
    have h3 : ((0 : Int) == p) = false := by rw [beq_eq_false_iff_ne]; omega
    go_enter Tryd.func52, Tryd.ntmps52
    go_wp2_with (first | (go_at_call 85; refine (sides_any _ _ _ _).mono ?_; rintro e w1 ⟨rfl, b1⟩; have B1 := Hb.mk (Below.on (B := w.heap.size) (a := w) (by repeat (first | exact B0.out | refine Below.drews ?_ | refine Below.drew ?_ | refine Below.alloc ?_ (by have hq_ := B0.out.size; first | omega | (simp <;> omega)) _ | refine Below.setCell ?_ (by have hq_ := B0.out.size; first | omega | (simp <;> omega)) _)) b1 (by have hq_ := B0.out.size; first | omega | (simp <;> omega))); have r0 := Hb.mk (At.keep b1 (p := ⟨(w.heap.size), 0, none⟩) (v := .int .i64 wd) (by simp [go_sem]) (by simp [go_sem])); obtain ⟨r0c, r0z, r0l⟩ := r0.out; have r1 := Hb.mk (At.keep b1 (p := ⟨(w.heap.size), 1, none⟩) (v := .int .i64 hg) (by simp [go_sem]) (by simp [go_sem])); obtain ⟨r1c, r1z, r1l⟩ := r1.out; have r2 := Hb.mk (At.keep b1 (p := ⟨(w.heap.size), 2, none⟩) (v := .slice a 0 k) (by simp [go_sem]) (by simp [go_sem])); obtain ⟨r2c, r2z, r2l⟩ := r2.out; clear b1) | (go_at_call 86; refine (areValid_any _ _ _).mono ?_; rw [H1.out]; rintro e w2 ⟨rfl, b2⟩; have B2 := Hb.mk (Below.on (B := w.heap.size) (a := w) (by repeat (first | exact B1.out | refine Below.drews ?_ | refine Below.drew ?_ | refine Below.alloc ?_ (by have hq_ := B1.out.size; first | omega | (simp <;> omega)) _ | refine Below.setCell ?_ (by have hq_ := B1.out.size; first | omega | (simp <;> omega)) _)) b2 (by have hq_ := B1.out.size; first | omega | (simp <;> omega))); have r0 := Hb.mk (At.re r0.out b2 (by first | exact r0c | simp [go_sem, r0c, r0l]) (by first | exact r0z | simp [go_sem, r0z, r0l])); obtain ⟨r0c, r0z, r0l⟩ := r0.out; have r1 := Hb.mk (At.re r1.out b2 (by first | exact r1c | simp [go_sem, r1c, r1l]) (by first | exact r1z | simp [go_sem, r1z, r1l])); obtain ⟨r1c, r1z, r1l⟩ := r1.out; have r2 := Hb.mk (At.re r2.out b2 (by first | exact r2c | simp [go_sem, r2c, r2l]) (by first | exact r2z | simp [go_sem, r2z, r2l])); obtain ⟨r2c, r2z, r2l⟩ := r2.out; clear b2))
    go_ret
    exact ⟨rfl, B2.out⟩
end Go.Proofs.YtcgakdgfmhkpjaaDoor
