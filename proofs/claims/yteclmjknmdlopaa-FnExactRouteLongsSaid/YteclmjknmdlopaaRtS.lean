/-
Routes, of the model: spec.l07Longs lists how long the shortest ones are. No premise beyond those named.
-/
import Derived.Test.YteclmjknmdlopaaRtn
import Derived.Test.YteclmjknmdlopaaNet
import Derived.Deep.QuietTactic
import Derived.BigQuiet
import Derived.Deep.RegionWith
namespace Go.Proofs.Yteclmjknmdlopaa
open Go Go.RowKit
set_option maxRecDepth 100000

def il (n : Nat) (f : Nat → Int) : List Value := (List.range n).map fun j => Value.int .i64 (f j)
theorem il_len (n : Nat) (f : Nat → Int) : (il n f).length = n := by simp [il]
theorem il_at {n : Nat} {f : Nat → Int} {j : Nat} (h : j < n) : (il n f)[j]? = some (.int .i64 (f j)) := by simp [il, h]
theorem il_congr {n : Nat} {f g : Nat → Int} (h : ∀ j, j < n → f j = g j) : il n f = il n g := by
  unfold il
  refine List.map_congr_left fun j hj => ?_
  rw [h j (by simpa using hj)]
theorem il_set {n : Nat} {f : Nat → Int} {j : Nat} {v : Int} (h : j < n) : (il n f).set j (.int .i64 v) = il n (upd f j v) := by
  apply List.ext_getElem?
  intro i
  by_cases hi : i < n
  · rw [il_at hi]
    by_cases he : i = j
    · subst he; rw [List.getElem?_set_self (by rw [il_len]; omega), upd_at]
    · rw [List.getElem?_set_ne (by omega), il_at hi, upd_ne he]
  · rw [List.getElem?_eq_none (by rw [List.length_set, il_len]; omega), List.getElem?_eq_none (by rw [il_len]; omega)]
theorem il_more {k : Nat} {f : Nat → Int} : il k f ++ [.int .i64 (f k)] = il (k + 1) f := by
  unfold il; rw [List.range_succ, List.map_append]; rfl
/-- A row of numbers that is owned. -/
def ORow (w : World) (base : Nat) (T : TypeId) (g cap n : Nat) (f : Nat → Int) : Prop := w.ownsRow base T 1 (.slice (some ⟨g, 0, none⟩) n cap) n (il n f)
theorem ORow.cell {w : World} {base : Nat} {T : TypeId} {g cap n : Nat} {f : Nat → Int} (h : ORow w base T g cap n f) {j : Nat} (hj : j < n) : w.cell? ⟨g, j, none⟩ = some (.int .i64 (f j)) := by
  have := World.ownsRow.cellAt h j (by omega)
  rw [this, il_at hj]
theorem ORow.free {w : World} {base : Nat} {T : TypeId} {g cap n : Nat} {f : Nat → Int} (h : ORow w base T g cap n f) (j : Nat) : w.frozen? ⟨g, j, none⟩ = false := World.ownsRow.frozenAt h j
theorem ORow.set {w : World} {base : Nat} {T : TypeId} {g cap n : Nat} {f : Nat → Int} (h : ORow w base T g cap n f) {j : Nat} (hj : j < n) (v : Int) : ORow (w.setCell ⟨g, j, none⟩ (.int .i64 v)) base T g cap n (upd f j v) := by
  have := (World.ownsRow.stored h j (.int .i64 v)).1
  rw [il_set hj] at this
  exact this
theorem ORow.drews {w : World} {base : Nat} {T : TypeId} {g cap n : Nat} {f : Nat → Int} (h : ORow w base T g cap n f) (q : Nat) : ORow (w.drewN q) base T g cap n f := h
theorem rt_shf {w : World} {base : Nat} {e : TypeId} {size : Nat} {v : Value} {n : Nat} {xs : List Value} (h : w.ownsRow base e size v n xs) (h0 : 0 < n) : ∃ g cap, v = .slice (some ⟨g, 0, none⟩) n cap ∧ base ≤ g ∧ g < w.heap.size := by
  obtain ⟨_, h2⟩ := h
  rcases h2 with ⟨_, hz⟩ | ⟨g, cap, cur, hv, hg, hh, hn, hc, _⟩
  · omega
  · exact ⟨g, cap, hv, hg, (Array.getElem?_eq_some_iff.1 hh).1⟩
theorem rt_ge {w : World} {base : Nat} {e : TypeId} {size n k : Nat} {v : Value} {xs : List Value} (h : w.ownsRow base e size v n xs) (hb : v.ownBlock = some k) : base ≤ k := by
  rcases h.2 with ⟨h1, _⟩ | ⟨g, cap, cur, hv, hg, _⟩
  · rw [h1] at hb; simp [Value.ownBlock] at hb
  · rw [hv] at hb; simp [Value.ownBlock] at hb; omega
theorem rt_one (w : World) (a : Value) (t : TypeId) : ∀ j u, [a][j]? = some u → (w.alloc (.cells #[a] t)).cell? ((⟨w.heap.size, 0, none⟩ : Addr).add j) = some u := by
  intro j u hj
  match j, hj with
  | 0, hj => simp at hj; subst hj; simp [Addr.add]
  | j + 1, hj => simp at hj
theorem rt_int {k : Int} : ∀ u ∈ [Value.int .i64 k], u.oneCell' = true := by
  intro u hu
  simp at hu
  subst hu
  rfl
theorem tot_congr {n : Nat} {f g : Nat → Int} (h : ∀ j, j < n → f j = g j) : tot n f = tot n g := sumWb_congr fun j hj => by rw [h j hj]
/-- What a list tells in a world. -/
def cellF (w : World) (g : Nat) (j : Nat) : Int := intWord (w.cell? ⟨g, j, none⟩)
theorem ORow.tot {w : World} {base : Nat} {T : TypeId} {g cap n : Nat} {f : Nat → Int} (h : ORow w base T g cap n f) : Proofs.Yteclmjknmdlopaa.tot n (cellF w g) = Proofs.Yteclmjknmdlopaa.tot n f := tot_congr fun j hj => by unfold cellF; rw [h.cell hj]; rfl
/-- The roads of a web lie in a row. -/
structure Web.At (W : Web) (xs : List Int) : Prop where
  len : xs.length = 3 * W.m
  a : ∀ i, i < W.m → raA xs i = (W.A i : Int)
  b : ∀ i, i < W.m → raB xs i = (W.B i : Int)
def oneB : Value → Nat
  | .bool true => 1
  | _ => 0
set_option maxHeartbeats 8000000 in
theorem l07Longs_any {W : Web} {xs : List Int} {p s : Nat} {a b : Option Addr} {k l : Nat} (w : World) (ho : W.ok) (hat : W.At xs) (hlg : ∀ i, i < W.m → W.lg i = raL xs i) (hm : W.m ≤ 64) (hs : s < W.n) (c0 : w.cell? ⟨p, 0, none⟩ = some (.slice a W.n k)) (c1 : w.cell? ⟨p, 1, none⟩ = some (.slice b W.m l)) (hr : IRow w b xs) :
    Calls Try.prog 42 #[.pointer (some ⟨p, 0, none⟩), .int .i64 (s : Int), .bool false] w (fun e w' => ∃ g cap f, e = .returned (.slice (some ⟨g, 0, none⟩) W.n cap) ∧ ORow w' w.heap.size 2 g cap W.n f ∧ W.Longs s f ∧ Below w.heap.size w w') := by
  obtain ⟨i0, hi0, hz0, hz1, hz2⟩ := info_parts (P := Try.prog) (e := 2) (z := .int .i64 0) (size := 1) (bytes := 8) (by kernel_rfl)
  have hn64 := ho.n64
  have hlb : p < w.heap.size := by have := block_lt_of_cell c0; simpa using this
  have HO := Hf.mk ho
  have HA := Hf.mk hat
  have HL := Hf.mk hlg
  have HR := Hf.mk hr
  clear ho hat hlg hr
  go_enter Try.func42, Try.ntmps42
  go_wp2
  go_loopw [7, 18] (fun vs c wr => ∃ (j : Nat) (v : Value), j ≤ W.n ∧ c = .int .i64 j ∧ vs = v ∧ Hf (wr.ownsRow w.heap.size 2 1 v j (il j (fun _ => -1))) ∧ Hf (Below w.heap.size w wr)) (fun _ c _ => W.n - (intOf c).toNat)
  case atStart => exact ⟨0, _, by omega, rfl, rfl, ⟨World.ownsRow_made _ _ _ (Nat.le_refl _) (by decide) rfl⟩, ⟨(by repeat (first | exact Below.refl _ _ | with_reducible assumption | refine Below.drews ?_ | refine Below.drew ?_ | refine Below.alloc ?_ (by simp <;> omega) _ | refine Below.setCell ?_ (by simp <;> omega) _))⟩⟩
  case round =>
    obtain ⟨j, v, hj, rfl, rfl, hown, hbel⟩ := hrel
    obtain ⟨W1, hW1⟩ : ∃ W1, W1 = wr := ⟨_, rfl⟩
    subst hW1
    have hsz := hbel.out.size
    by_cases hlt : j < W.n
    · go_wp2_with (at_builtin; refine wpList_append_own _ rfl _ _ 27 rfl w.heap.size 2 i0 (.int .i64 0) 1 8 Try.underlying27 hi0 hz0 hz1 hz2 rfl (by decide) _ j (il j (fun _ => -1)) rfl (rown_below hown.out ((Below.refl _ _).alloc (Nat.le_refl _) _)) ⟨W1.heap.size, 0, none⟩ 1 1 [.int .i64 (-1)] rfl rfl (rt_one _ _ _) rt_int (by unfold maxLen; omega) (by omega) (by first | omega | (simp <;> omega)) ?_; intro v' w3 o3 hgrow3 _; have B3 := Hf.mk (Below.grown (Below.alloc hbel.out (by first | omega | (simp <;> omega)) _) hgrow3 (by first | omega | (simp <;> omega)) (fun k h => rt_ge hown.out h)); have O3 := Hf.mk o3; clear o3 hgrow3)
      go_roundw
      case rel => exact ⟨j + 1, _, by omega, i_ext2 (by omega), rfl, ⟨by have := O3.out; rw [show (il j (fun _ => (-1 : Int))) ++ [.int .i64 (-1)] = il (j + 1) (fun _ => -1) from il_more] at this; exact this⟩, B3⟩
      case measure => simp [intOf]; omega
    · obtain rfl : j = W.n := by omega
      obtain ⟨g, cap, rfl, hg1, hg2⟩ := rt_shf hown.out (by omega)
      have OR : ORow W1 w.heap.size 2 g cap W.n (fun _ => -1) := hown.out
      have d0 := OR.cell hs
      have z0 := OR.free s
      go_wp2
      go_loopw [8] (fun vq wr => ∃ (q : Bool) (f : Nat → Int), vq = .bool q ∧ Hf (ORow wr w.heap.size 2 g cap W.n f) ∧ Hf (W.Mid s f) ∧ Hf (q = false → W.still f W.m) ∧ Hf (Below w.heap.size w wr)) (fun vq wr => 2 * tot W.n (cellF wr g) + oneB vq)
      case atStart => exact ⟨true, _, rfl, ⟨OR.set hs 0⟩, ⟨Web.Mid.first⟩, ⟨fun h => by cases h⟩, ⟨Below.setCell hbel.out (by simpa using hg1) _⟩⟩
      case round =>
        obtain ⟨q, f0, rfl, hof, hmid, hst, hbel1⟩ := hrel
        obtain ⟨W2, hW2⟩ : ∃ W2, W2 = wr := ⟨_, rfl⟩
        subst hW2
        have e0 := Below.keep hbel1.out c0
        have e1 := Below.keep hbel1.out c1
        have hT := Hf.mk (ORow.tot hof.out)
        cases q
        · have HLn := Hf.mk (hmid.out.longs (hst.out rfl))
          clear hst
          go_wp2
          go_ret
          first | exact ⟨g, cap, f0, rfl, hof.out, HLn.out, hbel1.out⟩
        · go_wp2
          go_loopw [8, 33] (fun vq c wr => ∃ (i : Nat) (q : Bool) (f : Nat → Int), i ≤ W.m ∧ c = .int .i64 i ∧ vq = .bool q ∧ Hf (ORow wr w.heap.size 2 g cap W.n f) ∧ Hf (W.Mid s f) ∧ Hf (q = false → W.still f i ∧ tot W.n f = tot W.n f0) ∧ Hf (q = true → tot W.n f < tot W.n f0) ∧ Hf (Below w.heap.size w wr)) (fun _ c _ => W.m - (intOf c).toNat)
          case atStart => exact ⟨0, false, f0, by omega, rfl, rfl, hof, hmid, ⟨fun _ => ⟨fun i hi => absurd hi (Nat.not_lt_zero i), rfl⟩⟩, ⟨fun h => by cases h⟩, hbel1⟩
          case round =>
            obtain ⟨i, q, f, hi, rfl, rfl, hof2, hmid2, hqf, hqt, hbel2⟩ := hrel
            obtain ⟨W3, hW3⟩ : ∃ W3, W3 = wr := ⟨_, rfl⟩
            subst hW3
            have x0 := Below.keep hbel2.out c0
            have x1 := Below.keep hbel2.out c1
            by_cases hlti : i < W.m
            · obtain ⟨pb, rfl⟩ := HR.out.some_of (by rw [HA.out.len]; omega)
              obtain ⟨r0, r1, r2⟩ := (HR.out.below hbel2.out).three HA.out.len hlti
              rw [HA.out.a i hlti] at r0
              rw [HA.out.b i hlti] at r1
              rw [← HL.out i hlti] at r2
              have a1 := HO.out.a i hlti
              have b1 := HO.out.b i hlti
              have ab := HO.out.ne i hlti
              have l1 := HO.out.l i hlti
              have dA := hof2.out.cell a1
              have dB := hof2.out.cell b1
              have zA := hof2.out.free (W.A i)
              have zB := hof2.out.free (W.B i)
              have fa1 := hmid2.out.low _ a1
              have fb1 := hmid2.out.low _ b1
              have fa2 := hmid2.out.high _ a1
              have fb2 := hmid2.out.high _ b1
              have hcn := cnt_le (n := W.n) f
              obtain ⟨FA, hFA⟩ : ∃ x, f (W.A i) = x := ⟨_, rfl⟩
              obtain ⟨FB, hFB⟩ : ∃ x, f (W.B i) = x := ⟨_, rfl⟩
              rw [hFA] at dA fa1 fa2
              rw [hFB] at dB fb1 fb2
              have KFA := Keep.mk hFA
              have KFB := Keep.mk hFB
              obtain ⟨A, hAe⟩ : ∃ x, W.A i = x := ⟨_, rfl⟩
              obtain ⟨B, hBe⟩ : ∃ x, W.B i = x := ⟨_, rfl⟩
              obtain ⟨Lg, hLe⟩ : ∃ x, W.lg i = x := ⟨_, rfl⟩
              rw [hAe] at r0 a1 ab dA zA
              rw [hBe] at r1 b1 ab dB zB
              rw [hLe] at r2 l1
              have KAe := Keep.mk hAe
              have KBe := Keep.mk hBe
              have KLe := Keep.mk hLe
              have hcl : (cnt W.n f : Int) ≤ 64 := by omega
              have fa3 : FA ≤ 64000000 := by omega
              have fb3 : FB ≤ 64000000 := by omega
              obtain ⟨l1, l2⟩ := l1
              have s1 : wrap64 (FA + Lg) = FA + Lg := by unfold wrap64; omega
              have s2 : wrap64 (FB + Lg) = FB + Lg := by unfold wrap64; omega
              have Kok := HO
              have RAB : Hf (0 ≤ FA → (FB < 0 ∨ FA + Lg < FB) → W.Mid s (upd f B (FA + Lg)) ∧ tot W.n (upd f B (FA + Lg)) < tot W.n f) := ⟨fun h0 hq => by
                have := hmid2.out.relax HO.out (p := W.A i) (q := W.B i) (l := W.lg i) ⟨i, hlti, rfl, .inl ⟨rfl, rfl⟩⟩ (by rw [hFA]; exact h0) (by rw [hFA, hFB, hLe]; exact hq)
                rw [hFA, hBe, hLe] at this
                exact ⟨this.1, this.2.1⟩⟩
              have RBA : Hf (0 ≤ FB → (FA < 0 ∨ FB + Lg < FA) → W.Mid s (upd f A (FB + Lg)) ∧ tot W.n (upd f A (FB + Lg)) < tot W.n f) := ⟨fun h0 hq => by
                have := hmid2.out.relax HO.out (p := W.B i) (q := W.A i) (l := W.lg i) ⟨i, hlti, rfl, .inr ⟨rfl, rfl⟩⟩ (by rw [hFB]; exact h0) (by rw [hFA, hFB, hLe]; exact hq)
                rw [hFB, hAe, hLe] at this
                exact ⟨this.1, this.2.1⟩⟩
              have ST : Hf (W.still f i → (0 ≤ FA → 0 ≤ FB ∧ FB ≤ FA + Lg) → (0 ≤ FB → 0 ≤ FA ∧ FA ≤ FB + Lg) → W.still f (i + 1)) := ⟨fun hs h1 h2 r hr => by
                by_cases he : r = i
                · subst he; rw [hFA, hFB, hLe]; exact ⟨h1, h2⟩
                · exact hs r (by omega)⟩
              have hpb := block_lt_of_cell ((HR.out).three HA.out.len hlti).1
              have hgb : ¬ (pb.add (i * 3)).block = g := by first | omega | (simp at hpb; omega)
              have hgb2 : ¬ g = (pb.add (i * 3)).block := fun e => hgb e.symm
              have hgs : g < W3.heap.size := by have := block_lt_of_cell dA; simpa using this
              clear hFA hFB hAe hBe hLe fa2 fb2 hcl hcn hpb
              by_cases hA : 0 ≤ FA
              · by_cases hB : FB < 0
                · skip
                  have D1 := Hb.mk (show decide (0 ≤ FA) = true from decide_eq_true (hA))
                  have D2 := Hb.mk (show decide (FB < 0) = true from decide_eq_true (hB))
                  have E1 := Hb.mk (show decide (0 ≤ FA + Lg) = true from decide_eq_true (by omega))
                  have E2 := Hb.mk (show decide (FA < 0) = false from decide_eq_false (by omega))
                  have E3 := Hb.mk (show decide (FA + Lg + Lg < FA) = false from decide_eq_false (by omega))
                  have s3 : wrap64 (FA + Lg + Lg) = FA + Lg + Lg := by unfold wrap64; omega
                  go_wp2
                  refine wp_region_quiet_lit (by kernel_rfl) (by kernel_rfl) ?_
                  repeat (first | go_big_quiet_step (fail) | rw [D1.out] | rw [D2.out])
                  refine wpQuiet_nil ?_
                  intro _ hw'
                  obtain ⟨nq, hw''⟩ := hw'
                  subst hw''
                  go_wp2
                  go_region
                  have g1 := ((hof2.out.drews (nq + 1)).set b1 (FA + Lg)).cell b1
                  rw [upd_at] at g1
                  have g2 : ((W3.drewN (nq + 1)).setCell ⟨g, B, none⟩ (.int .i64 (FA + Lg))).cell? (pb.add (i * 3)) = some (.int .i64 (A : Int)) := (World.cell?_of_block (w := W3) (Below.heap_setCell (W3.drewN (nq + 1)) ⟨g, B, none⟩ _ (pb.add (i * 3)).block hgb)).trans r0
                  go_wp2
                  refine wp_region_quiet_lit (by kernel_rfl) (by kernel_rfl) ?_
                  repeat (first | go_big_quiet_step (fail) | rw [E1.out] | rw [E2.out] | rw [E3.out])
                  refine wpQuiet_nil ?_
                  intro _ hw'
                  obtain ⟨nq, hw''⟩ := hw'
                  subst hw''
                  go_wp2
                  go_roundw
                  case rel =>
                    obtain ⟨hM, hT2⟩ := RAB.out (by omega) (by omega)
                    refine ⟨i + 1, true, upd f B (FA + Lg), by omega, i_ext2 (by omega), rfl, ⟨by first | exact (hof2.out.drews _).set (by assumption) _ | exact ((hof2.out.drews _).set (by assumption) _).drews _⟩, ⟨hM⟩, ⟨fun h => by cases h⟩, ⟨fun _ => ?_⟩, ⟨by first | exact Below.setCell (Below.drews hbel2.out) (by simpa using hg1) _ | exact Below.drews (Below.setCell (Below.drews hbel2.out) (by simpa using hg1) _)⟩⟩
                    cases q
                    · have := (hqf.out rfl).2; omega
                    · have := hqt.out rfl; omega
                  case measure => simp [intOf]; omega
                · by_cases hC : FA + Lg < FB
                  · skip
                    have D1 := Hb.mk (show decide (0 ≤ FA) = true from decide_eq_true (hA))
                    have D2 := Hb.mk (show decide (FB < 0) = false from decide_eq_false (by omega))
                    have D3 := Hb.mk (show decide (FA + Lg < FB) = true from decide_eq_true (hC))
                    have E1 := Hb.mk (show decide (0 ≤ FA + Lg) = true from decide_eq_true (by omega))
                    have E2 := Hb.mk (show decide (FA < 0) = false from decide_eq_false (by omega))
                    have E3 := Hb.mk (show decide (FA + Lg + Lg < FA) = false from decide_eq_false (by omega))
                    have s3 : wrap64 (FA + Lg + Lg) = FA + Lg + Lg := by unfold wrap64; omega
                    go_wp2
                    refine wp_region_quiet_lit (by kernel_rfl) (by kernel_rfl) ?_
                    repeat (first | go_big_quiet_step (fail) | rw [D1.out] | rw [D2.out] | rw [D3.out])
                    refine wpQuiet_nil ?_
                    intro _ hw'
                    obtain ⟨nq, hw''⟩ := hw'
                    subst hw''
                    go_wp2
                    go_region
                    have g1 := ((hof2.out.drews (nq + 1)).set b1 (FA + Lg)).cell b1
                    rw [upd_at] at g1
                    have g2 : ((W3.drewN (nq + 1)).setCell ⟨g, B, none⟩ (.int .i64 (FA + Lg))).cell? (pb.add (i * 3)) = some (.int .i64 (A : Int)) := (World.cell?_of_block (w := W3) (Below.heap_setCell (W3.drewN (nq + 1)) ⟨g, B, none⟩ _ (pb.add (i * 3)).block hgb)).trans r0
                    go_wp2
                    refine wp_region_quiet_lit (by kernel_rfl) (by kernel_rfl) ?_
                    repeat (first | go_big_quiet_step (fail) | rw [E1.out] | rw [E2.out] | rw [E3.out])
                    refine wpQuiet_nil ?_
                    intro _ hw'
                    obtain ⟨nq, hw''⟩ := hw'
                    subst hw''
                    go_wp2
                    go_roundw
                    case rel =>
                      obtain ⟨hM, hT2⟩ := RAB.out (by omega) (by omega)
                      refine ⟨i + 1, true, upd f B (FA + Lg), by omega, i_ext2 (by omega), rfl, ⟨by first | exact (hof2.out.drews _).set (by assumption) _ | exact ((hof2.out.drews _).set (by assumption) _).drews _⟩, ⟨hM⟩, ⟨fun h => by cases h⟩, ⟨fun _ => ?_⟩, ⟨by first | exact Below.setCell (Below.drews hbel2.out) (by simpa using hg1) _ | exact Below.drews (Below.setCell (Below.drews hbel2.out) (by simpa using hg1) _)⟩⟩
                      cases q
                      · have := (hqf.out rfl).2; omega
                      · have := hqt.out rfl; omega
                    case measure => simp [intOf]; omega
                  · by_cases hD : FB + Lg < FA
                    · skip
                      have D1 := Hb.mk (show decide (0 ≤ FA) = true from decide_eq_true (hA))
                      have D2 := Hb.mk (show decide (FB < 0) = false from decide_eq_false (hB))
                      have D3 := Hb.mk (show decide (FA + Lg < FB) = false from decide_eq_false (hC))
                      have E1 := Hb.mk (show decide (0 ≤ FB) = true from decide_eq_true (by omega))
                      have E2 := Hb.mk (show decide (FA < 0) = false from decide_eq_false (by omega))
                      have E3 := Hb.mk (show decide (FB + Lg < FA) = true from decide_eq_true (hD))
                      go_wp2
                      refine wp_region_quiet_lit (by kernel_rfl) (by kernel_rfl) ?_
                      repeat (first | go_big_quiet_step (fail) | rw [D1.out] | rw [D2.out] | rw [D3.out])
                      refine wpQuiet_nil ?_
                      intro _ hw'
                      obtain ⟨nq, hw''⟩ := hw'
                      subst hw''
                      go_wp2
                      refine wp_region_quiet_lit (by kernel_rfl) (by kernel_rfl) ?_
                      repeat (first | go_big_quiet_step (fail) | rw [E1.out] | rw [E2.out] | rw [E3.out])
                      refine wpQuiet_nil ?_
                      intro _ hw'
                      obtain ⟨nq, hw''⟩ := hw'
                      subst hw''
                      go_wp2
                      go_region
                      go_wp2
                      go_roundw
                      case rel =>
                        obtain ⟨hM, hT2⟩ := RBA.out (by omega) (by omega)
                        refine ⟨i + 1, true, upd f A (FB + Lg), by omega, i_ext2 (by omega), rfl, ⟨by first | exact (hof2.out.drews _).set (by assumption) _ | exact ((hof2.out.drews _).set (by assumption) _).drews _⟩, ⟨hM⟩, ⟨fun h => by cases h⟩, ⟨fun _ => ?_⟩, ⟨by first | exact Below.setCell (Below.drews hbel2.out) (by simpa using hg1) _ | exact Below.drews (Below.setCell (Below.drews hbel2.out) (by simpa using hg1) _)⟩⟩
                        cases q
                        · have := (hqf.out rfl).2; omega
                        · have := hqt.out rfl; omega
                      case measure => simp [intOf]; omega
                    · skip
                      have D1 := Hb.mk (show decide (0 ≤ FA) = true from decide_eq_true (hA))
                      have D2 := Hb.mk (show decide (FB < 0) = false from decide_eq_false (hB))
                      have D3 := Hb.mk (show decide (FA + Lg < FB) = false from decide_eq_false (hC))
                      have E1 := Hb.mk (show decide (0 ≤ FB) = true from decide_eq_true (by omega))
                      have E2 := Hb.mk (show decide (FA < 0) = false from decide_eq_false (by omega))
                      have E3 := Hb.mk (show decide (FB + Lg < FA) = false from decide_eq_false (hD))
                      go_wp2
                      refine wp_region_quiet_lit (by kernel_rfl) (by kernel_rfl) ?_
                      repeat (first | go_big_quiet_step (fail) | rw [D1.out] | rw [D2.out] | rw [D3.out])
                      refine wpQuiet_nil ?_
                      intro _ hw'
                      obtain ⟨nq, hw''⟩ := hw'
                      subst hw''
                      go_wp2
                      refine wp_region_quiet_lit (by kernel_rfl) (by kernel_rfl) ?_
                      repeat (first | go_big_quiet_step (fail) | rw [E1.out] | rw [E2.out] | rw [E3.out])
                      refine wpQuiet_nil ?_
                      intro _ hw'
                      obtain ⟨nq, hw''⟩ := hw'
                      subst hw''
                      go_wp2
                      go_roundw
                      case rel => exact ⟨i + 1, q, f, by omega, i_ext2 (by omega), rfl, ⟨hof2.out⟩, hmid2, ⟨fun h => ⟨ST.out (hqf.out h).1 (by omega) (by omega), (hqf.out h).2⟩⟩, hqt, ⟨Below.drews hbel2.out⟩⟩
                      case measure => simp [intOf]; omega
              · by_cases hB : 0 ≤ FB
                · skip
                  have D1 := Hb.mk (show decide (0 ≤ FA) = false from decide_eq_false (hA))
                  have E1 := Hb.mk (show decide (0 ≤ FB) = true from decide_eq_true (hB))
                  have E2 := Hb.mk (show decide (FA < 0) = true from decide_eq_true (by omega))
                  go_wp2
                  refine wp_region_quiet_lit (by kernel_rfl) (by kernel_rfl) ?_
                  repeat (first | go_big_quiet_step (fail) | rw [D1.out])
                  refine wpQuiet_nil ?_
                  intro _ hw'
                  obtain ⟨nq, hw''⟩ := hw'
                  subst hw''
                  go_wp2
                  refine wp_region_quiet_lit (by kernel_rfl) (by kernel_rfl) ?_
                  repeat (first | go_big_quiet_step (fail) | rw [E1.out] | rw [E2.out])
                  refine wpQuiet_nil ?_
                  intro _ hw'
                  obtain ⟨nq, hw''⟩ := hw'
                  subst hw''
                  go_wp2
                  go_region
                  go_wp2
                  go_roundw
                  case rel =>
                    obtain ⟨hM, hT2⟩ := RBA.out (by omega) (by omega)
                    refine ⟨i + 1, true, upd f A (FB + Lg), by omega, i_ext2 (by omega), rfl, ⟨by first | exact (hof2.out.drews _).set (by assumption) _ | exact ((hof2.out.drews _).set (by assumption) _).drews _⟩, ⟨hM⟩, ⟨fun h => by cases h⟩, ⟨fun _ => ?_⟩, ⟨by first | exact Below.setCell (Below.drews hbel2.out) (by simpa using hg1) _ | exact Below.drews (Below.setCell (Below.drews hbel2.out) (by simpa using hg1) _)⟩⟩
                    cases q
                    · have := (hqf.out rfl).2; omega
                    · have := hqt.out rfl; omega
                  case measure => simp [intOf]; omega
                · skip
                  have D1 := Hb.mk (show decide (0 ≤ FA) = false from decide_eq_false (hA))
                  have E1 := Hb.mk (show decide (0 ≤ FB) = false from decide_eq_false (hB))
                  go_wp2
                  refine wp_region_quiet_lit (by kernel_rfl) (by kernel_rfl) ?_
                  repeat (first | go_big_quiet_step (fail) | rw [D1.out])
                  refine wpQuiet_nil ?_
                  intro _ hw'
                  obtain ⟨nq, hw''⟩ := hw'
                  subst hw''
                  go_wp2
                  refine wp_region_quiet_lit (by kernel_rfl) (by kernel_rfl) ?_
                  repeat (first | go_big_quiet_step (fail) | rw [E1.out])
                  refine wpQuiet_nil ?_
                  intro _ hw'
                  obtain ⟨nq, hw''⟩ := hw'
                  subst hw''
                  go_wp2
                  go_roundw
                  case rel => exact ⟨i + 1, q, f, by omega, i_ext2 (by omega), rfl, ⟨hof2.out⟩, hmid2, ⟨fun h => ⟨ST.out (hqf.out h).1 (by omega) (by omega), (hqf.out h).2⟩⟩, hqt, ⟨Below.drews hbel2.out⟩⟩
                  case measure => simp [intOf]; omega
            · obtain rfl : i = W.m := by omega
              go_wp2
              go_roundw
              case rel => exact ⟨q, f, rfl, hof2, hmid2, ⟨fun h => (hqf.out h).1⟩, hbel2⟩
              case measure =>
                rw [ORow.tot hof2.out, hT.out]
                cases q
                · have := (hqf.out rfl).2
                  show 2 * tot W.n f + 0 < 2 * tot W.n f0 + 1
                  omega
                · have := hqt.out rfl
                  show 2 * tot W.n f + 1 < 2 * tot W.n f0 + 1
                  omega
end Go.Proofs.Yteclmjknmdlopaa
