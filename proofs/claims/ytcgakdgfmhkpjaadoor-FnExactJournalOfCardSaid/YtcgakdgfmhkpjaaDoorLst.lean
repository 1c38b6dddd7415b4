/-
  Lists that a law gets, compares, marks and holds: of floats that are told, of integers, of bools. No premise beyond those named.
-/
import Derived.Test.YtcgakdgfmhkpjaaDoorEvi
namespace Go.Proofs.YtcgakdgfmhkpjaaDoor
open Go Go.RowKit
set_option maxRecDepth 100000

theorem iown_below {w w' : World} {base : Nat} {e : TypeId} {size : Nat} {v : Value} {n : Nat} {xs : List Value} (h : w.ownsRow base e size v n xs) (b : Below w.heap.size w w') : w'.ownsRow base e size v n xs := by
  refine h.kept (row := none) ⟨b.os, b.tape, b.output, b.size, fun k hk _ => b.block k hk⟩ ?_
  cases hv : v.ownBlock
  · exact .inl rfl
  · exact .inr (by simp)
theorem own_dr {w : World} {base : Nat} {e : TypeId} {size : Nat} {v : Value} {n : Nat} {xs : List Value} (h : w.ownsRow base e size v n xs) (q : Nat) : (w.drewN q).ownsRow base e size v n xs := h
theorem own_lt {w : World} {base g n cap size : Nat} {xs : List Value} {e : TypeId} (h : w.ownsRow base e size (.slice (some ⟨g, 0, none⟩) n cap) n xs) : base ≤ g ∧ g < w.heap.size := h.lt g rfl
theorem own_other {w : World} {base : Nat} {e : TypeId} {size g n cap : Nat} {xs : List Value} (h : w.ownsRow base e size (.slice (some ⟨g, 0, none⟩) n cap) n xs) {a : Addr} (ha : g ≠ a.block) (u : Value) : (w.setCell a u).ownsRow base e size (.slice (some ⟨g, 0, none⟩) n cap) n xs :=
  h.kept (row := some a.block) ⟨rfl, rfl, rfl, by simp, fun k _ hk => Below.heap_setCell _ _ _ _ (fun e => hk (by rw [e]))⟩ (.inr (by simp only [Value.ownBlock]; exact fun e => ha (by injection e)))
theorem own_lower {w : World} {base base' : Nat} {e : TypeId} {size n : Nat} {v : Value} {xs : List Value} (h : w.ownsRow base e size v n xs) (hb : base' ≤ base) : w.ownsRow base' e size v n xs := by
  refine ⟨h.1, ?_⟩
  rcases h.2 with h | ⟨g', cap', cur, hv, hg, hr⟩
  · exact .inl h
  · exact .inr ⟨g', cap', cur, hv, by omega, hr⟩
def seqI (k : Int) (m : Nat) : List Int := (List.range m).map fun (j : Nat) => k + (j : Int)
theorem seqI_len (k : Int) (m : Nat) : (seqI k m).length = m := by simp [seqI]
theorem seqI_at {k : Int} {m j : Nat} (h : j < m) : (seqI k m).getD j 0 = k + (j : Int) := by simp [seqI, List.getD, h]
theorem gb_refl (w : World) (g : Option Nat) : w.grownBy w g := ⟨rfl, rfl, rfl, Nat.le_refl _, fun _ _ _ => rfl⟩
theorem gb_trans {w w1 w2 : World} {g : Option Nat} (h : w.grownBy w1 g) (k : w1.grownBy w2 g) : w.grownBy w2 g :=
  ⟨k.os.trans h.os, k.tape.trans h.tape, k.output.trans h.output, Nat.le_trans h.size k.size, fun i hi hg => (k.block i (Nat.lt_of_lt_of_le hi h.size) hg).trans (h.block i hi hg)⟩
theorem gb_drew (w : World) (q : Nat) (g : Option Nat) : w.grownBy (w.drewN q) g := ⟨rfl, rfl, rfl, Nat.le_refl _, fun _ _ _ => rfl⟩
theorem irow_gb {w w' : World} {b g : Nat} {xs : List Int} (h : IRow w (some ⟨b, 0, none⟩) xs) (hg : w.grownBy w' (some g)) (hne : b ≠ g) : IRow w' (some ⟨b, 0, none⟩) xs := by
  intro i hi
  obtain ⟨p, hp, hc⟩ := h i hi
  refine ⟨p, hp, ?_⟩
  obtain rfl := Option.some.inj hp
  rw [World.cell?_of_block (w := w) (hg.block _ (block_lt_of_cell hc) (by rw [addr_add]; simp; exact hne))]
  exact hc
theorem own_gb {w w' : World} {base : Nat} {e : TypeId} {size b n cap g : Nat} {xs : List Value} (h : w.ownsRow base e size (.slice (some ⟨b, 0, none⟩) n cap) n xs) (hg : w.grownBy w' (some g)) (hne : b ≠ g) : w'.ownsRow base e size (.slice (some ⟨b, 0, none⟩) n cap) n xs :=
  h.kept hg (.inr (by simp [Value.ownBlock]; exact hne))
theorem below_gb {B : Nat} {w w1 w' : World} {g : Nat} (h : Below B w w1) (hg : w1.grownBy w' (some g)) (hB : B ≤ w1.heap.size) (hb : B ≤ g) : Below B w w' := h.grown hg hB (fun k hk => by cases hk; exact hb)
theorem ne_som {a b : Nat} (h : a ≠ b) : some a ≠ some b := fun e => h (Option.some.inj e)
def sqI (k : Int) (j : Nat) : Nat := floatOfInt .f32 (k + (j : Int))
set_option maxHeartbeats 4000000 in
theorem eqFT_any {g1 g2 n k1 k2 : Nat} {f : Nat → Nat} (w : World) (h1 : Told w g1 n f) (h2 : Told w g2 n f) (hl : n ≤ 1048576) : Calls Tryd.prog 54 #[.slice (some ⟨g1, 0, none⟩) n k1, .slice (some ⟨g2, 0, none⟩) n k2] w (RB true w) := by
  have H1 := Hf.mk h1
  have H2 := Hf.mk h2
  clear h1 h2
  go_enter Tryd.func54, Tryd.ntmps54
  go_wp2
  go_loopw [5] (fun i wr => ∃ m : Nat, m ≤ n ∧ i = .int .i64 m ∧ Drew w wr) (fun i _ => n - (intOf i).toNat)
  case atStart => exact ⟨0, by omega, rfl, (by repeat (first | exact Drew.refl _ | refine Drew.more ?_))⟩
  case round =>
    obtain ⟨m, hm, rfl, q, rfl⟩ := hrel
    by_cases hlt : m < n
    · obtain ⟨r1, c1, f1⟩ := H1.out m hlt
      obtain ⟨r2, c2, f2⟩ := H2.out m hlt
      have hD1 : ∀ (W : World) (x : Addr), W.drew.cell? x = W.cell? x := fun _ _ => rfl
      have hD2 : ∀ (W : World) (n : Nat) (x : Addr), (W.drewN n).cell? x = W.cell? x := fun _ _ _ => rfl
      obtain ⟨R1, N1, hcv1, hfl1⟩ := wide_all Tryd.prog (src := 58) (dst := 115) (by kernel_rfl) Tryd.underlying115 f1
      obtain ⟨R2, N2, hcv2, hfl2⟩ := wide_all Tryd.prog (src := 58) (dst := 115) (by kernel_rfl) Tryd.underlying115 f2
      have HF1 := Hf.mk hfl1
      have HF2 := Hf.mk hfl2
      clear hfl1 hfl2
      go_wp2
      go_region_with (go_at_call 77; refine (sameFloat_any (HF1.out _) (HF2.out _) _).mono ?_; rintro e w' ⟨rfl, n, rfl⟩)
      all_goals go_wp2
      all_goals go_roundw
      all_goals first | exact ⟨m + 1, by omega, i_ext2 (by omega), ⟨_, rfl⟩⟩ | (simp [intOf]; omega)
    · obtain rfl : m = n := by omega
      go_wp2
      go_ret
      exact RB.any rfl (by repeat (first | exact Drew.refl _ | refine Drew.more ?_))
theorem eqF_nil (w : World) : Calls Tryd.prog 54 #[.slice none 0 0, .slice none 0 0] w (RB true w) := by
  go_enter Tryd.func54, Tryd.ntmps54
  go_wp2
  go_loopw [5] (fun i wr => i = .int .i64 0 ∧ Drew w wr) (fun _ _ => 0)
  case atStart => exact ⟨rfl, (by repeat (first | exact Drew.refl _ | refine Drew.more ?_))⟩
  case round =>
    obtain ⟨rfl, q, rfl⟩ := hrel
    go_wp2
    go_ret
    exact RB.any rfl (by repeat (first | exact Drew.refl _ | refine Drew.more ?_))
set_option maxHeartbeats 4000000 in
theorem markF_any {g n cap base : Nat} {cur : List Value} {k : Int} (w : World) (ho : w.ownsRow base 58 1 (.slice (some ⟨g, 0, none⟩) n cap) n cur) (hl : n ≤ 1048576) (hk0 : 0 ≤ k) (hk1 : k ≤ 2097152) : Calls Tryd.prog 58 #[.slice (some ⟨g, 0, none⟩) n cap, .int .i64 k] w (fun e w' => e = .returned (.int .i64 (k + (n : Int))) ∧ Told w' g n (sqI k) ∧ w.grownBy w' (some g)) := by
  have HO := Hf.mk ho
  clear ho
  go_enter Tryd.func58, Tryd.ntmps58
  go_wp2
  go_loopw [5, 1] (fun i kk wr => ∃ (m : Nat) (cu : List Value), m ≤ n ∧ i = .int .i64 m ∧ kk = .int .i64 (k + (m : Int)) ∧ Hf (wr.ownsRow base 58 1 (.slice (some ⟨g, 0, none⟩) n cap) n cu) ∧ Hf (∀ j, j < m → cu[j]? = some (.float .f32 (sqI k j))) ∧ Hf (w.grownBy wr (some g))) (fun i _ _ => n - (intOf i).toNat)
  case atStart => exact ⟨0, _, by omega, rfl, i_ext2 (by omega), HO, ⟨fun j hj => absurd hj (Nat.not_lt_zero j)⟩, ⟨gb_refl _ _⟩⟩
  case round =>
    obtain ⟨m, cu, hm, rfl, rfl, hown, hcur, hgb⟩ := hrel
    by_cases hlt : m < n
    · have hlen : cu.length = n * 1 := hown.out.1
      obtain ⟨old0, hold0⟩ : ∃ old, cu[m]? = some old := ⟨_, List.getElem?_eq_getElem (by omega)⟩
      have d0 : wr.cell? ⟨g, m, none⟩ = some old0 := (hown.out.cellAt m (by omega)).trans hold0
      have z0 := hown.out.frozenAt m
      clear hold0
      go_wp2
      go_roundw
      case rel =>
        have hst := hown.out.stored m (.float .f32 (sqI k m))
        refine ⟨m + 1, _, by omega, i_ext2 (by omega), i_ext2 (by omega), ⟨hst.1⟩, ⟨fun j hj => ?_⟩, ⟨gb_trans hgb.out hst.2⟩⟩
        by_cases he : j = m
        · subst he; rw [List.getElem?_set_self (by omega)]
        · rw [List.getElem?_set_ne (by omega)]; exact hcur.out j (by omega)
      case measure => simp [intOf]; omega
    · obtain rfl : m = n := by omega
      go_wp2
      go_ret
      refine ⟨rfl, fun j hj => ⟨sqI k j, ?_, Fl.ofInt _ _⟩, hgb.out⟩
      rw [hown.out.cellAt j (by omega)]
      exact hcur.out j hj
theorem markF_nil {k : Int} (w : World) : Calls Tryd.prog 58 #[.slice none 0 0, .int .i64 k] w (RI .i64 k w) := by
  go_enter Tryd.func58, Tryd.ntmps58
  go_wp2
  go_loopw [5, 1] (fun i kk wr => i = .int .i64 0 ∧ kk = .int .i64 k ∧ Drew w wr) (fun _ _ _ => 0)
  case atStart => exact ⟨rfl, rfl, (by repeat (first | exact Drew.refl _ | refine Drew.more ?_))⟩
  case round =>
    obtain ⟨rfl, rfl, q, rfl⟩ := hrel
    go_wp2
    go_ret
    exact RI.any rfl (by repeat (first | exact Drew.refl _ | refine Drew.more ?_))
theorem heldF_nil {k : Int} (w : World) : Calls Tryd.prog 59 #[.slice none 0 0, .int .i64 k] w (RI .i64 k w) := by
  go_enter Tryd.func59, Tryd.ntmps59
  go_wp2
  go_loopw [5, 1] (fun i kk wr => i = .int .i64 0 ∧ kk = .int .i64 k ∧ Drew w wr) (fun _ _ _ => 0)
  case atStart => exact ⟨rfl, rfl, (by repeat (first | exact Drew.refl _ | refine Drew.more ?_))⟩
  case round =>
    obtain ⟨rfl, rfl, q, rfl⟩ := hrel
    go_wp2
    go_ret
    exact RI.any rfl (by repeat (first | exact Drew.refl _ | refine Drew.more ?_))
set_option maxHeartbeats 4000000 in
theorem heldF_any {g n cap : Nat} {k : Int} (w : World) (hr : Told w g n (sqI k)) (hl : n ≤ 1048576) (hk0 : 0 ≤ k) (hk1 : k ≤ 2097152) : Calls Tryd.prog 59 #[.slice (some ⟨g, 0, none⟩) n cap, .int .i64 k] w (RI .i64 (k + (n : Int)) w) := by
  have HR := Hf.mk hr
  clear hr
  go_enter Tryd.func59, Tryd.ntmps59
  go_wp2
  go_loopw [5, 1] (fun i kk wr => ∃ m : Nat, m ≤ n ∧ i = .int .i64 m ∧ kk = .int .i64 (k + (m : Int)) ∧ Drew w wr) (fun i _ _ => n - (intOf i).toNat)
  case atStart => exact ⟨0, by omega, rfl, i_ext2 (by omega), (by repeat (first | exact Drew.refl _ | refine Drew.more ?_))⟩
  case round =>
    obtain ⟨m, hm, rfl, rfl, q, rfl⟩ := hrel
    by_cases hlt : m < n
    · obtain ⟨r, hc, hf⟩ := HR.out m hlt
      obtain rfl : sqI k m = r := (hf.word (nearest_notN .f32 _)).symm
      have hs := order_self (k := .f32) (x := sqI k m) (nearest_notN .f32 _)
      unfold sqI at hc hs
      clear hf
      go_wp2
      go_roundw
      case rel => exact ⟨m + 1, by omega, i_ext2 (by omega), i_ext2 (by omega), (by repeat (first | exact Drew.refl _ | refine Drew.more ?_))⟩
      case measure => simp [intOf]; omega
    · obtain rfl : m = n := by omega
      go_wp2
      go_ret
      exact RI.any rfl (by repeat (first | exact Drew.refl _ | refine Drew.more ?_))
/-! ## Integers -/
/-! ## Bools -/
def bls (xs : List Bool) : List Value := xs.map .bool
def BRow (w : World) (a : Option Addr) (xs : List Bool) : Prop := ∀ i, i < xs.length → ∃ p, a = some p ∧ w.cell? (p.add i) = some (.bool (xs.getD i false))
theorem BRow.below {w w' : World} {a : Option Addr} {xs : List Bool} (h : BRow w a xs) (hb : Below w.heap.size w w') : BRow w' a xs := by
  intro i hi
  obtain ⟨p, hp, hc⟩ := h i hi
  exact ⟨p, hp, by rw [hb.cell (addr_lt hc)]; exact hc⟩
theorem BRow.drew {w : World} {a : Option Addr} {xs : List Bool} (h : BRow w a xs) (n : Nat) : BRow (w.drewN n) a xs := h
theorem brow_own {w : World} {base g n cap : Nat} {xs : List Bool} {e : TypeId} (hn : n = xs.length) (h : w.ownsRow base e 1 (.slice (some ⟨g, 0, none⟩) n cap) n (bls xs)) : BRow w (some ⟨g, 0, none⟩) xs := by
  intro i hi
  refine ⟨_, rfl, ?_⟩
  have := h.cellAt i (by omega)
  rw [add_at, this]
  simp [bls, List.getElem?_map, List.getElem?_eq_getElem hi]
theorem brow_gb {w w' : World} {b g : Nat} {xs : List Bool} (h : BRow w (some ⟨b, 0, none⟩) xs) (hg : w.grownBy w' (some g)) (hne : b ≠ g) : BRow w' (some ⟨b, 0, none⟩) xs := by
  intro i hi
  obtain ⟨p, hp, hc⟩ := h i hi
  refine ⟨p, hp, ?_⟩
  obtain rfl := Option.some.inj hp
  rw [World.cell?_of_block (w := w) (hg.block _ (block_lt_of_cell hc) (by rw [addr_add]; simp; exact hne))]
  exact hc
end Go.Proofs.YtcgakdgfmhkpjaaDoor
