/-
Lists of texts as a law compares, marks and looks at them: any capacity, empty ones too; the text of a mark.
-/
import Derived.Test.YtcgakdgfmhkpjaaDoorCou
import Derived.Test.YtcgakdgfmhkpjaaDoorLri
import Derived.Test.YtcgakdgfmhkpjaaDoorTxt
namespace Go.Proofs.YtcgakdgfmhkpjaaDoor
open Go Go.RowKit
set_option maxRecDepth 100000

/-- the text of a mark -/
def mT (k : Int) : List UInt8 := 109 :: Lib.decDigits k.toNat
def mTs (k : Int) (n : Nat) : List (List UInt8) := (List.range n).map fun (j : Nat) => mT (k + (j : Int))
theorem mTs_len (k : Int) (n : Nat) : (mTs k n).length = n := by simp [mTs]
theorem mTs_at {k : Int} {n j : Nat} (h : j < n) : (mTs k n).getD j [] = mT (k + (j : Int)) := by simp [mTs, List.getD, h]
theorem dg_ne (A : Nat) : Lib.decDigits A ≠ [] := by
  unfold Lib.decDigits
  split <;> simp
set_option maxHeartbeats 2000000 in
theorem markText_any {k : Int} (h1 : 1 ≤ k) (h2 : k ≤ 4194304) (w : World) : Calls Tryd.prog 71 #[.int .i64 k] w (RS (.string (ofL (mT k))) w) := by
  obtain ⟨A, hA⟩ : ∃ A : Nat, k = A := ⟨k.toNat, by omega⟩
  subst hA
  have HD := Hf.mk (show mT (A : Int) = 109 :: Lib.decDigits A by unfold mT; rw [Int.toNat_natCast])
  have HL := Hf.mk (dec_len (n := (A : Int)) (by omega) (by omega))
  rw [Int.natAbs_natCast] at HL
  go_enter Tryd.func71, Tryd.ntmps71
  go_wp2
  go_loopw [0, 3] (fun kk out wr => ∃ (a : Nat) (o : List UInt8), Hf (DecAt A a o) ∧ a ≤ A ∧ kk = .int .i64 a ∧ out = .string (ofL o) ∧ Hb (Below w.heap.size w wr)) (fun kk _ _ => (intOf kk).toNat)
  case atStart => exact ⟨A, [], ⟨⟨.inl ⟨rfl, rfl⟩⟩⟩, Nat.le_refl _, rfl, rfl, ⟨(by repeat (first | exact Below.refl _ _ | with_reducible assumption | refine Below.drews ?_ | refine Below.drew ?_ | refine Below.alloc ?_ (by simp <;> omega) _ | refine Below.setCell ?_ (by simp <;> omega) _))⟩⟩
  case round =>
    obtain ⟨a, o, hd, ha, rfl, rfl, hB⟩ := hrel
    by_cases hz : 0 < a
    · have hd2 := Hf.mk (hd.out.step (.inr (by omega)))
      have hlen := Hf.mk (Nat.le_trans hd2.out.len HL.out)
      have e3 := by_dig (d := a % 10) (by omega)
      have hsz := hB.out.size
      obtain ⟨b, hb⟩ : ∃ b, b = UInt8.ofNat (48 + a % 10) := ⟨_, rfl⟩
      rw [← hb] at hd2 hlen e3
      have e4 : 48 + (a : Int) % 10 = (b.toNat : Int) := by omega
      clear hb
      have hbt : BAt (wr.alloc (.cells #[.int .u8 (48 + (a : Int) % 10)] 5)) wr.heap.size [b] := fun j hj => by
        obtain rfl : j = 0 := by simpa using hj
        rw [e4]
        simp [go_sem]
      have kcv : (convert 89 9 (.slice (some ⟨wr.heap.size, 0, none⟩) 1 1)).run Tryd.prog (wr.alloc (.cells #[.int .u8 (48 + (a : Int) % 10)] 5)) = .ok (.string ⟨[b].toArray⟩) (wr.alloc (.cells #[.int .u8 (48 + (a : Int) % 10)] 5)) := conv_b hbt rfl
      have HL2 : Hf (o.length + 1 ≤ 21) := ⟨by simpa using hlen.out⟩
      have hob : 1 + o.length ≤ 140737488355328 := by have := HL2.out; omega
      clear e3 e4 hbt
      go_wp2
      go_roundw
      case rel => exact ⟨a / 10, b :: o, hd2, by omega, i_ext2 (by omega), by first | rfl | (congr 1), ⟨hB.out.alloc hsz _⟩⟩
      case measure => simp [intOf]; omega
    · obtain rfl : a = 0 := by omega
      have hn : o ≠ [] := by
        rcases hd.out.say with ⟨_, h⟩ | ⟨h, _⟩ | ⟨h, _⟩
        · omega
        · exact h
        · exact h
      have HE := Hf.mk (hd.out.done hn)
      have HO : Hf (o.length ≤ 21) := ⟨by rw [HE.out]; exact HL.out⟩
      have hob : 1 + o.length ≤ 140737488355328 := by have := HO.out; omega
      clear hn hd
      go_wp2
      go_ret
      rw [HD.out, ← HE.out]
      exact ⟨by first | rfl | (congr 1), (by repeat (first | exact hB.out | refine Below.drews ?_ | refine Below.drew ?_ | refine Below.alloc ?_ (by have hq_ := hB.out.size; first | omega | (simp <;> omega)) _ | refine Below.setCell ?_ (by have hq_ := hB.out.size; first | omega | (simp <;> omega)) _))⟩
theorem srow_g1 {w : World} {base g n cap : Nat} {e : TypeId} {L : List (List UInt8)} (h : w.ownsRow base e 1 (.slice (some ⟨g, 0, none⟩) n cap) n (sRow L)) : TRow w g L ∧ n = L.length := ⟨trow_own h, by have := h.1; rw [sRow_len] at this; omega⟩
theorem sgb_below {w w' : World} {g : Option Nat} (b : Below w.heap.size w w') : w.grownBy w' g := ⟨b.os, b.tape, b.output, b.size, fun k hk _ => b.block k hk⟩
theorem own_formS {w : World} {base n : Nat} {e : TypeId} {v : Value} {ys : List Value} (h : w.ownsRow base e 1 v n ys) : (v = .slice none 0 0 ∧ n = 0) ∨ ∃ g cap, v = .slice (some ⟨g, 0, none⟩) n cap := by
  rcases h.2 with h | ⟨g, cap, cur, hv, _⟩
  · exact .inl h
  · exact .inr ⟨g, cap, hv⟩
theorem eqS_zero {a b : Option Addr} {k1 k2 : Nat} (w : World) : Calls Tryd.prog 34 #[.slice a 0 k1, .slice b 0 k2] w (RB true w) := by
  go_enter Tryd.func34, Tryd.ntmps34
  go_wp2
  go_loopw [5] (fun i wr => i = .int .i64 0 ∧ Drew w wr) (fun _ _ => 0)
  case atStart => exact ⟨rfl, (by repeat (first | exact Drew.refl _ | refine Drew.more ?_))⟩
  case round =>
    obtain ⟨rfl, q, rfl⟩ := hrel
    go_wp2
    go_ret
    exact RB.any rfl (by repeat (first | exact Drew.refl _ | refine Drew.more ?_))
set_option maxHeartbeats 2000000 in
theorem eqS_any {g1 g2 n k1 k2 : Nat} {L : List (List UInt8)} (w : World) (h1 : TRow w g1 L) (h2 : TRow w g2 L) (hn : n = L.length) (hl : n ≤ 1048576) : Calls Tryd.prog 34 #[.slice (some ⟨g1, 0, none⟩) n k1, .slice (some ⟨g2, 0, none⟩) n k2] w (RB true w) := by
  subst hn
  have H1 := Hf.mk h1
  have H2 := Hf.mk h2
  clear h1 h2
  go_enter Tryd.func34, Tryd.ntmps34
  go_wp2
  go_loopw [5] (fun i wr => ∃ m : Nat, m ≤ L.length ∧ i = .int .i64 m ∧ Drew w wr) (fun i _ => L.length - (intOf i).toNat)
  case atStart => exact ⟨0, by omega, rfl, (by repeat (first | exact Drew.refl _ | refine Drew.more ?_))⟩
  case round =>
    obtain ⟨m, hm, rfl, q, rfl⟩ := hrel
    by_cases hlt : m < L.length
    · have c1 := H1.out m hlt
      have c2 := H2.out m hlt
      have hD1 : ∀ (W : World) (x : Addr), W.drew.cell? x = W.cell? x := fun _ _ => rfl
      have hD2 : ∀ (W : World) (n : Nat) (x : Addr), (W.drewN n).cell? x = W.cell? x := fun _ _ _ => rfl
      generalize L.getD m [] = y at *
      go_wp2
      go_region
      all_goals go_wp2
      all_goals go_roundw
      all_goals first | exact ⟨m + 1, by omega, i_ext2 (by omega), ⟨_, rfl⟩⟩ | (simp [intOf]; omega)
    · obtain rfl : m = L.length := by omega
      go_wp2
      go_ret
      exact RB.any rfl (by repeat (first | exact Drew.refl _ | refine Drew.more ?_))
theorem eqS_own {b1 b2 n m : Nat} {T1 T2 : TypeId} {v1 v2 : Value} {L : List (List UInt8)} (w : World) (h1 : w.ownsRow b1 T1 1 v1 n (sRow L)) (h2 : w.ownsRow b2 T2 1 v2 m (sRow L)) (hl : L.length ≤ 1048576) : Calls Tryd.prog 34 #[v1, v2] w (RB true w) := by
  have e1 : n = L.length := by have := h1.1; rw [sRow_len] at this; omega
  have e2 : m = L.length := by have := h2.1; rw [sRow_len] at this; omega
  have hnm : n = m := by omega
  clear e2
  subst hnm
  rcases own_formS h1 with ⟨rfl, h0⟩ | ⟨g1, k1, rfl⟩
  · subst h0
    rcases own_formS h2 with ⟨rfl, _⟩ | ⟨g2, k2, rfl⟩
    · exact eqS_zero w
    · exact eqS_zero w
  · rcases own_formS h2 with ⟨rfl, h0⟩ | ⟨g2, k2, rfl⟩
    · subst h0
      exact eqS_zero w
    · exact eqS_any w (trow_own h1) (trow_own h2) e1 (by omega)
set_option maxHeartbeats 4000000 in
theorem markS_any {g n cap base : Nat} {cur : List Value} {k : Int} (w : World) (ho : w.ownsRow base 9 1 (.slice (some ⟨g, 0, none⟩) n cap) n cur) (hl : n ≤ 1048576) (hk0 : 1 ≤ k) (hk1 : k ≤ 2097152) : Calls Tryd.prog 37 #[.slice (some ⟨g, 0, none⟩) n cap, .int .i64 k] w (fun e w' => e = .returned (.int .i64 (k + (n : Int))) ∧ TRow w' g (mTs k n) ∧ w.grownBy w' (some g)) := by
  have HO := Hf.mk ho
  clear ho
  go_enter Tryd.func37, Tryd.ntmps37
  go_wp2
  go_loopw [5, 1] (fun i kk wr => ∃ (m : Nat) (cu : List Value), m ≤ n ∧ i = .int .i64 m ∧ kk = .int .i64 (k + (m : Int)) ∧ Hf (wr.ownsRow base 9 1 (.slice (some ⟨g, 0, none⟩) n cap) n cu) ∧ Hf (∀ j, j < m → cu[j]? = some (.string (ofL (mT (k + (j : Int)))))) ∧ Hf (w.grownBy wr (some g))) (fun i _ _ => n - (intOf i).toNat)
  case atStart => exact ⟨0, _, by omega, rfl, i_ext2 (by omega), HO, ⟨fun j hj => absurd hj (Nat.not_lt_zero j)⟩, ⟨gb_refl _ _⟩⟩
  case round =>
    obtain ⟨m, cu, hm, rfl, rfl, hown, hcur, hgb⟩ := hrel
    by_cases hlt : m < n
    · have hlen : cu.length = n * 1 := hown.out.1
      obtain ⟨old0, hold0⟩ : ∃ old, cu[m]? = some old := ⟨_, List.getElem?_eq_getElem (by omega)⟩
      have KT := Hf.mk (fun w => markText_any (k := k + (m : Int)) (by omega) (by omega) w)
      have HT := Hf.mk (show ofL (mT (k + (m : Int))) = ofL (mT (k + (m : Int))) from rfl)
      generalize hy : ofL (mT (k + (m : Int))) = y at KT HT
      go_wp2_with (go_at_call 71; refine (KT.out _).mono ?_; rintro e w2 ⟨rfl, b2⟩; have O2 := Hf.mk (cu_below hown.out b2); have G2 := Hf.mk (gb_trans hgb.out (sgb_below b2)); have d0 : w2.cell? ⟨g, m, none⟩ = some old0 := (O2.out.cellAt m (by omega)).trans hold0; have z0 := O2.out.frozenAt m; clear b2)
      go_roundw
      case rel =>
        have hst := O2.out.stored m (.string y)
        refine ⟨m + 1, _, by omega, i_ext2 (by omega), i_ext2 (by omega), ⟨hst.1⟩, ⟨fun j hj => ?_⟩, ⟨gb_trans G2.out hst.2⟩⟩
        by_cases he : j = m
        · subst he; rw [List.getElem?_set_self (by omega), hy]
        · rw [List.getElem?_set_ne (by omega)]; exact hcur.out j (by omega)
      case measure => simp [intOf]; omega
    · obtain rfl : m = n := by omega
      go_wp2
      go_ret
      refine ⟨rfl, ?_, hgb.out⟩
      intro j hj
      rw [mTs_len] at hj
      rw [hown.out.cellAt j (by omega), mTs_at hj]
      exact hcur.out j hj
theorem markS_nil {k : Int} (w : World) : Calls Tryd.prog 37 #[.slice none 0 0, .int .i64 k] w (RI .i64 k w) := by
  go_enter Tryd.func37, Tryd.ntmps37
  go_wp2
  go_loopw [5, 1] (fun i kk wr => i = .int .i64 0 ∧ kk = .int .i64 k ∧ Drew w wr) (fun _ _ _ => 0)
  case atStart => exact ⟨rfl, rfl, (by repeat (first | exact Drew.refl _ | refine Drew.more ?_))⟩
  case round =>
    obtain ⟨rfl, rfl, q, rfl⟩ := hrel
    go_wp2
    go_ret
    exact RI.any rfl (by repeat (first | exact Drew.refl _ | refine Drew.more ?_))
/-- 'these are marks' -/
def QS (w : World) (v : Value) (n : Nat) (k : Int) : Prop := (v = .slice none 0 0 ∧ n = 0) ∨ ∃ g cap, v = .slice (some ⟨g, 0, none⟩) n cap ∧ TRow w g (mTs k n)
theorem QS.below {w w' : World} {v : Value} {n : Nat} {k : Int} (h : QS w v n k) (b : Below w.heap.size w w') : QS w' v n k := by
  rcases h with h | ⟨g, cap, h1, h2⟩
  · exact .inl h
  · exact .inr ⟨g, cap, h1, h2.below b⟩
theorem markS_own {n base : Nat} {v : Value} {cur : List Value} {k : Int} (w : World) (ho : w.ownsRow base 9 1 v n cur) (hl : n ≤ 1048576) (hk0 : 1 ≤ k) (hk1 : k ≤ 2097152) : Calls Tryd.prog 37 #[v, .int .i64 k] w (fun e w' => e = .returned (.int .i64 (k + (n : Int))) ∧ QS w' v n k ∧ w.grownBy w' v.ownBlock) := by
  rcases own_formS ho with ⟨rfl, h0⟩ | ⟨g, cap, rfl⟩
  · subst h0
    refine (markS_nil w).mono ?_
    rintro e w' ⟨rfl, q, rfl⟩
    exact ⟨by simp, .inl ⟨rfl, rfl⟩, gb_drew _ _ _⟩
  · refine (markS_any (k := k) w ho hl hk0 hk1).mono ?_
    rintro e w' ⟨rfl, h1, h2⟩
    exact ⟨rfl, .inr ⟨g, cap, rfl, h1⟩, h2⟩
theorem heldS_nil {k : Int} (w : World) : Calls Tryd.prog 38 #[.slice none 0 0, .int .i64 k] w (RI .i64 k w) := by
  go_enter Tryd.func38, Tryd.ntmps38
  go_wp2
  go_loopw [5, 1] (fun i kk wr => i = .int .i64 0 ∧ kk = .int .i64 k ∧ Drew w wr) (fun _ _ _ => 0)
  case atStart => exact ⟨rfl, rfl, (by repeat (first | exact Drew.refl _ | refine Drew.more ?_))⟩
  case round =>
    obtain ⟨rfl, rfl, q, rfl⟩ := hrel
    go_wp2
    go_ret
    exact RI.any rfl (by repeat (first | exact Drew.refl _ | refine Drew.more ?_))
set_option maxHeartbeats 4000000 in
theorem heldS_any {g n cap : Nat} {k : Int} (w : World) (hr : TRow w g (mTs k n)) (hl : n ≤ 1048576) (hk0 : 1 ≤ k) (hk1 : k ≤ 2097152) : Calls Tryd.prog 38 #[.slice (some ⟨g, 0, none⟩) n cap, .int .i64 k] w (RS (.int .i64 (k + (n : Int))) w) := by
  have HR := Hf.mk hr
  clear hr
  go_enter Tryd.func38, Tryd.ntmps38
  go_wp2
  go_loopw [5, 1] (fun i kk wr => ∃ m : Nat, m ≤ n ∧ i = .int .i64 m ∧ kk = .int .i64 (k + (m : Int)) ∧ Hb (Below w.heap.size w wr)) (fun i _ _ => n - (intOf i).toNat)
  case atStart => exact ⟨0, by omega, rfl, i_ext2 (by omega), ⟨(by repeat (first | exact Below.refl _ _ | with_reducible assumption | refine Below.drews ?_ | refine Below.drew ?_ | refine Below.alloc ?_ (by simp <;> omega) _ | refine Below.setCell ?_ (by simp <;> omega) _))⟩⟩
  case round =>
    obtain ⟨m, hm, rfl, rfl, hB⟩ := hrel
    by_cases hlt : m < n
    · have c0 : wr.cell? ⟨g, m, none⟩ = some (.string (ofL (mT (k + (m : Int))))) := by
        have c0 := (HR.out.below hB.out) m (by rw [mTs_len]; exact hlt)
        rw [mTs_at hlt] at c0
        exact c0
      have KT := Hf.mk (fun w => markText_any (k := k + (m : Int)) (by omega) (by omega) w)
      generalize ofL (mT (k + (m : Int))) = y at *
      have hD1 : ∀ (W : World) (x : Addr), W.drew.cell? x = W.cell? x := fun _ _ => rfl
      go_wp2
      go_region_with (go_at_call 71; refine (KT.out _).mono ?_; rintro e w2 ⟨rfl, b2⟩; have d0 : w2.cell? ⟨g, m, none⟩ = some (.string y) := Below.keep b2 c0; have B2 := Hb.mk (Below.on (B := w.heap.size) (a := w) (by repeat (first | exact hB.out | refine Below.drews ?_ | refine Below.drew ?_ | refine Below.alloc ?_ (by have hq_ := hB.out.size; first | omega | (simp <;> omega)) _ | refine Below.setCell ?_ (by have hq_ := hB.out.size; first | omega | (simp <;> omega)) _)) b2 (by have hq_ := hB.out.size; first | omega | (simp <;> omega))); clear b2)
      all_goals go_wp2
      all_goals go_roundw
      all_goals first | exact ⟨m + 1, by omega, i_ext2 (by omega), i_ext2 (by omega), ⟨(by repeat (first | exact B2.out | refine Below.drews ?_ | refine Below.drew ?_ | refine Below.alloc ?_ (by have hq_ := B2.out.size; first | omega | (simp <;> omega)) _ | refine Below.setCell ?_ (by have hq_ := B2.out.size; first | omega | (simp <;> omega)) _))⟩⟩ | (simp [intOf]; omega)
    · obtain rfl : m = n := by omega
      go_wp2
      go_ret
      exact ⟨rfl, (by repeat (first | exact hB.out | refine Below.drews ?_ | refine Below.drew ?_ | refine Below.alloc ?_ (by have hq_ := hB.out.size; first | omega | (simp <;> omega)) _ | refine Below.setCell ?_ (by have hq_ := hB.out.size; first | omega | (simp <;> omega)) _))⟩
theorem heldS_own {n : Nat} {v : Value} {k : Int} (w : World) (h : QS w v n k) (hl : n ≤ 1048576) (hk0 : 1 ≤ k) (hk1 : k ≤ 2097152) : Calls Tryd.prog 38 #[v, .int .i64 k] w (RS (.int .i64 (k + (n : Int))) w) := by
  rcases h with ⟨rfl, h0⟩ | ⟨g, cap, rfl, h1⟩
  · subst h0
    refine (heldS_nil w).mono ?_
    rintro e w' ⟨rfl, q, rfl⟩
    exact ⟨by simp, (by repeat (first | exact Below.refl _ _ | with_reducible assumption | refine Below.drews ?_ | refine Below.drew ?_ | refine Below.alloc ?_ (by simp <;> omega) _ | refine Below.setCell ?_ (by simp <;> omega) _))⟩
  · exact heldS_any w h1 hl hk0 hk1
end Go.Proofs.YtcgakdgfmhkpjaaDoor
