/-
Lists of places as a law compares, marks and looks at them: any capacity, empty ones too.
ReadPlaces: numbers; the model.
A region that draws its order, within a round of a range over a function, by the plain laws ('wpAny'): at the wide fence. slices.Chunk over a list of floats, by twos: what its iterator hands on. ReadPlaces of the program: a range over slices.Chunk whose body appends.
ReadPlaces: the law.
-/
import Derived.Test.YtcgakdgfmhkpjaaDoorRgn
import Derived.Test.YtcgakdgfmhkpjaaDoorPle
import Derived.Deep.RegionHeld3
import Derived.Deep.AppendLies
import Derived.RangeFuncNested
import Derived.RangeFuncBound
import Derived.RangeFuncBox
import Derived.RangeFuncCalls
import Derived.RangeFuncLeaves
import Derived.Shelf.Abstract
import Derived.Shelf.RegionOpen
import Derived.WalkKit
import Derived.OwnWalkIn
import Derived.TacticsInMore
import Derived.LoopNIn
import Derived.LoopIn
import Derived.Maps.AppendAt
namespace Go.Proofs.YtcgakdgfmhkpjaaDoor
open Go Go.RowKit
set_option maxRecDepth 100000

/-- 'a list of places and a bool, the list its own' -/
def RPl (T : TypeId) (ok : Bool) (n : Nat) (ys : List Nat) (w : World) (e : Ending) (w' : World) : Prop := (∃ v, e = .returned (.tuple #[v, .bool ok]) ∧ w'.ownsRow w.heap.size T 2 v n (fls ys)) ∧ Below w.heap.size w w'
theorem RPl.nilP {T : TypeId} {w w' : World} (b : Below w.heap.size w w') : RPl T false 0 [] w (.returned (.tuple #[.slice none 0 0, .bool false])) w' := ⟨⟨_, rfl, World.ownsRow_nil _ _ _ _⟩, b⟩
theorem own_formP {w : World} {base n z : Nat} {e : TypeId} {v : Value} {ys : List Value} (h : w.ownsRow base e z v n ys) : (v = .slice none 0 0 ∧ n = 0) ∨ ∃ g cap, v = .slice (some ⟨g, 0, none⟩) n cap := by
  rcases h.2 with h | ⟨g, cap, cur, hv, _⟩
  · exact .inl h
  · exact .inr ⟨g, cap, hv⟩
theorem frow_ownP {w : World} {base g n cap : Nat} {ys : List Nat} {e : TypeId} (hn : ys.length = 2 * n) (h : w.ownsRow base e 2 (.slice (some ⟨g, 0, none⟩) n cap) n (fls ys)) : FRow w (some ⟨g, 0, none⟩) ys := by
  intro i hi
  refine ⟨_, rfl, ?_⟩
  have := h.cellAt i (by omega)
  rw [add_at, this]
  simp [fls, List.getElem?_map, List.getElem?_eq_getElem hi]
theorem placesLen {w : World} {base n : Nat} {ys : List Nat} {v : Value} {e : TypeId} (h : w.ownsRow base e 2 v n (fls ys)) : ys.length = 2 * n := by
  have := h.1
  rw [fls_len] at this
  omega
theorem eqP_zero {a b : Option Addr} {k1 k2 : Nat} (w : World) : Calls Tryd.prog 14 #[.slice a 0 k1, .slice b 0 k2] w (RS (.bool true) w) := by
  go_enter Tryd.func14, Tryd.ntmps14
  go_wp2
  go_loopw [5] (fun i wr => i = .int .i64 0 ∧ Drew w wr) (fun _ _ => 0)
  case atStart => exact ⟨rfl, (by repeat (first | exact Drew.refl _ | refine Drew.more ?_))⟩
  case round =>
    obtain ⟨rfl, q, rfl⟩ := hrel
    go_wp2
    go_ret
    exact ⟨rfl, (by repeat (first | exact Below.refl _ _ | with_reducible assumption | refine Below.drews ?_ | refine Below.drew ?_ | refine Below.alloc ?_ (by simp <;> omega) _ | refine Below.setCell ?_ (by simp <;> omega) _))⟩
set_option maxHeartbeats 4000000 in
theorem eqPC_any {g1 g2 n k1 k2 : Nat} {ys : List Nat} (w : World) (h1 : FRow w (some ⟨g1, 0, none⟩) ys) (h2 : FRow w (some ⟨g2, 0, none⟩) ys) (hw : Wf ys) (hn : ys.length = 2 * n) (hl : n ≤ 1048576) : Calls Tryd.prog 14 #[.slice (some ⟨g1, 0, none⟩) n k1, .slice (some ⟨g2, 0, none⟩) n k2] w (RS (.bool true) w) := by
  have H1 := Hf.mk h1
  have H2 := Hf.mk h2
  have HW := Hf.mk hw
  have HN := Hf.mk hn
  clear h1 h2 hw hn
  go_enter Tryd.func14, Tryd.ntmps14
  go_wp2
  go_loopw [5] (fun i wr => ∃ m : Nat, m ≤ n ∧ i = .int .i64 m ∧ Hf (Below w.heap.size w wr)) (fun i _ => n - (intOf i).toNat)
  case atStart => exact ⟨0, by omega, rfl, ⟨(by repeat (first | exact Below.refl _ _ | with_reducible assumption | refine Below.drews ?_ | refine Below.drew ?_ | refine Below.alloc ?_ (by simp <;> omega) _ | refine Below.setCell ?_ (by simp <;> omega) _))⟩⟩
  case round =>
    obtain ⟨m, hm, rfl, hb⟩ := hrel
    by_cases hlt : m < n
    · obtain ⟨c0, c1⟩ := (H1.out.below hb.out).twoAt HN.out hlt
      obtain ⟨d0, d1⟩ := (H2.out.below hb.out).twoAt HN.out hlt
      have KE := Hb.mk (eqPlace_any (flN HW.out HN.out hlt) (flE HW.out HN.out hlt) (flN HW.out HN.out hlt) (flE HW.out HN.out hlt))
      have BR := Hb.mk hb.out
      go_wp2
      refine region_all (by kernel_rfl) (by kernel_rfl) (fun I F hne HB hcl => ?_)
      have p0 := keepF HB c0
      have p1 := keepF HB c1
      have q0 := keepF HB d0
      have q1 := keepF HB d1
      repeat (quiet_step (first | (go_at_call 44; exact callS hcl (KE.out _))))
      refine wpQuiet_nil ?_
      intro _ hw'
      obtain ⟨iq, rfl⟩ := hw'
      clear hcl
      have E1 := Hb.mk (HB.out iq)
      have sB := BR.out.size
      clear p0 p1 q0 q1
      go_wp2
      go_roundw
      case rel => exact ⟨m + 1, by omega, i_ext2 (by omega), ⟨(by repeat (first | exact Below.refl _ _ | refine Below.on ?_ E1.out (by first | omega | (simp <;> omega)) | exact BR.out | refine Below.drews ?_ | refine Below.drew ?_ | refine Below.alloc ?_ (by first | omega | (simp <;> omega)) _ | refine Below.setCell ?_ (by first | omega | (simp <;> omega)) _))⟩⟩
      case measure => simp [intOf]; omega
    · obtain rfl : m = n := by omega
      go_wp2
      go_ret
      exact ⟨rfl, hb.out⟩
theorem eqP_own {b1 b2 n m : Nat} {T1 T2 : TypeId} {v1 v2 : Value} {ys : List Nat} (w : World) (h1 : w.ownsRow b1 T1 2 v1 n (fls ys)) (h2 : w.ownsRow b2 T2 2 v2 m (fls ys)) (hw : Wf ys) (hl : n ≤ 1048576) : Calls Tryd.prog 14 #[v1, v2] w (RS (.bool true) w) := by
  have e1 := placesLen h1
  have e2 := placesLen h2
  obtain rfl : n = m := by omega
  rcases own_formP h1 with ⟨rfl, h0⟩ | ⟨g1, k1, rfl⟩
  · subst h0
    rcases own_formP h2 with ⟨rfl, _⟩ | ⟨g2, k2, rfl⟩
    · exact eqP_zero w
    · exact eqP_zero w
  · rcases own_formP h2 with ⟨rfl, h0⟩ | ⟨g2, k2, rfl⟩
    · subst h0
      exact eqP_zero w
    · exact eqPC_any w (frow_ownP e1 h1) (frow_ownP e1 h2) hw e1 hl
set_option maxHeartbeats 1000000 in
theorem markPl_any {g n cap base : Nat} {cur : List Value} {k : Int} (w : World) (ho : w.ownsRow base 60 2 (.slice (some ⟨g, 0, none⟩) n cap) n cur) (hl : n ≤ 1048576) (hk0 : 0 ≤ k) (hk1 : k ≤ 8388608) : Calls Tryd.prog 17 #[.slice (some ⟨g, 0, none⟩) n cap, .int .i64 k] w (fun e w' => e = .returned (.int .i64 (k + 2 * (n : Int))) ∧ Told w' g (2 * n) (sqI k) ∧ w.grownBy w' (some g)) := by
  have HO := Hf.mk ho
  clear ho
  go_enter Tryd.func17, Tryd.ntmps17
  go_wp2
  go_loopw [5, 1] (fun i kk wr => ∃ (m : Nat) (cu : List Value), m ≤ n ∧ i = .int .i64 m ∧ kk = .int .i64 (k + 2 * (m : Int)) ∧ Hf (wr.ownsRow base 60 2 (.slice (some ⟨g, 0, none⟩) n cap) n cu) ∧ Hf (∀ j, j < 2 * m → cu[j]? = some (.float .f32 (sqI k j))) ∧ Hf (w.grownBy wr (some g))) (fun i _ _ => n - (intOf i).toNat)
  case atStart => exact ⟨0, _, by omega, rfl, i_ext2 (by omega), HO, ⟨fun j hj => absurd hj (Nat.not_lt_zero j)⟩, ⟨gb_refl _ _⟩⟩
  case round =>
    obtain ⟨m, cu, hm, rfl, rfl, hown, hcur, hgb⟩ := hrel
    by_cases hlt : m < n
    · have hlen : cu.length = n * 2 := hown.out.1
      obtain ⟨old0, hold0⟩ : ∃ old, cu[m * 2]? = some old := ⟨_, List.getElem?_eq_getElem (by omega)⟩
      obtain ⟨old1, hold1⟩ : ∃ old, cu[m * 2 + 1]? = some old := ⟨_, List.getElem?_eq_getElem (by omega)⟩
      have d0 : wr.cell? ⟨g, m * 2, none⟩ = some old0 := (hown.out.cellAt (m * 2) (by omega)).trans hold0
      have d1 : wr.cell? ⟨g, m * 2 + 1, none⟩ = some old1 := (hown.out.cellAt (m * 2 + 1) (by omega)).trans hold1
      have z0 := hown.out.frozenAt (m * 2)
      have z1 := hown.out.frozenAt (m * 2 + 1)
      have HLen := Hf.mk hlen
      clear hold0 hold1 hlen
      go_wp2
      go_roundw
      case rel =>
        have s0 := hown.out.stored (m * 2) (.float .f32 (floatOfInt .f32 (k + 2 * (m : Int))))
        have s1 := s0.1.stored (m * 2 + 1) (.float .f32 (floatOfInt .f32 (k + 2 * (m : Int) + 1)))
        refine ⟨m + 1, _, by omega, i_ext2 (by omega), i_ext2 (by omega), ⟨s1.1⟩, ⟨fun j hj => ?_⟩, ⟨gb_trans hgb.out (gb_trans s0.2 s1.2)⟩⟩
        have hlen := HLen.out
        by_cases he : j = m * 2 + 1
        · subst he
          rw [List.getElem?_set_self (by simp; omega)]
          unfold sqI
          rw [show k + ((m * 2 + 1 : Nat) : Int) = k + 2 * (m : Int) + 1 by omega]
        · rw [List.getElem?_set_ne (by omega)]
          by_cases he2 : j = m * 2
          · subst he2
            rw [List.getElem?_set_self (by omega)]
            unfold sqI
            rw [show k + ((m * 2 : Nat) : Int) = k + 2 * (m : Int) by omega]
          · rw [List.getElem?_set_ne (by omega)]
            exact hcur.out j (by omega)
      case measure => simp [intOf]; omega
    · obtain rfl : m = n := by omega
      go_wp2
      go_ret
      refine ⟨rfl, fun j hj => ⟨sqI k j, ?_, Fl.ofInt _ _⟩, hgb.out⟩
      rw [hown.out.cellAt j (by omega)]
      exact hcur.out j hj
theorem markPl_nil {k : Int} (w : World) : Calls Tryd.prog 17 #[.slice none 0 0, .int .i64 k] w (RI .i64 k w) := by
  go_enter Tryd.func17, Tryd.ntmps17
  go_wp2
  go_loopw [5, 1] (fun i kk wr => i = .int .i64 0 ∧ kk = .int .i64 k ∧ Drew w wr) (fun _ _ _ => 0)
  case atStart => exact ⟨rfl, rfl, (by repeat (first | exact Drew.refl _ | refine Drew.more ?_))⟩
  case round =>
    obtain ⟨rfl, rfl, q, rfl⟩ := hrel
    go_wp2
    go_ret
    exact RI.any rfl (by repeat (first | exact Drew.refl _ | refine Drew.more ?_))
/-- 'these are marks' -/
def QP (w : World) (v : Value) (n : Nat) (k : Int) : Prop := (v = .slice none 0 0 ∧ n = 0) ∨ ∃ g cap, v = .slice (some ⟨g, 0, none⟩) n cap ∧ Told w g (2 * n) (sqI k)
theorem QP.below {w w' : World} {v : Value} {n : Nat} {k : Int} (h : QP w v n k) (b : Below w.heap.size w w') : QP w' v n k := by
  rcases h with h | ⟨g, cap, h1, h2⟩
  · exact .inl h
  · exact .inr ⟨g, cap, h1, h2.below b⟩
theorem markP_own {n base : Nat} {v : Value} {cur : List Value} {k : Int} (w : World) (ho : w.ownsRow base 60 2 v n cur) (hl : n ≤ 1048576) (hk0 : 0 ≤ k) (hk1 : k ≤ 2097152) : Calls Tryd.prog 17 #[v, .int .i64 k] w (fun e w' => e = .returned (.int .i64 (k + 2 * (n : Int))) ∧ QP w' v n k ∧ w.grownBy w' v.ownBlock) := by
  rcases own_formP ho with ⟨rfl, h0⟩ | ⟨g, cap, rfl⟩
  · subst h0
    refine (markPl_nil w).mono ?_
    rintro e w' ⟨rfl, q, rfl⟩
    exact ⟨by simp, .inl ⟨rfl, rfl⟩, gb_drew _ _ _⟩
  · refine (markPl_any (k := k) w ho hl hk0 (by omega)).mono ?_
    rintro e w' ⟨rfl, h1, h2⟩
    exact ⟨rfl, .inr ⟨g, cap, rfl, h1⟩, h2⟩
theorem heldPl_nil {k : Int} (w : World) : Calls Tryd.prog 18 #[.slice none 0 0, .int .i64 k] w (RI .i64 k w) := by
  go_enter Tryd.func18, Tryd.ntmps18
  go_wp2
  go_loopw [5, 1] (fun i kk wr => i = .int .i64 0 ∧ kk = .int .i64 k ∧ Drew w wr) (fun _ _ _ => 0)
  case atStart => exact ⟨rfl, rfl, (by repeat (first | exact Drew.refl _ | refine Drew.more ?_))⟩
  case round =>
    obtain ⟨rfl, rfl, q, rfl⟩ := hrel
    go_wp2
    go_ret
    exact RI.any rfl (by repeat (first | exact Drew.refl _ | refine Drew.more ?_))
set_option maxHeartbeats 4000000 in
theorem heldPl_any {g n cap : Nat} {k : Int} (w : World) (hr : Told w g (2 * n) (sqI k)) (hl : n ≤ 1048576) (hk0 : 0 ≤ k) (hk1 : k ≤ 2097152) : Calls Tryd.prog 18 #[.slice (some ⟨g, 0, none⟩) n cap, .int .i64 k] w (RI .i64 (k + 2 * (n : Int)) w) := by
  have HR := Hf.mk hr
  clear hr
  go_enter Tryd.func18, Tryd.ntmps18
  go_wp2
  go_loopw [5, 1] (fun i kk wr => ∃ m : Nat, m ≤ n ∧ i = .int .i64 m ∧ kk = .int .i64 (k + 2 * (m : Int)) ∧ Drew w wr) (fun i _ _ => n - (intOf i).toNat)
  case atStart => exact ⟨0, by omega, rfl, i_ext2 (by omega), (by repeat (first | exact Drew.refl _ | refine Drew.more ?_))⟩
  case round =>
    obtain ⟨m, hm, rfl, rfl, q, rfl⟩ := hrel
    by_cases hlt : m < n
    · obtain ⟨r, hc, hf⟩ := HR.out (m * 2) (by omega)
      obtain rfl : sqI k (m * 2) = r := (hf.word (nearest_notN .f32 _)).symm
      have hs := order_self (k := .f32) (x := sqI k (m * 2)) (nearest_notN .f32 _)
      obtain ⟨r1, hc1, hf1⟩ := HR.out (m * 2 + 1) (by omega)
      obtain rfl : sqI k (m * 2 + 1) = r1 := (hf1.word (nearest_notN .f32 _)).symm
      have hs1 := order_self (k := .f32) (x := sqI k (m * 2 + 1)) (nearest_notN .f32 _)
      have e0 : sqI k (m * 2) = floatOfInt .f32 (k + 2 * (m : Int)) := by unfold sqI; rw [show k + ((m * 2 : Nat) : Int) = k + 2 * (m : Int) by omega]
      have e1 : sqI k (m * 2 + 1) = floatOfInt .f32 (k + 2 * (m : Int) + 1) := by unfold sqI; rw [show k + ((m * 2 + 1 : Nat) : Int) = k + 2 * (m : Int) + 1 by omega]
      rw [e0] at hc hs
      rw [e1] at hc1 hs1
      clear hf hf1 e0 e1
      go_wp2
      go_roundw
      case rel => exact ⟨m + 1, by omega, i_ext2 (by omega), i_ext2 (by omega), (by repeat (first | exact Drew.refl _ | refine Drew.more ?_))⟩
      case measure => simp [intOf]; omega
    · obtain rfl : m = n := by omega
      go_wp2
      go_ret
      exact RI.any rfl (by repeat (first | exact Drew.refl _ | refine Drew.more ?_))
theorem heldP_own {n : Nat} {v : Value} {k : Int} (w : World) (h : QP w v n k) (hl : n ≤ 1048576) (hk0 : 0 ≤ k) (hk1 : k ≤ 2097152) : Calls Tryd.prog 18 #[v, .int .i64 k] w (RI .i64 (k + 2 * (n : Int)) w) := by
  rcases h with ⟨rfl, h0⟩ | ⟨g, cap, rfl, h1⟩
  · subst h0
    refine (heldPl_nil w).mono ?_
    rintro e w' ⟨rfl, q, rfl⟩
    exact ⟨by simp, q, rfl⟩
  · exact heldPl_any w h1 hl hk0 hk1
end Go.Proofs.YtcgakdgfmhkpjaaDoor
namespace Go.Proofs.YtcgakdgfmhkpjaaDoor
open Go Go.RowKit
set_option maxRecDepth 100000

def rpO (l : List UInt8) : Bool := rnO l && (decide ((rnX l).length % 2 = 0) && arePl (rnX l) ((rnX l).length / 2))
def rpN (l : List UInt8) : Nat := if rpO l then (rnX l).length / 2 else 0
def rpX (l : List UInt8) : List Nat := if rpO l then rnX l else []
theorem rp_no {l : List UInt8} (h : rpO l = false) : rpO l = false ∧ rpN l = 0 ∧ rpX l = [] := by
  unfold rpN rpX
  rw [h]
  exact ⟨rfl, rfl, rfl⟩
theorem rp_a {l : List UInt8} (h : rnO l = false) : rpO l = false ∧ rpN l = 0 ∧ rpX l = [] := rp_no (by unfold rpO; rw [h]; rfl)
theorem rp_b {l : List UInt8} (h : (rnX l).length % 2 ≠ 0) : rpO l = false ∧ rpN l = 0 ∧ rpX l = [] := rp_no (by unfold rpO; rw [decide_eq_false h]; simp)
theorem rp_c {l : List UInt8} (h : arePl (rnX l) ((rnX l).length / 2) = false) : rpO l = false ∧ rpN l = 0 ∧ rpX l = [] := rp_no (by unfold rpO; rw [h]; simp)
theorem rp_yes {l : List UInt8} (h0 : rnO l = true) (h1 : (rnX l).length % 2 = 0) (h2 : arePl (rnX l) ((rnX l).length / 2) = true) : rpO l = true ∧ rpN l = (rnX l).length / 2 ∧ rpX l = rnX l := by
  have h : rpO l = true := by unfold rpO; rw [h0, decide_eq_true h1, h2]; rfl
  unfold rpN rpX
  rw [h]
  exact ⟨rfl, rfl, rfl⟩
theorem hwOk_wf {l : List UInt8} (h : hwOk l = true) : (Lit.float .f32 (hval l)).wf = true := by
  unfold hwOk at h
  rw [Bool.and_eq_true, Bool.and_eq_true, List.all_eq_true, decide_eq_true_eq, decide_eq_true_eq] at h
  obtain ⟨h1, h2, _⟩ := h
  have h4 : hval l < 4294967296 := by
    have := hval_32 (l := l) (m := 8) h1 (Nat.le_refl _) (fun j hj => h2 _ (by rw [List.getD, List.getElem?_eq_getElem (by omega)]; exact List.getElem_mem _))
    rwa [List.take_of_length_le (by omega)] at this
  exact wf_of_lt .f32 _ (by show _ < 2 ^ 32; omega)
theorem rnX_wf (l : List UInt8) : Wf (rnX l) := by
  intro x hx
  unfold rnX at hx
  split at hx
  · simp at hx
  · split at hx
    · rename_i h
      unfold okF at h
      rw [Bool.and_eq_true, List.all_eq_true] at h
      unfold numF at hx
      rw [List.mem_map] at hx
      obtain ⟨y, hy, rfl⟩ := hx
      exact hwOk_wf (h.2 y hy)
    · simp at hx
theorem rpX_wf (l : List UInt8) : Wf (rpX l) := by
  unfold rpX
  split
  · exact rnX_wf l
  · intro x hx; simp at hx
theorem rpN_le (l : List UInt8) : rpN l ≤ 128 := by
  have := rnX_len l
  unfold rpN
  split <;> omega
theorem rpX_len (l : List UInt8) : (rpX l).length ≤ 256 := by
  have := rnX_len l
  unfold rpX
  split
  · exact this
  · exact Nat.zero_le _
theorem take_twoR {ys : List Nat} {i : Nat} (h1 : i + 1 < ys.length) : fls (ys.take i) ++ [.float .f32 (ys.getD i 0), .float .f32 (ys.getD (i + 1) 0)] = fls (ys.take (i + 2)) := by
  have h0 : i < ys.length := by omega
  have e : ys.take (i + 2) = ys.take i ++ [ys.getD i 0, ys.getD (i + 1) 0] := by
    have e1 := List.take_succ_eq_append_getElem h1
    have e0 := List.take_succ_eq_append_getElem h0
    rw [show i + 2 = i + 1 + 1 by omega, e1, e0, List.getD, List.getElem?_eq_getElem h0, List.getD, List.getElem?_eq_getElem h1, List.append_assoc]
    rfl
  rw [e]
  simp [fls]
theorem two_srcR (w : World) (x y : Value) (t : TypeId) : ∀ j u, [x, y][j]? = some u → (w.alloc (.cells #[x, y] t)).cell? ((⟨w.heap.size, 0, none⟩ : Addr).add j) = some u := by
  intro j u hj
  match j, hj with
  | 0, hj => simp at hj; subst hj; simp [Addr.add]
  | 1, hj => simp at hj; subst hj; simp [Addr.add]
  | j + 2, hj => simp at hj
theorem flt_twoR {x y : Nat} : ∀ u ∈ [Value.float .f32 x, Value.float .f32 y], u.oneCell' = true := by
  intro u hu
  simp at hu
  rcases hu with rfl | rfl <;> rfl
theorem own_neqR {w : World} {base : Nat} {e : TypeId} {size n g : Nat} {v : Value} {xs : List Value} (h : w.ownsRow base e size v n xs) (hg : g < base) : some g ≠ v.ownBlock := fun e => by have := cu_ge h e.symm; omega
theorem rown_lowerR {w : World} {base base' : Nat} {e : TypeId} {size n : Nat} {v : Value} {xs : List Value} (h : w.ownsRow base e size v n xs) (hb : base' ≤ base) : w.ownsRow base' e size v n xs := by
  obtain ⟨h0, h1⟩ := h
  refine ⟨h0, ?_⟩
  rcases h1 with h1 | ⟨g, cap, cur, hv, hg, hr⟩
  · exact .inl h1
  · exact .inr ⟨g, cap, cur, hv, Nat.le_trans hb hg, hr⟩
theorem fcellR {w : World} {base g n cap j : Nat} {e : TypeId} {xs : List Nat} (h : w.ownsRow base e 1 (.slice (some ⟨g, 0, none⟩) n cap) n (fls xs)) (hj : j < n) : w.cell? ⟨g, j, none⟩ = some (.float .f32 (xs.getD j 0)) := by
  have hl : n = xs.length := by have := h.1; rw [fls_len] at this; omega
  have hj2 : j < xs.length := by omega
  rw [h.cellAt j (by omega)]
  simp [fls, List.getElem?_map, List.getD, List.getElem?_eq_getElem hj2]
theorem l02AreC_any {g n c : Nat} {ys : List Nat} (w : World) (hr : FRow w (some ⟨g, 0, none⟩) ys) (hw : Wf ys) (hn : ys.length = 2 * n) (hl : n ≤ 1048576) : Calls Tryd.prog 39 #[.slice (some ⟨g, 0, none⟩) n c] w (RB (arePl ys n) w) := by
  have HR := Hf.mk hr
  have HW := Hf.mk hw
  have HN := Hf.mk hn
  clear hr hw hn
  go_enter Tryd.func39, Tryd.ntmps39
  go_wp2
  go_loopw [3] (fun i wr => ∃ m : Nat, m ≤ n ∧ i = .int .i64 m ∧ Hf (allV ys m = true) ∧ Drew w wr) (fun i _ => n - (intOf i).toNat)
  case atStart => exact ⟨0, by omega, rfl, ⟨rfl⟩, (by repeat (first | exact Drew.refl _ | refine Drew.more ?_))⟩
  case round =>
    obtain ⟨m, hm, rfl, ha, q, rfl⟩ := hrel
    by_cases hlt : m < n
    · obtain ⟨c0, c1⟩ := (HR.out.drew q).twoAt HN.out hlt
      have hv := l02IsAt_any (flN HW.out HN.out hlt) (flE HW.out HN.out hlt) (p := g) (o := m * 2) (w.drewN q) c0 c1
      cases hv1 : validC (nC ys m) (eC ys m)
      · rw [hv1] at hv
        have HV := Hf.mk hv
        have KR := Hf.mk (show arePl ys n = false by unfold arePl; rw [allV_no hlt hv1, Bool.and_false])
        clear hv
        go_wp2_with (first | (go_at_call 72; refine HV.out.mono ?_; rintro e w' ⟨rfl, n1, rfl⟩))
        go_ret
        rw [KR.out]
        exact RB.any rfl (by repeat (first | exact Drew.refl _ | refine Drew.more ?_))
      · rw [hv1] at hv
        have HV := Hf.mk hv
        have KS := Hf.mk (show allV ys (m + 1) = true by unfold allV; rw [ha.out, Bool.true_and]; exact hv1)
        clear hv
        go_wp2_with (first | (go_at_call 72; refine HV.out.mono ?_; rintro e w' ⟨rfl, n1, rfl⟩))
        go_roundw
        case rel => exact ⟨m + 1, by omega, i_ext2 (by omega), KS, (by repeat (first | exact Drew.refl _ | refine Drew.more ?_))⟩
        case measure => simp [intOf]; omega
    · obtain rfl : m = n := by omega
      by_cases h1 : 1 ≤ m
      · by_cases h2 : m ≤ 64
        · have KR := Hf.mk (show arePl ys m = true by unfold arePl; rw [ha.out, decide_eq_true ⟨h1, h2⟩]; rfl)
          go_wp2
          go_ret
          rw [KR.out]
          exact RB.any (by rw [decide_eq_true (by omega)]) (by repeat (first | exact Drew.refl _ | refine Drew.more ?_))
        · have KR := Hf.mk (show arePl ys m = false by unfold arePl; rw [decide_eq_false (by omega)]; rfl)
          go_wp2
          go_ret
          rw [KR.out]
          exact RB.any (by rw [decide_eq_false (by omega)]) (by repeat (first | exact Drew.refl _ | refine Drew.more ?_))
      · have KR := Hf.mk (show arePl ys m = false by unfold arePl; rw [decide_eq_false (by omega)]; rfl)
        go_wp2
        go_ret
        rw [KR.out]
        exact RB.any rfl (by repeat (first | exact Drew.refl _ | refine Drew.more ?_))
theorem l02Are_nil (w : World) : Calls Tryd.prog 39 #[.slice none 0 0] w (RB false w) := by
  go_enter Tryd.func39, Tryd.ntmps39
  go_wp2
  go_loopw [3] (fun i wr => i = .int .i64 0 ∧ Drew w wr) (fun _ _ => 0)
  case atStart => exact ⟨rfl, (by repeat (first | exact Drew.refl _ | refine Drew.more ?_))⟩
  case round =>
    obtain ⟨rfl, q, rfl⟩ := hrel
    go_wp2
    go_ret
    exact RB.any rfl (by repeat (first | exact Drew.refl _ | refine Drew.more ?_))
theorem iArePl_nil (w : World) : Calls Tryd.prog 42 #[.slice none 0 0] w (RS (.bool false) w) := by
  go_enter Tryd.func42, Tryd.ntmps42
  go_wp2
  go_ret
  exact ⟨rfl, Below.refl _ _⟩
set_option maxHeartbeats 1000000 in
theorem iArePlC_any {g n c : Nat} {ys : List Nat} (w : World) (hr : FRow w (some ⟨g, 0, none⟩) ys) (hw : Wf ys) (hn : ys.length = 2 * n) (hl : n ≤ 1048576) : Calls Tryd.prog 42 #[.slice (some ⟨g, 0, none⟩) n c] w (RS (.bool (arePl ys n)) w) := by
  have HR := Hf.mk hr
  have HW := Hf.mk hw
  have HN := Hf.mk hn
  clear hr hw hn
  by_cases h1 : 1 ≤ n
  · by_cases h2 : n ≤ 64
    · go_enter Tryd.func42, Tryd.ntmps42
      go_wp2
      go_loopw [15] (fun i wr => ∃ m : Nat, m ≤ n ∧ i = .int .i64 m ∧ Hf (allV ys m = true) ∧ Hf (Below w.heap.size w wr)) (fun i _ => n - (intOf i).toNat)
      case atStart => exact ⟨0, by omega, rfl, ⟨rfl⟩, ⟨(by repeat (first | exact Below.refl _ _ | with_reducible assumption | refine Below.drews ?_ | refine Below.drew ?_ | refine Below.alloc ?_ (by simp <;> omega) _ | refine Below.setCell ?_ (by simp <;> omega) _))⟩⟩
      case round =>
        obtain ⟨m, hm, rfl, ha, hb⟩ := hrel
        by_cases hlt : m < n
        · obtain ⟨c0, c1⟩ := (HR.out.below hb.out).twoAt HN.out hlt
          have hv := iValidPlace_any (flN HW.out HN.out hlt) (flE HW.out HN.out hlt)
          cases hv1 : validC (nC ys m) (eC ys m)
          · rw [hv1] at hv
            have HV := Hf.mk hv
            have KR := Hf.mk (show arePl ys n = false by unfold arePl; rw [allV_no hlt hv1, Bool.and_false])
            have BR := Hb.mk hb.out
            clear hv
            go_wp2_with (first | (go_at_call 74; refine (HV.out _).mono ?_; rintro e w1 ⟨rfl, b1⟩; have B1 := Hb.mk (Below.on (B := w.heap.size) (a := w) (by repeat (first | exact BR.out | refine Below.drews ?_ | refine Below.drew ?_ | refine Below.alloc ?_ (by have hq_ := BR.out.size; first | omega | (simp <;> omega)) _ | refine Below.setCell ?_ (by have hq_ := BR.out.size; first | omega | (simp <;> omega)) _)) b1 (by have hq_ := BR.out.size; first | omega | (simp <;> omega))); clear b1))
            go_ret
            rw [KR.out]
            exact ⟨rfl, (by repeat (first | exact Below.refl _ _ | exact B1.out | refine Below.drews ?_ | refine Below.drew ?_ | refine Below.alloc ?_ (by first | omega | (simp <;> omega)) _ | refine Below.setCell ?_ (by first | omega | (simp <;> omega)) _))⟩
          · rw [hv1] at hv
            have HV := Hf.mk hv
            have KS := Hf.mk (show allV ys (m + 1) = true by unfold allV; rw [ha.out, Bool.true_and]; exact hv1)
            have BR := Hb.mk hb.out
            clear hv
            go_wp2_with (first | (go_at_call 74; refine (HV.out _).mono ?_; rintro e w1 ⟨rfl, b1⟩; have B1 := Hb.mk (Below.on (B := w.heap.size) (a := w) (by repeat (first | exact BR.out | refine Below.drews ?_ | refine Below.drew ?_ | refine Below.alloc ?_ (by have hq_ := BR.out.size; first | omega | (simp <;> omega)) _ | refine Below.setCell ?_ (by have hq_ := BR.out.size; first | omega | (simp <;> omega)) _)) b1 (by have hq_ := BR.out.size; first | omega | (simp <;> omega))); clear b1))
            go_roundw
            case rel => exact ⟨m + 1, by omega, i_ext2 (by omega), KS, ⟨(by repeat (first | exact Below.refl _ _ | exact B1.out | refine Below.drews ?_ | refine Below.drew ?_ | refine Below.alloc ?_ (by first | omega | (simp <;> omega)) _ | refine Below.setCell ?_ (by first | omega | (simp <;> omega)) _))⟩⟩
            case measure => simp [intOf]; omega
        · obtain rfl : m = n := by omega
          have KR := Hf.mk (show arePl ys m = true by unfold arePl; rw [ha.out, decide_eq_true ⟨h1, h2⟩]; rfl)
          go_wp2
          go_ret
          rw [KR.out]
          exact ⟨rfl, hb.out⟩
    · have KR := Hf.mk (show arePl ys n = false by unfold arePl; rw [decide_eq_false (by omega)]; rfl)
      go_enter Tryd.func42, Tryd.ntmps42
      go_wp2
      go_ret
      rw [KR.out]
      exact ⟨rfl, Below.refl _ _⟩
  · have KR := Hf.mk (show arePl ys n = false by unfold arePl; rw [decide_eq_false (by omega)]; rfl)
    go_enter Tryd.func42, Tryd.ntmps42
    go_wp2
    go_ret
    rw [KR.out]
    exact ⟨rfl, Below.refl _ _⟩
theorem arePl_zero (ys : List Nat) : arePl ys 0 = false := by unfold arePl; rfl
set_option maxHeartbeats 4000000 in
theorem sRp_any {s : ByteArray} (hs : s.size ≤ 1048576) (w : World) : Calls Tryd.prog 45 #[.string s] w (RPl 60 (rpO s.data.toList) (rpN s.data.toList) (rpX s.data.toList) w) := by
  obtain ⟨i0, hi0, hz0, hz1, hz2⟩ := info_parts (P := Tryd.prog) (e := 60) (z := pl 0 0) (size := 2) (bytes := 8) (by kernel_rfl)
  have B0 := Hb.mk (Below.refl w.heap.size w)
  have KB := Hf.mk (fun w => sRn_any (s := s) hs w)
  have hA := @rp_a s.data.toList
  have hBb := @rp_b s.data.toList
  have hCc := @rp_c s.data.toList
  have hY := @rp_yes s.data.toList
  have hL := rnX_len s.data.toList
  have HW := Hf.mk (rnX_wf s.data.toList)
  generalize rnO s.data.toList = O at *
  generalize rnX s.data.toList = F at *
  generalize rpO s.data.toList = P at *
  generalize rpN s.data.toList = N at *
  generalize rpX s.data.toList = X at *
  cases O
  · obtain ⟨rfl, rfl, rfl⟩ := hA rfl
    clear hA hBb hCc hY
    go_enter Tryd.func45, Tryd.ntmps45
    go_wp2_with (go_at_call 78; refine (KB.out _).mono ?_; rintro e w1 ⟨⟨v1, rfl, o1⟩, b1⟩; have B1 := Hb.mk (Below.on (B := w.heap.size) (a := w) (by repeat (first | exact B0.out | refine Below.drews ?_ | refine Below.drew ?_ | refine Below.alloc ?_ (by have hq_ := B0.out.size; first | omega | (simp <;> omega)) _ | refine Below.setCell ?_ (by have hq_ := B0.out.size; first | omega | (simp <;> omega)) _)) b1 (by have hq_ := B0.out.size; first | omega | (simp <;> omega))); clear b1 o1)
    go_ret2
    exact RPl.nilP (by repeat (first | exact B1.out | refine Below.drews ?_ | refine Below.drew ?_ | refine Below.alloc ?_ (by have hq_ := B1.out.size; first | omega | (simp <;> omega)) _ | refine Below.setCell ?_ (by have hq_ := B1.out.size; first | omega | (simp <;> omega)) _))
  · by_cases h2 : F.length % 2 = 0
    · have hYY := Hf.mk (hY rfl h2)
      have hCC := Hf.mk hCc
      obtain ⟨n, hn⟩ : ∃ n, F.length = 2 * n := ⟨F.length / 2, by omega⟩
      have HN := Hf.mk hn
      have HD := Hf.mk (show F.length / 2 = n by omega)
      have hn1 : n ≤ 128 := by omega
      clear hA hBb hCc hY h2 hL
      have hm2 : (2 * (n : Int)).tmod 2 = 0 := by rw [Int.mul_comm]; exact Int.mul_tmod_left _ _
      have HLn := Hf.mk (show (fls F).length = 2 * n by rw [fls_len]; exact hn)
      clear hn
      go_enter Tryd.func45, Tryd.ntmps45
      go_wp2_with (go_at_call 78; refine (KB.out _).mono ?_; rintro e w1 ⟨⟨v1, rfl, o1⟩, b1⟩; rw [HLn.out] at o1; obtain ⟨a1, c1, rfl, hq1⟩ := frow_vown o1; clear hq1; have B1 := Hb.mk (Below.on (B := w.heap.size) (a := w) (by repeat (first | exact B0.out | refine Below.drews ?_ | refine Below.drew ?_ | refine Below.alloc ?_ (by have hq_ := B0.out.size; first | omega | (simp <;> omega)) _ | refine Below.setCell ?_ (by have hq_ := B0.out.size; first | omega | (simp <;> omega)) _)) b1 (by have hq_ := B0.out.size; first | omega | (simp <;> omega))); have O1 := Hf.mk o1; have LW := Hf.mk o1.lt; have S1 := b1.size; clear b1 o1)
      go_loopw [6, 7] (fun v c wr => ∃ (i j : Nat), Hf (i = 2 * j) ∧ i ≤ 2 * n ∧ c = .int .i64 i ∧ Hf (wr.ownsRow w1.heap.size 60 2 v j (fls (F.take i))) ∧ Hb (Below w1.heap.size w1 wr)) (fun _ c _ => 2 * n - (intOf c).toNat)
      case atStart => exact ⟨0, 0, ⟨rfl⟩, by omega, rfl, ⟨World.ownsRow_made _ _ _ (Nat.le_refl _) (by decide) rfl⟩, ⟨(by repeat (first | exact Below.refl _ _ | with_reducible assumption | refine Below.drews ?_ | refine Below.drew ?_ | refine Below.alloc ?_ (by simp <;> omega) _ | refine Below.setCell ?_ (by simp <;> omega) _))⟩⟩
      case round =>
        obtain ⟨i, j, hij, hi, rfl, hown, hB⟩ := hrel
        obtain ⟨W1, hW1⟩ : ∃ W1, W1 = wr := ⟨_, rfl⟩
        subst hW1
        have hsz := hB.out.size
        by_cases hlt : i < 2 * n
        · have hlt1 : i + 1 < 2 * n := by have := hij.out; omega
          rcases own_form O1.out with ⟨_, h0⟩ | ⟨g, k, hgk⟩
          · omega
          cases hgk
          have OW := cu_below O1.out hB.out
          have c0 := fcellR OW hlt
          have c1 := fcellR OW hlt1
          have c0w := fcellR O1.out hlt
          have hlb := World.block_lt_of_cell? W1 _ c0
          have HVn := Hf.mk (own_neqR hown.out (g := g) (by have := block_lt_of_cell c0w; simpa using this))
          have HT := Hf.mk (take_twoR (ys := F) (i := i) (by rw [HN.out]; exact hlt1))
          have HL := Hf.mk (show (fls (F.take i)).length = j * 2 by rw [fls_len, List.length_take]; have := HN.out; have := hij.out; omega)
          have HJ := Hf.mk (show j + 1 ≤ 128 by have := hij.out; omega)
          have hx0 : (0 : Int) ≤ (i : Int) + 1 := by omega
          have hx1 : (i : Int) + 1 < 2 * (n : Int) := by omega
          have hx2 : ((i : Int) + 1).toNat = i + 1 := by omega
          have hx3 : IntKind.i64.wrap ((i : Int) + 1) = (i : Int) + 1 := IntWalk.i64_in _ ⟨by omega, by omega⟩
          have hx4 : IntKind.i64.wrap (2 * (n : Int)) = 2 * (n : Int) := IntWalk.i64_in _ ⟨by omega, by omega⟩
          clear OW
          generalize F.getD i 0 = x at c0 HT
          generalize F.getD (i + 1) 0 = y at c1 HT
          go_wp2
          go_region_held3 (fun w' => w'.cell? ⟨g, i, none⟩ = some (.float .f32 x) ∧ w'.cell? ⟨g, i + 1, none⟩ = some (.float .f32 y)) (first | go_keep | (go_split_ands; refine ⟨?_, ?_⟩ <;> (rw [hgrow3.cell_far _ (by simp; omega) HVn.out]; simp [go_sem, c0, c1, hlb]))) ((refine step_append_lies _ (by rfl) _ _ _ (by rfl) w1.heap.size 60 i0 _ 2 8 Tryd.underlying26 hi0 hz0 hz1 hz2 rfl (by decide) _ j (fls (F.take i)) (by rfl) (cu_below hown.out (by repeat (first | exact Below.refl _ _ | with_reducible assumption | refine Below.drews ?_ | refine Below.drew ?_ | refine Below.alloc ?_ (by simp <;> omega) _ | refine Below.setCell ?_ (by simp <;> omega) _))) ⟨W1.heap.size, 0, none⟩ 1 1 [.float .f32 x, .float .f32 y] (by rfl) (by rfl) (two_srcR _ _ _ _) flt_twoR (by decide) (by have := HJ.out; unfold maxLen; omega) (by have := HJ.out; omega) (by first | omega | (simp <;> omega)) _ rfl ?_; intro g2 k2 w3 o3 hgrow3 hat hlt3))
          go_wp2
          go_roundw
          case rel =>
            refine ⟨i + 2, j + 1, ⟨by have := hij.out; omega⟩, by omega, i_ext2 (by omega), ⟨?_⟩, ⟨Below.grown (Below.drew (Below.alloc hB.out hsz _)) hgrow3 (by simp; omega) (fun k h => cu_ge hown.out h)⟩⟩
            rw [← HT.out]
            exact o3
          case measure => simp [intOf]; omega
        · obtain rfl : i = 2 * n := by omega
          obtain rfl : j = n := by have := hij.out; omega
          have OF := hown.out
          rw [List.take_of_length_le (by rw [HN.out]; exact Nat.le_refl _)] at OF
          have BB := Hb.mk (Below.on (B := w.heap.size) (a := w) B1.out hB.out B1.out.size)
          have OL := Hf.mk (rown_lowerR OF B1.out.size)
          rcases own_formP OF with ⟨rfl, h0⟩ | ⟨g, k, rfl⟩
          · subst h0
            obtain ⟨rfl, rfl, rfl⟩ := hCC.out (by rw [HD.out]; exact arePl_zero F)
            clear OF hCC hYY
            go_wp2_with (go_at_call 39; refine (l02Are_nil _).mono ?_; rintro e w' ⟨rfl, n1, rfl⟩)
            go_ret2
            exact RPl.nilP (by repeat (first | exact BB.out | refine Below.drews ?_ | refine Below.drew ?_ | refine Below.alloc ?_ (by have hq_ := BB.out.size; first | omega | (simp <;> omega)) _ | refine Below.setCell ?_ (by have hq_ := BB.out.size; first | omega | (simp <;> omega)) _))
          · have KA := Hf.mk (l02AreC_any W1 (c := k) (frow_ownP HN.out OF) HW.out HN.out (by omega))
            clear OF
            cases hb : arePl F j
            · rw [hb] at KA
              obtain ⟨rfl, rfl, rfl⟩ := hCC.out (by rw [HD.out]; exact hb)
              clear hCC hYY hb
              go_wp2_with (go_at_call 39; refine KA.out.mono ?_; rintro e w' ⟨rfl, n1, rfl⟩)
              go_ret2
              exact RPl.nilP (by repeat (first | exact BB.out | refine Below.drews ?_ | refine Below.drew ?_ | refine Below.alloc ?_ (by have hq_ := BB.out.size; first | omega | (simp <;> omega)) _ | refine Below.setCell ?_ (by have hq_ := BB.out.size; first | omega | (simp <;> omega)) _))
            · rw [hb] at KA
              obtain ⟨rfl, rfl, rfl⟩ := hYY.out (by rw [HD.out]; exact hb)
              clear hCC hYY hb
              go_wp2_with (go_at_call 39; refine KA.out.mono ?_; rintro e w' ⟨rfl, n1, rfl⟩)
              go_ret2
              refine ⟨⟨_, rfl, ?_⟩, (by repeat (first | exact BB.out | refine Below.drews ?_ | refine Below.drew ?_ | refine Below.alloc ?_ (by have hq_ := BB.out.size; first | omega | (simp <;> omega)) _ | refine Below.setCell ?_ (by have hq_ := BB.out.size; first | omega | (simp <;> omega)) _))⟩
              rw [HD.out]
              exact cu_below OL.out (by repeat (first | exact Below.refl _ _ | with_reducible assumption | refine Below.drews ?_ | refine Below.drew ?_ | refine Below.alloc ?_ (by simp <;> omega) _ | refine Below.setCell ?_ (by simp <;> omega) _))
    · obtain ⟨rfl, rfl, rfl⟩ := hBb h2
      obtain ⟨m, hm⟩ : ∃ m, m = F.length := ⟨_, rfl⟩
      have hm1 : (m : Int).tmod 2 = 1 := by rw [Int.tmod_eq_emod_of_nonneg (by omega)]; omega
      have hm3 : (m : Int) % 2 = 1 := by omega
      have HLn := Hf.mk (show (fls F).length = m by rw [fls_len, hm])
      clear hA hBb hCc hY h2 hm hL
      go_enter Tryd.func45, Tryd.ntmps45
      go_wp2_with (go_at_call 78; refine (KB.out _).mono ?_; rintro e w1 ⟨⟨v1, rfl, o1⟩, b1⟩; rw [HLn.out] at o1; obtain ⟨a1, c1, rfl, hq1⟩ := frow_vown o1; clear hq1; have B1 := Hb.mk (Below.on (B := w.heap.size) (a := w) (by repeat (first | exact B0.out | refine Below.drews ?_ | refine Below.drew ?_ | refine Below.alloc ?_ (by have hq_ := B0.out.size; first | omega | (simp <;> omega)) _ | refine Below.setCell ?_ (by have hq_ := B0.out.size; first | omega | (simp <;> omega)) _)) b1 (by have hq_ := B0.out.size; first | omega | (simp <;> omega))); clear b1 o1)
      go_ret2
      exact RPl.nilP (by repeat (first | exact B1.out | refine Below.drews ?_ | refine Below.drew ?_ | refine Below.alloc ?_ (by have hq_ := B1.out.size; first | omega | (simp <;> omega)) _ | refine Below.setCell ?_ (by have hq_ := B1.out.size; first | omega | (simp <;> omega)) _))
theorem sReadPlaces_any {s : ByteArray} (hs : s.size ≤ 1048576) (w : World) : Calls Tryd.prog 15 #[.string s] w (RPl 60 (rpO s.data.toList) (rpN s.data.toList) (rpX s.data.toList) w) := by
  have K := Hf.mk (sRp_any hs w)
  go_enter Tryd.func15, Tryd.ntmps15
  go_wp2_with (go_at_call 45; refine K.out.mono ?_; rintro e w1 ⟨⟨v1, rfl, o1⟩, b1⟩; have O1 := Hf.mk o1; have B1 := Hb.mk b1; clear o1 b1)
  go_ret2
  exact ⟨⟨_, rfl, O1.out⟩, B1.out⟩
end Go.Proofs.YtcgakdgfmhkpjaaDoor
namespace Go.Proofs.YtcgakdgfmhkpjaaDoor
open Go Go.RowKit
set_option maxRecDepth 100000

theorem oper_round {l n : Nat} {P : Program} {o : Oper} {a : Act} {w : World} {K : Act → World → Prop} {Q : Exit → Act → World → Prop} (hd : ∀ c, o.op ≠ .defer c) (h : Oper.wp P o a w K Q) : Oper.wpIn (Fence.wide.inRound l) n P o a w K Q := by
  refine ⟨fun _ _ => trivial, ?_⟩
  rw [Oper.semAt_plain _ _ _ hd]
  unfold Oper.wp at h
  generalize (execOp a.eval o).run P w = r at h ⊢
  match r, h with
  | .ok (.value v) w', h => exact h
  | .ok .skip w', h => exact h
  | .ok (.defer d) w', h => exact h
  | .ok (.enter f args) w', h => exact ⟨fun h => (by cases h), CallsIn.inRound l (callsIn_wide.2 (Calls.mono h fun e w' h => by cases e <;> exact h))⟩
  | .ok (.row row args) w', h => exact ⟨fun h => (by cases h), fun c cs _ => by obtain ⟨v, w', r, s⟩ := h c cs; exact ⟨v, w', r, stepsIn_wide.2 s⟩⟩
  | .halt (.panic v) w', h => exact h
def noDefer (ops : Array Oper) : Bool := ops.toList.all fun o => match o.op with
  | .defer _ => false
  | _ => true
theorem noDefer_at {ops : Array Oper} (h : noDefer ops = true) {i : Nat} {o : Oper} (ho : ops[i]? = some o) : ∀ c, o.op ≠ .defer c := by
  intro c e
  unfold noDefer at h
  rw [List.all_eq_true] at h
  have := h o (by have := Array.mem_of_getElem? ho; exact Array.mem_toList_iff.2 this)
  rw [e] at this
  cases this
theorem any_round {l n : Nat} {P : Program} {md : Region.Mode} {ops : Array Oper} {Q : Exit → Act → World → Prop} (hd : noDefer ops = true) (hL : ¬ LetsOut Q) : ∀ (fuel : Nat) (listed : Array Bool) (a : Act) (w : World), wpAny P md ops Q fuel listed a w → wpAnyIn (Fence.wide.inRound l) n P md ops Q fuel listed a w
  | 0, _, _, _, h => h
  | fuel + 1, listed, a, w, h => ⟨h.1, fun i hi => by
      have h2 := h.2 i hi
      unfold wpOp at h2
      unfold wpOpIn
      cases ho : ops[i]? with
      | none =>
        simp only [ho] at h2 ⊢
        exact any_round hd hL fuel _ _ _ h2
      | some o =>
        simp only [ho] at h2 ⊢
        split
        · rename_i hw
          rw [if_pos hw] at h2
          refine oper_round (noDefer_at hd ho) ?_
          exact Oper.wp_mono (fun a w h => any_round hd hL fuel _ a w h) (h2.resolve_right fun h => hL h.2)
        · rename_i hw
          rw [if_neg hw] at h2
          exact ⟨fun _ _ => trivial, any_round hd hL fuel _ _ _ h2⟩⟩
theorem region_round {l n id : Nat} {P : Program} {ops : Array Oper} {Q : Exit → Act → World → Prop} {a : Act} {w : World} (hm : P.follows .mixedOrders = true) (hd : noDefer ops = true) (hL : ¬ LetsOut Q) (h : wpAny P .any ops Q ops.size (Array.replicate ops.size false) a w.drew) : (Code.region id ops true).wpIn (Fence.wide.inRound l) n P Q a w :=
  wpIn_region_any hm (any_round hd hL _ _ _ _ h)
end Go.Proofs.YtcgakdgfmhkpjaaDoor
namespace Go.Proofs.YtcgakdgfmhkpjaaDoor
open Go Go.RowKit
set_option maxRecDepth 100000
attribute [local go_sem] Oper.semAt_some

/-- 'these three blocks lie as they lay' -/
def CK (b s t : Nat) (W W' : World) : Prop := W'.heap[b]? = W.heap[b]? ∧ W'.heap[s]? = W.heap[s]? ∧ W'.heap[t]? = W.heap[t]?
theorem CK.refl (b s t : Nat) (W : World) : CK b s t W W := ⟨rfl, rfl, rfl⟩
theorem CK.trans {b s t : Nat} {A B C : World} (h : CK b s t A B) (k : CK b s t B C) : CK b s t A C := ⟨k.1.trans h.1, k.2.1.trans h.2.1, k.2.2.trans h.2.2⟩
theorem CK.drew {b s t : Nat} {A B : World} (h : CK b s t A B) : CK b s t A B.drew := h
theorem CK.cellS {b s t : Nat} {A B : World} (h : CK b s t A B) : B.cell? ⟨s, 0, none⟩ = A.cell? ⟨s, 0, none⟩ := World.cell?_of_block (a := ⟨s, 0, none⟩) h.2.1
theorem CK.cellT {b s t : Nat} {A B : World} (h : CK b s t A B) : B.cell? ⟨t, 0, none⟩ = A.cell? ⟨t, 0, none⟩ := World.cell?_of_block (a := ⟨t, 0, none⟩) h.2.2
theorem CK.put {b s t : Nat} {w : World} (hb : b < w.heap.size) (hs : s < w.heap.size) (ht : t < w.heap.size) (W : World) (l : Nat) (o o' : Obj) (hl : w.heap.size ≤ l) (_ : W.heap[l]? = some o) (_ : o.isCells = false) (_ : o.isWalk = false) : CK b s t W (W.putObj l o') :=
  ⟨World.putObj_heap_other (by omega), World.putObj_heap_other (by omega), World.putObj_heap_other (by omega)⟩
set_option maxHeartbeats 4000000 in
theorem chunk1_in {n q : Nat} (l Bs Bn b cap : Nat) (a : Option Addr) (hn : n ≤ 1048576) (ha : 0 < n → a = some ⟨b, 0, none⟩) (hcap : 2 * n ≤ cap) (J Jx : List (Fin n) → World → Prop) (W : World)
    (hJ : AbidesFrom W.heap.size J)
    (hY : ∀ pre x W, J pre W → pre.length < n → YieldAt Fence.wide q Tryd.prog l #[.slice (some ⟨b, 2 * x.1, none⟩) 2 2] W fun e W' =>
      (e = .returned (.bool true) ∧ J (pre ++ [x]) W' ∧ CK b Bs Bn W W') ∨ (e = .returned (.bool false) ∧ Jx (pre ++ [x]) W'))
    (hBs : W.cell? ⟨Bs, 0, none⟩ = some (.slice a (2 * n) cap)) (hBn : W.cell? ⟨Bn, 0, none⟩ = some (.int .i64 2)) (h0 : J [] W) :
    CallsIn Fence.wide (q + 1) Tryd.prog 81 #[.func (.yield l) #[] #[], .pointer (some ⟨Bs, 0, none⟩), .pointer (some ⟨Bn, 0, none⟩)] W fun e W' => (∃ v, e = .returned v) ∧
      ((∃ ys : List (Fin n), ys.map (·.1) = List.range n ∧ J ys W') ∨ (∃ pre, True ∧ Jx pre W')) := by
  refine callsIn_of_wp Tryd.func81 rfl trivial ?_ rfl
  simp only [Tryd.ntmps81, List.size_toArray, List.length_cons, List.length_nil, Nat.reduceAdd, Nat.reduceSub, Array.replicate_succ, Array.replicate_zero, List.push_toArray, List.append_toArray, List.nil_append, List.cons_append]
  gi_wp2
  gi_loopw [4] (fun i wr => ∃ (k m : Nat) (pre : List (Fin n)), Hf (m = 2 * k) ∧ k ≤ n ∧ i = .int .i64 m ∧ Hf (pre.map (·.1) = List.range k) ∧ J pre wr ∧ Hf (CK b Bs Bn W wr) ∧ Hf (AbidesFrom W.heap.size J)) (fun i _ => 2 * n - (intOf i).toNat)
  case atStart => exact ⟨0, 0, [], ⟨rfl⟩, Nat.zero_le _, rfl, ⟨rfl⟩, h0, ⟨CK.refl _ _ _ _⟩, ⟨hJ⟩⟩
  case round =>
    obtain ⟨k, m, pre, hm, hk, rfl, hpre, hJs, hck, hab⟩ := hrel
    have c1 := hck.out.cellS.trans hBs
    have c2 := hck.out.cellT.trans hBn
    by_cases hlt : k < n
    · have hA := ha (by omega)
      subst hA
      have hml : m < 2 * n := by have := hm.out; omega
      have hml2 : m + 2 ≤ 2 * n := by have := hm.out; omega
      have hmin : min (2 : Int) ((2 * n - m : Nat) : Int) = 2 := by omega
      have htn : ((m : Int) + 2).toNat - m = 2 := by omega
      have hle : pre.length = k := by have := congrArg List.length hpre.out; simpa using this
      have hJd : J pre wr.drew := hab.out _ wr wr.drew none hJs (gb_drew _ 1 none) (fun r e => by cases e)
      obtain ⟨fn, tmps, assign, body, hy, hR⟩ := hY pre ⟨k, hlt⟩ wr.drew hJd (by omega)
      dsimp only at hy
      rw [← hm.out] at hy
      gi_wp2
      refine wpIn_wide.2 ?_
      go_region
      gi_wp2
      refine hR.mono ?_
      rintro e W3 (⟨rfl, hJ3, hk3⟩ | ⟨rfl, hJx3⟩)
      · have d2 := hk3.cellT.trans c2
        gi_wp2
        go_roundw
        case rel => exact ⟨k + 1, m + 2, _, ⟨by have := hm.out; omega⟩, by omega, i_ext2 (by omega), ⟨by rw [List.map_append, hpre.out, List.range_succ]; rfl⟩, hJ3, ⟨hck.out.drew.trans hk3⟩, hab⟩
        case measure => simp [intOf]; omega
      · gi_wp2
        refine bodyPost_ret (results_none rfl _ _ _) rfl ?_
        exact ⟨⟨_, rfl⟩, .inr ⟨_, trivial, hJx3⟩⟩
    · obtain rfl : k = n := by omega
      obtain rfl : m = 2 * k := hm.out
      gi_wp2
      go_end0
      exact ⟨⟨_, rfl⟩, .inl ⟨_, hpre.out, hJs⟩⟩
theorem chunk_any {a : Option Addr} {n cap : Nat} (w : World) : Calls Tryd.prog 47 #[.slice a n cap, .int .i64 2] w (fun e w' => e = .returned (.func (.func 81) #[] #[.pointer (some ⟨w.heap.size, 0, none⟩), .pointer (some ⟨w.heap.size + 1, 0, none⟩)]) ∧ w' = (w.alloc (.cells #[.slice a n cap] 34)).alloc (.cells #[.int .i64 2] 3)) := by
  go_enter Tryd.func47, Tryd.ntmps47
  go_wp2
  go_ret
  exact ⟨rfl, rfl⟩
end Go.Proofs.YtcgakdgfmhkpjaaDoor
namespace Go.Proofs.YtcgakdgfmhkpjaaDoor
open Go Go.RowKit
set_option maxRecDepth 100000

/-- the numbers of these pairs, in their order -/
def cont (F : List Nat) (js : List Nat) : List Nat := js.flatMap fun j => [F.getD (2 * j) 0, F.getD (2 * j + 1) 0]
theorem cont_snoc (F js : List Nat) (j : Nat) : fls (cont F (js ++ [j])) = fls (cont F js) ++ [.float .f32 (F.getD (2 * j) 0), .float .f32 (F.getD (2 * j + 1) 0)] := by simp [cont, fls]
theorem cont_range (F : List Nat) : ∀ n, 2 * n ≤ F.length → cont F (List.range n) = F.take (2 * n)
  | 0, _ => by simp [cont]
  | n + 1, h => by
    have e1 := List.take_succ_eq_append_getElem (l := F) (i := 2 * n + 1) (by omega)
    have e0 := List.take_succ_eq_append_getElem (l := F) (i := 2 * n) (by omega)
    have ih := cont_range F n (by omega)
    unfold cont at ih ⊢
    rw [List.range_succ, List.flatMap_append, ih, show 2 * (n + 1) = 2 * n + 1 + 1 by omega, e1, e0]
    rw [List.append_assoc]
    simp [List.getD, List.getElem?_eq_getElem (show 2 * n < F.length by omega), List.getElem?_eq_getElem (show 2 * n + 1 < F.length by omega), -List.take_append_getElem]
/-- A block that neither the append nor the store touches. -/
theorem ck3 {W w3 : World} {r : Option Nat} {o : Obj} {k a : Nat} {u : Value} (hg : (W.alloc o).grownBy w3 r) (hk : k < W.heap.size) (hr : some k ≠ r) (hne : k ≠ a) : (w3.setCell ⟨a, 0, none⟩ u).heap[k]? = W.heap[k]? :=
  (Below.heap_setCell w3 ⟨a, 0, none⟩ u k hne).trans ((hg.block k (by simp; omega) hr).trans (Below.heap_alloc W o k hk))
attribute [local go_sem] Oper.semAt_some
set_option maxHeartbeats 4000000 in
theorem iRpEven_any {n N : Nat} {P : Bool} {X : List Nat} {s : ByteArray} {F : List Nat} (hn : F.length = 2 * n) (hn1 : n ≤ 128) (w : World)
    (KB : Calls Tryd.prog 46 #[.string s] w (RLy 58 true (fls F) w)) (HW : Hf (Wf F)) (HNo : Hf (arePl F n = false → P = false ∧ N = 0 ∧ X = [])) (HYes : Hf (arePl F n = true → P = true ∧ N = n ∧ X = F)) :
    Calls Tryd.prog 16 #[.string s] w (RPl 60 P N X w) := by
  obtain ⟨i0, hi0, hz0, hz1, hz2⟩ := info_parts (P := Tryd.prog) (e := 60) (z := pl 0 0) (size := 2) (bytes := 8) (by kernel_rfl)
  have HN := Hf.mk hn
  have HLn := Hf.mk (show (fls F).length = 2 * n by rw [fls_len]; exact hn)
  have KC := Hf.mk (fun (a : Option Addr) (m c : Nat) w => chunk_any (a := a) (n := m) (cap := c) w)
  clear hn
  refine (callsIn_wide (n := 3)).1 ?_
  refine callsIn_of_wp_marks Tryd.func16 rfl trivial ?_ rfl
  simp only [Tryd.ntmps16, List.size_toArray, List.length_cons, List.length_nil, Nat.reduceAdd, Nat.reduceSub, Array.replicate_succ, Array.replicate_zero, List.push_toArray, List.append_toArray, List.nil_append, List.cons_append]
  gi_wp2_with (first
    | (refine ⟨trivial, ?_⟩; gi_at_call 46; refine (callsIn_wide.2 KB).mono ?_; rintro e w1 ⟨⟨v1, rfl, o1⟩, b1⟩; rw [HLn.out] at o1; obtain ⟨a1, c1, rfl, hq1⟩ := frow_vown o1; clear hq1; have O1 := Hf.mk o1; have B1 := Hb.mk b1; clear o1 b1)
    | (refine ⟨trivial, ?_⟩; gi_at_call 47; refine (callsIn_wide.2 (KC.out _ _ _ _)).mono ?_; rintro e w2 ⟨rfl, rfl⟩))
  have hlen : ∀ (ys : List (Fin n)), ys.map (·.1) = List.range n → ys.length = n := fun ys h => by have := congrArg List.length h; simpa using this
  obtain ⟨b, hb1, hb2, hb3, hcap⟩ : ∃ b, b < w1.heap.size + 3 ∧ (0 < n → a1 = some ⟨b, 0, none⟩) ∧ (0 < n → b < w1.heap.size) ∧ 2 * n ≤ c1 := by
    by_cases h0 : 0 < n
    · obtain ⟨g, c, hv, _, hg, hc⟩ := cu_shf O1.out (by omega)
      cases hv
      exact ⟨g, by omega, fun _ => rfl, fun _ => hg, hc⟩
    · exact ⟨0, by omega, fun h => absurd h h0, fun h => absurd h h0, by omega⟩
  have bO := Boxed.new w1 26 (.slice none 0 0)
  have bS := Boxed.new (w1.alloc (.cells #[.slice none 0 0] 26)) 34 (.slice a1 (2 * n) c1)
  have bT := Boxed.new ((w1.alloc (.cells #[.slice none 0 0] 26)).alloc (.cells #[.slice a1 (2 * n) c1] 34)) 3 (.int .i64 2)
  rw [World.size_alloc] at bS
  rw [World.size_alloc, World.size_alloc] at bT
  have B03 : Below w1.heap.size w1 (((w1.alloc (.cells #[.slice none 0 0] 26)).alloc (.cells #[.slice a1 (2 * n) c1] 34)).alloc (.cells #[.int .i64 2] 3)) := (by repeat (first | exact Below.refl _ _ | with_reducible assumption | refine Below.drews ?_ | refine Below.drew ?_ | refine Below.alloc ?_ (by simp <;> omega) _ | refine Below.setCell ?_ (by simp <;> omega) _))
  refine wpIn_rangeFunc_ownG rfl (by omega) (gf := 81) (lb := #[.pointer (some ⟨w1.heap.size + 1, 0, none⟩), .pointer (some ⟨w1.heap.size + 1 + 1, 0, none⟩)]) rfl trivial (enters_of Tryd.func81 (by kernel_rfl) rfl)
    (S := fun ys : List (Fin n) => ys.map (·.1) = List.range n) (Sp := fun _ => True) (N := n) (encs := fun x : Fin n => #[.slice (some ⟨b, 2 * x.1, none⟩) 2 2]) (Kp := CK b (w1.heap.size + 1) (w1.heap.size + 1 + 1)) (w0 := ((w1.alloc (.cells #[.slice none 0 0] 26)).alloc (.cells #[.slice a1 (2 * n) c1] 34)).alloc (.cells #[.int .i64 2] 3))
    (fun l J Jx W hW hJ hJx hY h0 => chunk1_in (q := 1) l (w1.heap.size + 1) (w1.heap.size + 1 + 1) b c1 a1 (by omega) hb2 hcap J Jx W hJ hY ((hW.cell (p := ⟨w1.heap.size + 1, 0, none⟩) (by simp)).trans (bS.alloc _).cell) ((hW.cell (p := ⟨w1.heap.size + 1 + 1, 0, none⟩) (by simp)).trans bT.cell) h0)
    CK.trans (CK.put (by simp; omega) (by simp) (by simp)) (Below.refl _ _) (fun _ => rfl)
    (fun pre W => (∃ v, Boxed W w1.heap.size 26 v ∧ W.ownsRow (w1.heap.size + 3) 60 2 v pre.length (fls (cont F (pre.map (·.1)))) ∧ True) ∧ Below w1.heap.size (((w1.alloc (.cells #[.slice none 0 0] 26)).alloc (.cells #[.slice a1 (2 * n) c1] 34)).alloc (.cells #[.int .i64 2] 3)) W)
    (fun _ _ _ => False)
    (OwnFrom.and (Own.from (holdsRow_own (w1.heap.size + 3) w1.heap.size 26 60 2 (fun pre : List (Fin n) => pre.length) (fun pre => fls (cont F (pre.map (·.1)))) (fun _ _ => True)) _) (ownFrom_below (by simp; omega) (by simp; omega)))
    (fun _ _ _ _ _ hs _ _ => hs)
    ⟨⟨_, (bO.alloc _).alloc _, World.ownsRow_nil _ _ _ _, trivial⟩, Below.refl _ _⟩
    (fun x => { tmps := #[.string s, undef, .slice none 0 0, .bool false, .slice a1 (2 * n) c1, .bool true, .pointer (some ⟨w1.heap.size, 0, none⟩), .slice (some ⟨b, 2 * x.1, none⟩) 2 2, .tuple #[.slice a1 (2 * n) c1, .bool true], .string s, .tuple #[.slice a1 (2 * n) c1, .bool true], .slice a1 (2 * n) c1, .bool true, .bool true, .bool false, .bool false, .slice a1 (2 * n) c1, .int .i64 (2 * (n : Int)), .int .i64 0, .bool false, .bool false, .slice a1 (2 * n) c1, .func (.func 81) #[] #[.pointer (some ⟨w1.heap.size + 1, 0, none⟩), .pointer (some ⟨w1.heap.size + 1 + 1, 0, none⟩)], .slice (some ⟨b, 2 * x.1, none⟩) 2 2, undef, undef, undef, undef, undef, undef, undef, undef, undef, undef, undef, undef, undef, undef], defers := [] }) ?assign ?body ?done ?stop
  case assign =>
    intro l x W K hK
    gi_wp2
    exact hK
  case body =>
    rintro l pre x W ⟨⟨v, hv, hrow, _⟩, hB3⟩ hlt
    have hB := B03.trans hB3
    have hs3 := hB3.size
    simp at hs3
    have hx := x.2
    have hn0 : 0 < n := by omega
    have hbw := hb3 hn0
    have ha := hb2 hn0
    have hsz := hB.size
    have hc := hv.cell
    have hvl := hv.lt
    have O2 := cu_below O1.out hB
    rw [ha] at O2
    have d0 := fcellR O2 (show 2 * x.1 < 2 * n by omega)
    have d1 := fcellR O2 (show 2 * x.1 + 1 < 2 * n by omega)
    have hlb := World.block_lt_of_cell? W _ d0
    have hge : ∀ k, v.ownBlock = some k → w1.heap.size + 3 ≤ k := fun k h => cu_ge hrow h
    have hnb : some b ≠ v.ownBlock := fun e => by have := hge b e.symm; omega
    have hn1' : some (w1.heap.size + 1) ≠ v.ownBlock := fun e => by have := hge _ e.symm; omega
    have hn2' : some (w1.heap.size + 1 + 1) ≠ v.ownBlock := fun e => by have := hge _ e.symm; omega
    have hbL : b ≠ w1.heap.size := by omega
    have HR : Hf (∀ o, (W.alloc o).drew.ownsRow (w1.heap.size + 3) 60 2 v pre.length (fls (cont F (pre.map (·.1))))) := ⟨fun o => hrow.alloc o⟩
    have cont_own : ∀ {W' : World} {u : Value}, W'.ownsRow (w1.heap.size + 3) 60 2 u (pre.length + 1) (fls (cont F (pre.map (·.1))) ++ [.float .f32 (F.getD (2 * x.1) 0), .float .f32 (F.getD (2 * x.1 + 1) 0)]) → W'.ownsRow (w1.heap.size + 3) 60 2 u (pre ++ [x]).length (fls (cont F ((pre ++ [x]).map (·.1)))) := fun h => by
      rw [List.map_append, List.map_cons, List.map_nil, cont_snoc, List.length_append]
      exact h
    clear O2 ha
    generalize F.getD (2 * x.1) 0 = y0 at *
    generalize F.getD (2 * x.1 + 1) 0 = y1 at *
    have hS : W.drew.cell? ⟨b, 2 * x.1, none⟩ = some (.float .f32 y0) ∧ W.drew.cell? ⟨b, 2 * x.1 + 1, none⟩ = some (.float .f32 y1) := ⟨d0, d1⟩
    gi_wp2
    refine region_round (by kernel_rfl) (by kernel_rfl) (fun ⟨_, _, h⟩ => h) ?_
    refine wpAny_of_held (S := fun w' => w'.cell? ⟨b, 2 * x.1, none⟩ = some (.float .f32 y0) ∧ w'.cell? ⟨b, 2 * x.1 + 1, none⟩ = some (.float .f32 y1)) _ _ _ _ ?_
    refine wpAnyH_take (i := 1) (v := (.slice (some ⟨b, 2 * x.1, none⟩) 2 2)) rfl (by kernel_rfl) (by kernel_rfl) (by kernel_rfl) (fun _ _ _ h => h) (Or.inl ⟨by rfl, fun w' hw' => ?_⟩) hS ?_
    · obtain ⟨s0, s1⟩ := hw'
      go_simp
    try simp only [Act.put, List.setIfInBounds_toArray, List.set_cons_zero, List.set_cons_succ]
    refine wpAnyH_take (i := 4) (v := (.slice (some ⟨b, 2 * x.1, none⟩) 2 2)) rfl (by kernel_rfl) (by kernel_rfl) (by kernel_rfl) (fun _ _ _ h => h) (Or.inl ⟨by rfl, fun w' hw' => ?_⟩) hS ?_
    · obtain ⟨s0, s1⟩ := hw'
      go_simp
    try simp only [Act.put, List.setIfInBounds_toArray, List.set_cons_zero, List.set_cons_succ]
    refine wpAnyH_take (i := 2) (v := (.pointer (some ⟨b, 2 * x.1, none⟩))) rfl (by kernel_rfl) (by kernel_rfl) (by kernel_rfl) (fun _ _ _ h => h) (Or.inl ⟨by rfl, fun w' hw' => ?_⟩) hS ?_
    · obtain ⟨s0, s1⟩ := hw'
      go_simp
    try simp only [Act.put, List.setIfInBounds_toArray, List.set_cons_zero, List.set_cons_succ]
    refine wpAnyH_take (i := 5) (v := (.pointer (some ⟨b, 2 * x.1 + 1, none⟩))) rfl (by kernel_rfl) (by kernel_rfl) (by kernel_rfl) (fun _ _ _ h => h) (Or.inl ⟨by rfl, fun w' hw' => ?_⟩) hS ?_
    · obtain ⟨s0, s1⟩ := hw'
      go_simp
    try simp only [Act.put, List.setIfInBounds_toArray, List.set_cons_zero, List.set_cons_succ]
    refine wpAnyH_take (i := 3) (v := (.float .f32 y0)) rfl (by kernel_rfl) (by kernel_rfl) (by kernel_rfl) (fun _ _ _ h => h) (Or.inl ⟨by rfl, fun w' hw' => ?_⟩) hS ?_
    · obtain ⟨s0, s1⟩ := hw'
      go_simp
    try simp only [Act.put, List.setIfInBounds_toArray, List.set_cons_zero, List.set_cons_succ]
    refine wpAnyH_take (i := 6) (v := (.float .f32 y1)) rfl (by kernel_rfl) (by kernel_rfl) (by kernel_rfl) (fun _ _ _ h => h) (Or.inl ⟨by rfl, fun w' hw' => ?_⟩) hS ?_
    · obtain ⟨s0, s1⟩ := hw'
      go_simp
    try simp only [Act.put, List.setIfInBounds_toArray, List.set_cons_zero, List.set_cons_succ]
    refine wpAnyH_take (i := 7) (v := (pl y0 y1)) rfl (by kernel_rfl) (by kernel_rfl) (by kernel_rfl) (fun _ _ _ h => h) (Or.inl ⟨by rfl, fun w' hw' => ?_⟩) hS ?_
    · obtain ⟨s0, s1⟩ := hw'
      go_simp
    try simp only [Act.put, List.setIfInBounds_toArray, List.set_cons_zero, List.set_cons_succ]
    refine wpAnyH_ready (rs := [0, 8]) (by kernel_rfl) (by simp) ?_
    refine AllReadyH.cons rfl (fun K hK => ?_) (AllReadyH.cons rfl (fun K hK => ?_) AllReadyH.nil)
    · skip
      go_simp
      refine hK.out _ _ ?_ (fun hH => ?_)
      · exact ⟨d0, d1⟩
      clear hK K
      try simp only [Act.put, List.setIfInBounds_toArray, List.set_cons_zero, List.set_cons_succ]
      refine wpAnyH_ready (rs := [8]) (by kernel_rfl) (by simp) ?_
      refine AllReadyH.cons rfl (fun K hK => ?_) AllReadyH.nil
      go_simp
      refine hK.out _ _ ?_ (fun hH => ?_)
      · exact ⟨by simp [go_sem, d0, hlb], by simp [go_sem, d1, hlb]⟩
      clear hK K
      try simp only [Act.put, List.setIfInBounds_toArray, List.set_cons_zero, List.set_cons_succ]
      refine wpAnyH_ready (rs := [9]) (by kernel_rfl) (by simp) ?_
      refine AllReadyH.cons rfl (fun K hK => ?_) AllReadyH.nil
      refine step_append_lies _ (by rfl) _ _ _ (by rfl) (w1.heap.size + 3) 60 i0 _ 2 8 Tryd.underlying26 hi0 hz0 hz1 hz2 rfl (by decide) v pre.length (fls (cont F (pre.map (·.1)))) (by rfl) (HR.out _) ⟨W.heap.size, 0, none⟩ 1 1 [.float .f32 y0, .float .f32 y1] (by rfl) (by rfl) (two_srcR W _ _ _) flt_twoR (by decide) (by unfold maxLen; omega) (by omega) (by simp; omega) _ rfl ?_
      intro g2 k2 w3 o3 hgrow3 hat hlt3
      have hgrow4 : (W.alloc (.cells #[.float .f32 y0, .float .f32 y1] 60)).grownBy w3 v.ownBlock := ⟨hgrow3.os, hgrow3.tape, hgrow3.output, hgrow3.size, hgrow3.block⟩
      obtain ⟨hv1, hv2, _, hk2, hb2⟩ := hv.appended (by decide) (rown_lowerR hrow (by omega)) hsz (Nat.le_refl _) (rown_lowerR o3 (by omega)) hgrow4
      have hr2 := o3.kept (grownBy_setCell' w3 w1.heap.size (.slice (some ⟨g2, 0, none⟩) (pre.length + 1) k2)) (.inr (hv1.not_row (by decide) o3).symm)
      have s0 : w3.cell? ⟨b, 2 * x.1, none⟩ = some (.float .f32 y0) := (hgrow3.cell_far _ (by simp; omega) hnb).trans (by simp [go_sem, d0, hlb])
      have s1 : w3.cell? ⟨b, 2 * x.1 + 1, none⟩ = some (.float .f32 y1) := (hgrow3.cell_far _ (by simp; omega) hnb).trans (by simp [go_sem, d1, hlb])
      have p0 := hv1.cell
      have p1 := hv1.frozen
      have hCK : CK b (w1.heap.size + 1) (w1.heap.size + 1 + 1) W (w3.setCell ⟨w1.heap.size, 0, none⟩ (.slice (some ⟨g2, 0, none⟩) (pre.length + 1) k2)) := ⟨ck3 (W := W) hgrow4 (by omega) hnb (by omega), ck3 (W := W) hgrow4 (by omega) hn1' (by omega), ck3 (W := W) hgrow4 (by omega) hn2' (by omega)⟩
      have HF := Hf.mk (⟨hk2.from _, hCK, ⟨_, hv2, cont_own hr2, trivial⟩, hB3.trans hb2⟩ : KeepsFrom (((w1.alloc (.cells #[.slice none 0 0] 26)).alloc (.cells #[.slice a1 (2 * n) c1] 34)).alloc (.cells #[.int .i64 2] 3)).heap.size W (w3.setCell ⟨w1.heap.size, 0, none⟩ (.slice (some ⟨g2, 0, none⟩) (pre.length + 1) k2)) ∧ CK b (w1.heap.size + 1) (w1.heap.size + 1 + 1) W (w3.setCell ⟨w1.heap.size, 0, none⟩ (.slice (some ⟨g2, 0, none⟩) (pre.length + 1) k2)) ∧ (∃ v, Boxed (w3.setCell ⟨w1.heap.size, 0, none⟩ (.slice (some ⟨g2, 0, none⟩) (pre.length + 1) k2)) w1.heap.size 26 v ∧ World.ownsRow (w3.setCell ⟨w1.heap.size, 0, none⟩ (.slice (some ⟨g2, 0, none⟩) (pre.length + 1) k2)) (w1.heap.size + 3) 60 2 v (pre ++ [x]).length (fls (cont F ((pre ++ [x]).map (·.1)))) ∧ True) ∧ Below w1.heap.size (((w1.alloc (.cells #[.slice none 0 0] 26)).alloc (.cells #[.slice a1 (2 * n) c1] 34)).alloc (.cells #[.int .i64 2] 3)) (w3.setCell ⟨w1.heap.size, 0, none⟩ (.slice (some ⟨g2, 0, none⟩) (pre.length + 1) k2)))
      clear hv1 hv2 hk2 hb2 hr2 hCK o3 hgrow3 hgrow4
      refine hK.out _ _ ?_ (fun hH => ?_)
      · exact ⟨s0, s1⟩
      clear hK K
      try simp only [Act.put, List.setIfInBounds_toArray, List.set_cons_zero, List.set_cons_succ]
      refine wpAnyH_ready (rs := [10]) (by kernel_rfl) (by simp) ?_
      refine AllReadyH.cons rfl (fun K hK => ?_) AllReadyH.nil
      go_simp
      refine hK.out _ _ ?_ (fun hH => ?_)
      · exact ⟨(World.cell?_setCell_far _ _ _ _ (Ne.symm hbL)).trans s0, (World.cell?_setCell_far _ _ _ _ (Ne.symm hbL)).trans s1⟩
      clear hK K
      try simp only [Act.put, List.setIfInBounds_toArray, List.set_cons_zero, List.set_cons_succ]
      exact wpAnyH_done (by kernel_rfl) HF.out _
    · skip
      go_simp
      refine hK.out _ _ ?_ (fun hH => ?_)
      · exact ⟨by simp [go_sem, d0, hlb], by simp [go_sem, d1, hlb]⟩
      clear hK K
      try simp only [Act.put, List.setIfInBounds_toArray, List.set_cons_zero, List.set_cons_succ]
      refine wpAnyH_ready (rs := [0]) (by kernel_rfl) (by simp) ?_
      refine AllReadyH.cons rfl (fun K hK => ?_) AllReadyH.nil
      go_simp
      refine hK.out _ _ ?_ (fun hH => ?_)
      · exact ⟨by simp [go_sem, d0, hlb], by simp [go_sem, d1, hlb]⟩
      clear hK K
      try simp only [Act.put, List.setIfInBounds_toArray, List.set_cons_zero, List.set_cons_succ]
      refine wpAnyH_ready (rs := [9]) (by kernel_rfl) (by simp) ?_
      refine AllReadyH.cons rfl (fun K hK => ?_) AllReadyH.nil
      refine step_append_lies _ (by rfl) _ _ _ (by rfl) (w1.heap.size + 3) 60 i0 _ 2 8 Tryd.underlying26 hi0 hz0 hz1 hz2 rfl (by decide) v pre.length (fls (cont F (pre.map (·.1)))) (by rfl) (HR.out _) ⟨W.heap.size, 0, none⟩ 1 1 [.float .f32 y0, .float .f32 y1] (by rfl) (by rfl) (two_srcR W _ _ _) flt_twoR (by decide) (by unfold maxLen; omega) (by omega) (by simp; omega) _ rfl ?_
      intro g2 k2 w3 o3 hgrow3 hat hlt3
      have hgrow4 : (W.alloc (.cells #[.float .f32 y0, .float .f32 y1] 60)).grownBy w3 v.ownBlock := ⟨hgrow3.os, hgrow3.tape, hgrow3.output, hgrow3.size, hgrow3.block⟩
      obtain ⟨hv1, hv2, _, hk2, hb2⟩ := hv.appended (by decide) (rown_lowerR hrow (by omega)) hsz (Nat.le_refl _) (rown_lowerR o3 (by omega)) hgrow4
      have hr2 := o3.kept (grownBy_setCell' w3 w1.heap.size (.slice (some ⟨g2, 0, none⟩) (pre.length + 1) k2)) (.inr (hv1.not_row (by decide) o3).symm)
      have s0 : w3.cell? ⟨b, 2 * x.1, none⟩ = some (.float .f32 y0) := (hgrow3.cell_far _ (by simp; omega) hnb).trans (by simp [go_sem, d0, hlb])
      have s1 : w3.cell? ⟨b, 2 * x.1 + 1, none⟩ = some (.float .f32 y1) := (hgrow3.cell_far _ (by simp; omega) hnb).trans (by simp [go_sem, d1, hlb])
      have p0 := hv1.cell
      have p1 := hv1.frozen
      have hCK : CK b (w1.heap.size + 1) (w1.heap.size + 1 + 1) W (w3.setCell ⟨w1.heap.size, 0, none⟩ (.slice (some ⟨g2, 0, none⟩) (pre.length + 1) k2)) := ⟨ck3 (W := W) hgrow4 (by omega) hnb (by omega), ck3 (W := W) hgrow4 (by omega) hn1' (by omega), ck3 (W := W) hgrow4 (by omega) hn2' (by omega)⟩
      have HF := Hf.mk (⟨hk2.from _, hCK, ⟨_, hv2, cont_own hr2, trivial⟩, hB3.trans hb2⟩ : KeepsFrom (((w1.alloc (.cells #[.slice none 0 0] 26)).alloc (.cells #[.slice a1 (2 * n) c1] 34)).alloc (.cells #[.int .i64 2] 3)).heap.size W (w3.setCell ⟨w1.heap.size, 0, none⟩ (.slice (some ⟨g2, 0, none⟩) (pre.length + 1) k2)) ∧ CK b (w1.heap.size + 1) (w1.heap.size + 1 + 1) W (w3.setCell ⟨w1.heap.size, 0, none⟩ (.slice (some ⟨g2, 0, none⟩) (pre.length + 1) k2)) ∧ (∃ v, Boxed (w3.setCell ⟨w1.heap.size, 0, none⟩ (.slice (some ⟨g2, 0, none⟩) (pre.length + 1) k2)) w1.heap.size 26 v ∧ World.ownsRow (w3.setCell ⟨w1.heap.size, 0, none⟩ (.slice (some ⟨g2, 0, none⟩) (pre.length + 1) k2)) (w1.heap.size + 3) 60 2 v (pre ++ [x]).length (fls (cont F ((pre ++ [x]).map (·.1)))) ∧ True) ∧ Below w1.heap.size (((w1.alloc (.cells #[.slice none 0 0] 26)).alloc (.cells #[.slice a1 (2 * n) c1] 34)).alloc (.cells #[.int .i64 2] 3)) (w3.setCell ⟨w1.heap.size, 0, none⟩ (.slice (some ⟨g2, 0, none⟩) (pre.length + 1) k2)))
      clear hv1 hv2 hk2 hb2 hr2 hCK o3 hgrow3 hgrow4
      refine hK.out _ _ ?_ (fun hH => ?_)
      · exact ⟨s0, s1⟩
      clear hK K
      try simp only [Act.put, List.setIfInBounds_toArray, List.set_cons_zero, List.set_cons_succ]
      refine wpAnyH_ready (rs := [10]) (by kernel_rfl) (by simp) ?_
      refine AllReadyH.cons rfl (fun K hK => ?_) AllReadyH.nil
      go_simp
      refine hK.out _ _ ?_ (fun hH => ?_)
      · exact ⟨(World.cell?_setCell_far _ _ _ _ (Ne.symm hbL)).trans s0, (World.cell?_setCell_far _ _ _ _ (Ne.symm hbL)).trans s1⟩
      clear hK K
      try simp only [Act.put, List.setIfInBounds_toArray, List.set_cons_zero, List.set_cons_succ]
      exact wpAnyH_done (by kernel_rfl) HF.out _
  case done =>
    rintro D ys W hD hS ⟨⟨v, hv, hrow, _⟩, hB3⟩ hK
    have hB := B03.trans hB3
    have hc := hv.cell
    rw [hS, cont_range F n (by rw [HN.out]; exact Nat.le_refl _), List.take_of_length_le (by rw [HN.out]; exact Nat.le_refl _), hlen ys hS] at hrow
    have hDl := (Array.getElem?_eq_some_iff.1 hK).1
    simp at hD
    have BW := Hb.mk (Below.on (B := w.heap.size) (a := w) B1.out hB B1.out.size)
    have S1 := B1.out.size
    rcases own_formP hrow with ⟨rfl, h0⟩ | ⟨g, k, rfl⟩
    · subst h0
      obtain ⟨rfl, rfl, rfl⟩ := HNo.out (arePl_zero F)
      have KA := Hf.mk (iArePl_nil W)
      gi_wp2_with (refine ⟨trivial, ?_⟩; gi_at_call 42; refine (callsIn_wide.2 KA.out).mono ?_; rintro e w5 ⟨rfl, b5⟩; have hK5 := (b5.block D hDl).trans hK; have B5 := Hb.mk (Below.on BW.out b5 BW.out.size); clear b5)
      refine ⟨by simp, .inl ⟨_, _, rfl, run_takeDeferred hK5, ?_⟩⟩
      exact ⟨.tuple #[.slice none 0 0, .bool false], by simp [results, Tryd.f16, go_sem], RPl.nilP (B5.out.trans (belowK_b (w := w) (Nat.le_refl _) _ D _ _ (by omega) hK5 rfl rfl))⟩
    · have KA := Hf.mk (iArePlC_any W (c := k) (frow_ownP HN.out hrow) HW.out HN.out (by omega))
      cases hb : arePl F n
      · rw [hb] at KA
        obtain ⟨rfl, rfl, rfl⟩ := HNo.out hb
        clear HNo HYes hb
        gi_wp2_with (refine ⟨trivial, ?_⟩; gi_at_call 42; refine (callsIn_wide.2 KA.out).mono ?_; rintro e w5 ⟨rfl, b5⟩; have hK5 := (b5.block D hDl).trans hK; have B5 := Hb.mk (Below.on BW.out b5 BW.out.size); clear b5)
        refine ⟨by simp, .inl ⟨_, _, rfl, run_takeDeferred hK5, ?_⟩⟩
        exact ⟨.tuple #[.slice none 0 0, .bool false], by simp [results, Tryd.f16, go_sem], RPl.nilP (B5.out.trans (belowK_b (w := w) (Nat.le_refl _) _ D _ _ (by omega) hK5 rfl rfl))⟩
      · rw [hb] at KA
        obtain ⟨rfl, rfl, rfl⟩ := HYes.out hb
        clear HNo HYes hb
        gi_wp2_with (refine ⟨trivial, ?_⟩; gi_at_call 42; refine (callsIn_wide.2 KA.out).mono ?_; rintro e w5 ⟨rfl, b5⟩; have hK5 := (b5.block D hDl).trans hK; have B5 := Hb.mk (Below.on BW.out b5 BW.out.size); have hc5 := Below.keep b5 hc; have hr5 := cu_below hrow b5; clear b5)
        refine ⟨by simp, .inl ⟨_, _, rfl, run_takeDeferred hK5, ?_⟩⟩
        exact ⟨.tuple #[.slice (some ⟨g, 0, none⟩) _ k, .bool true], by simp [results, Tryd.f16, go_sem], ⟨⟨_, rfl, rown_lowerR (ownsRow_putObj hr5 _ hK5 rfl) (by omega)⟩, B5.out.trans (belowK_b (w := w) (Nat.le_refl _) _ D _ _ (by omega) hK5 rfl rfl)⟩⟩
  case stop =>
    rintro D c pre W _ _ h _
    exact h.elim
set_option maxHeartbeats 2000000 in
theorem iRp_any {s : ByteArray} {mx : Int} (hs : s.size ≤ 1048576) (w : World) (hv : MlIs w mx) : Calls Tryd.prog 16 #[.string s] w (RPl 60 (rpO s.data.toList) (rpN s.data.toList) (rpX s.data.toList) w) := by
  have B0 := Hb.mk (Below.refl w.heap.size w)
  have KB0 := iRn_any (s := s) (mx := mx) hs w hv
  have hA := @rp_a s.data.toList
  have hBb := @rp_b s.data.toList
  have hCc := @rp_c s.data.toList
  have hY := @rp_yes s.data.toList
  have hL := rnX_len s.data.toList
  have HW := Hf.mk (rnX_wf s.data.toList)
  clear hv
  generalize rnO s.data.toList = O at *
  generalize rnX s.data.toList = F at *
  generalize rpO s.data.toList = P at *
  generalize rpN s.data.toList = N at *
  generalize rpX s.data.toList = X at *
  cases O
  · obtain ⟨rfl, rfl, rfl⟩ := hA rfl
    have KB := Hf.mk KB0
    clear hA hBb hCc hY KB0 hL
    go_enter Tryd.func16, Tryd.ntmps16
    go_wp2_with (go_at_call 46; refine KB.out.mono ?_; rintro e w1 ⟨⟨v1, rfl, o1⟩, b1⟩; have B1 := Hb.mk (Below.on (B := w.heap.size) (a := w) (by repeat (first | exact B0.out | refine Below.drews ?_ | refine Below.drew ?_ | refine Below.alloc ?_ (by have hq_ := B0.out.size; first | omega | (simp <;> omega)) _ | refine Below.setCell ?_ (by have hq_ := B0.out.size; first | omega | (simp <;> omega)) _)) b1 (by have hq_ := B0.out.size; first | omega | (simp <;> omega))); clear b1 o1)
    go_ret2
    exact RPl.nilP (by repeat (first | exact B1.out | refine Below.drews ?_ | refine Below.drew ?_ | refine Below.alloc ?_ (by have hq_ := B1.out.size; first | omega | (simp <;> omega)) _ | refine Below.setCell ?_ (by have hq_ := B1.out.size; first | omega | (simp <;> omega)) _))
  · by_cases h2 : F.length % 2 = 0
    · obtain ⟨n, hn⟩ : ∃ n, F.length = 2 * n := ⟨F.length / 2, by omega⟩
      have hd : F.length / 2 = n := by omega
      rw [hd] at hCc hY
      exact iRpEven_any hn (by omega) w KB0 HW ⟨hCc⟩ ⟨fun h => by obtain ⟨e1, e2, e3⟩ := hY rfl h2 h; exact ⟨e1, e2, e3⟩⟩
    · obtain ⟨rfl, rfl, rfl⟩ := hBb h2
      obtain ⟨m, hm⟩ : ∃ m, m = F.length := ⟨_, rfl⟩
      have hm1 : (m : Int).tmod 2 = 1 := by rw [Int.tmod_eq_emod_of_nonneg (by omega)]; omega
      have hm3 : (m : Int) % 2 = 1 := by omega
      have HLn := Hf.mk (show (fls F).length = m by rw [fls_len, hm])
      have KB := Hf.mk KB0
      clear hA hBb hCc hY h2 hm hL KB0
      go_enter Tryd.func16, Tryd.ntmps16
      go_wp2_with (go_at_call 46; refine KB.out.mono ?_; rintro e w1 ⟨⟨v1, rfl, o1⟩, b1⟩; rw [HLn.out] at o1; obtain ⟨a1, c1, rfl, hq1⟩ := frow_vown o1; clear hq1; have B1 := Hb.mk (Below.on (B := w.heap.size) (a := w) (by repeat (first | exact B0.out | refine Below.drews ?_ | refine Below.drew ?_ | refine Below.alloc ?_ (by have hq_ := B0.out.size; first | omega | (simp <;> omega)) _ | refine Below.setCell ?_ (by have hq_ := B0.out.size; first | omega | (simp <;> omega)) _)) b1 (by have hq_ := B0.out.size; first | omega | (simp <;> omega))); clear b1 o1)
      go_ret2
      exact RPl.nilP (by repeat (first | exact B1.out | refine Below.drews ?_ | refine Below.drew ?_ | refine Below.alloc ?_ (by have hq_ := B1.out.size; first | omega | (simp <;> omega)) _ | refine Below.setCell ?_ (by have hq_ := B1.out.size; first | omega | (simp <;> omega)) _))
end Go.Proofs.YtcgakdgfmhkpjaaDoor
namespace Go.Proofs.YtcgakdgfmhkpjaaDoor
open Go Go.RowKit
set_option maxRecDepth 100000
set_option maxHeartbeats 2000000 in
theorem law_ReadPlaces {s : ByteArray} (_ : s.size ≤ maxLen) (w : World) (hv0 : ∃ mx, MlIs w mx) : Calls Tryd.prog 4 #[.string s] w (RS (.bool true) w) := by
  obtain ⟨mx, hv⟩ := hv0
  have B0 := Hb.mk (Below.refl w.heap.size w)
  by_cases hs : s.size ≤ 1048576
  · have KS := Hf.mk (fun w => sReadPlaces_any (s := s) hs w)
    have KI := Hf.mk (fun w hv => iRp_any (s := s) (mx := mx) hs w hv)
    have hF0 := rpN_le s.data.toList
    have HFl := Hf.mk (rpX_wf s.data.toList)
    generalize rpO s.data.toList = O at KS KI
    generalize rpN s.data.toList = N at KS KI hF0
    generalize rpX s.data.toList = F at KS KI HFl
    have hG : N ≤ 1048576 := by omega
    have HV := Hf.mk hv
    clear hv
    cases O
    all_goals
      go_enter Tryd.func4, Tryd.ntmps4
      have tk_s : True := trivial; have tk_i : True := trivial; have tk_e : True := trivial; have tk_m : True := trivial; have tk_h : True := trivial; have tk_j : True := trivial; have tk_f : True := trivial; have tk_k : True := trivial
      go_wp2_with (first
        | (go_at_call 15; clear tk_s; refine (KS.out _).mono ?_; rintro e w1 ⟨⟨vW, rfl, oW⟩, b⟩; have S1 := b.size; have B1 := Hb.mk (Below.on (B := w.heap.size) (a := w) (by repeat (first | exact B0.out | refine Below.drews ?_ | refine Below.drew ?_ | refine Below.alloc ?_ (by have hq_ := B0.out.size; first | omega | (simp <;> omega)) _ | refine Below.setCell ?_ (by have hq_ := B0.out.size; first | omega | (simp <;> omega)) _)) b (by have hq_ := B0.out.size; first | omega | (simp <;> omega))); have OW := Hf.mk oW; have LW := Hf.mk oW.lt; clear oW b)
        | (go_at_call 16; clear tk_i; refine (KI.out _ (HV.out.on (by repeat (first | with_reducible refine Below.setCell ?_ (by first | omega | (simp <;> omega)) _ | with_reducible refine Below.drews ?_ | with_reducible refine Below.drew ?_ | with_reducible refine Below.alloc ?_ (by first | omega | (simp <;> omega)) _ | with_reducible exact B1.out | with_reducible exact Below.refl _ _)))).mono ?_; rintro e w2 ⟨⟨vG, rfl, oG⟩, b⟩; have S2 := b.size; have OW2 := Hf.mk (cu_below OW.out b); have B2 := Hb.mk (Below.on (B := w.heap.size) (a := w) (by repeat (first | exact B1.out | refine Below.drews ?_ | refine Below.drew ?_ | refine Below.alloc ?_ (by have hq_ := B1.out.size; first | omega | (simp <;> omega)) _ | refine Below.setCell ?_ (by have hq_ := B1.out.size; first | omega | (simp <;> omega)) _)) b (by have hq_ := B1.out.size; first | omega | (simp <;> omega))); have OG := Hf.mk oG; have LG := Hf.mk oG.lt; clear oG b)
        | (go_at_call 14; clear tk_e; refine (eqP_own _ (cu_below OG.out (by repeat (first | exact Below.refl _ _ | with_reducible assumption | refine Below.drews ?_ | refine Below.drew ?_ | refine Below.alloc ?_ (by simp <;> omega) _ | refine Below.setCell ?_ (by simp <;> omega) _))) (cu_below OW2.out (by repeat (first | exact Below.refl _ _ | with_reducible assumption | refine Below.drews ?_ | refine Below.drew ?_ | refine Below.alloc ?_ (by simp <;> omega) _ | refine Below.setCell ?_ (by simp <;> omega) _))) HFl.out hG).mono ?_; rintro e w3 ⟨rfl, be⟩; have S3 : w2.heap.size ≤ w3.heap.size := be.size; have B3 := Hb.mk (Below.on (B := w.heap.size) (a := w) (by repeat (first | exact B2.out | refine Below.drews ?_ | refine Below.drew ?_ | refine Below.alloc ?_ (by have hq_ := B2.out.size; first | omega | (simp <;> omega)) _ | refine Below.setCell ?_ (by have hq_ := B2.out.size; first | omega | (simp <;> omega)) _)) be (by have hq_ := B2.out.size; first | omega | (simp <;> omega))); have OG3 := Hf.mk (cu_below (cu_below OG.out (by repeat (first | exact Below.refl _ _ | with_reducible assumption | refine Below.drews ?_ | refine Below.drew ?_ | refine Below.alloc ?_ (by simp <;> omega) _ | refine Below.setCell ?_ (by simp <;> omega) _))) be); have OW3 := Hf.mk (cu_below (cu_below OW2.out (by repeat (first | exact Below.refl _ _ | with_reducible assumption | refine Below.drews ?_ | refine Below.drew ?_ | refine Below.alloc ?_ (by simp <;> omega) _ | refine Below.setCell ?_ (by simp <;> omega) _))) be); clear be)
        | (go_at_call 17; clear tk_m; refine (markP_own _ (cu_below OG3.out (by repeat (first | exact Below.refl _ _ | with_reducible assumption | refine Below.drews ?_ | refine Below.drew ?_ | refine Below.alloc ?_ (by simp <;> omega) _ | refine Below.setCell ?_ (by simp <;> omega) _))) hG (by omega) (by omega)).mono ?_; rintro e w4 ⟨rfl, t_, g_⟩; have Q := Hf.mk t_; have S4 : w3.heap.size ≤ w4.heap.size := g_.size; have OW4 := Hf.mk (own_g3 (cu_below OW3.out (by repeat (first | exact Below.refl _ _ | with_reducible assumption | refine Below.drews ?_ | refine Below.drew ?_ | refine Below.alloc ?_ (by simp <;> omega) _ | refine Below.setCell ?_ (by simp <;> omega) _))) g_ LW.out LG.out (.inl (Nat.le_refl _))); have B4 := Hb.mk (below_gv (B := w.heap.size) (w := w) (by repeat (first | exact B3.out | refine Below.drews ?_ | refine Below.drew ?_ | refine Below.alloc ?_ (by have hq_ := B3.out.size; first | omega | (simp <;> omega)) _ | refine Below.setCell ?_ (by have hq_ := B3.out.size; first | omega | (simp <;> omega)) _)) g_ (by first | omega | (simp <;> omega)) LG.out S1); clear t_ g_)
        | (go_at_call 18; clear tk_h; refine (heldP_own _ (Q.out.below (by repeat (first | exact Below.refl _ _ | with_reducible assumption | refine Below.drews ?_ | refine Below.drew ?_ | refine Below.alloc ?_ (by simp <;> omega) _ | refine Below.setCell ?_ (by simp <;> omega) _))) hG (by omega) (by omega)).mono ?_; rintro e w' ⟨rfl, q5, rfl⟩)
        | (go_at_call 16; clear tk_j; refine (KI.out _ (HV.out.on (by repeat (first | with_reducible refine Below.setCell ?_ (by first | omega | (simp <;> omega)) _ | with_reducible refine Below.drews ?_ | with_reducible refine Below.drew ?_ | with_reducible refine Below.alloc ?_ (by first | omega | (simp <;> omega)) _ | with_reducible exact B4.out | with_reducible exact Below.refl _ _)))).mono ?_; rintro e w6 ⟨⟨vH, rfl, oH⟩, b⟩; have OW6 := Hf.mk (cu_below (cu_below OW4.out (by repeat (first | exact Below.refl _ _ | with_reducible assumption | refine Below.drews ?_ | refine Below.drew ?_ | refine Below.alloc ?_ (by simp <;> omega) _ | refine Below.setCell ?_ (by simp <;> omega) _))) b); have Q6 := Hf.mk ((Q.out.below (by repeat (first | exact Below.refl _ _ | with_reducible assumption | refine Below.drews ?_ | refine Below.drew ?_ | refine Below.alloc ?_ (by simp <;> omega) _ | refine Below.setCell ?_ (by simp <;> omega) _))).below b); have B6 := Hb.mk (Below.on (B := w.heap.size) (a := w) (by repeat (first | exact B4.out | refine Below.drews ?_ | refine Below.drew ?_ | refine Below.alloc ?_ (by have hq_ := B4.out.size; first | omega | (simp <;> omega)) _ | refine Below.setCell ?_ (by have hq_ := B4.out.size; first | omega | (simp <;> omega)) _)) b (by have hq_ := B4.out.size; first | omega | (simp <;> omega))); have OH := Hf.mk oH; clear oH b)
        | (go_at_call 14; clear tk_f; refine (eqP_own _ (cu_below OH.out (by repeat (first | exact Below.refl _ _ | with_reducible assumption | refine Below.drews ?_ | refine Below.drew ?_ | refine Below.alloc ?_ (by simp <;> omega) _ | refine Below.setCell ?_ (by simp <;> omega) _))) (cu_below OW6.out (by repeat (first | exact Below.refl _ _ | with_reducible assumption | refine Below.drews ?_ | refine Below.drew ?_ | refine Below.alloc ?_ (by simp <;> omega) _ | refine Below.setCell ?_ (by simp <;> omega) _))) HFl.out hG).mono ?_; rintro e w7 ⟨rfl, b7⟩; have Q7 := Hf.mk ((Q6.out.below (by repeat (first | exact Below.refl _ _ | with_reducible assumption | refine Below.drews ?_ | refine Below.drew ?_ | refine Below.alloc ?_ (by simp <;> omega) _ | refine Below.setCell ?_ (by simp <;> omega) _))).below b7); have B7 := Hb.mk (Below.on (B := w.heap.size) (a := w) (by repeat (first | exact B6.out | refine Below.drews ?_ | refine Below.drew ?_ | refine Below.alloc ?_ (by have hq_ := B6.out.size; first | omega | (simp <;> omega)) _ | refine Below.setCell ?_ (by have hq_ := B6.out.size; first | omega | (simp <;> omega)) _)) b7 (by have hq_ := B6.out.size; first | omega | (simp <;> omega))); clear b7)
        | (go_at_call 18; clear tk_k; refine (heldP_own _ (Q7.out.below (by repeat (first | exact Below.refl _ _ | with_reducible assumption | refine Below.drews ?_ | refine Below.drew ?_ | refine Below.alloc ?_ (by simp <;> omega) _ | refine Below.setCell ?_ (by simp <;> omega) _))) hG (by omega) (by omega)).mono ?_; rintro e w' ⟨rfl, q8, rfl⟩))
      go_ret
      exact ⟨rfl, (by repeat (first | exact B7.out | refine Below.drews ?_ | refine Below.drew ?_ | refine Below.alloc ?_ (by have hq_ := B7.out.size; first | omega | (simp <;> omega)) _ | refine Below.setCell ?_ (by have hq_ := B7.out.size; first | omega | (simp <;> omega)) _))⟩
  · have h9 : (1048576 : Int) < (s.size : Int) := by omega
    go_enter Tryd.func4, Tryd.ntmps4
    go_wp2
    go_ret
    exact ⟨rfl, (by repeat (first | exact B0.out | refine Below.drews ?_ | refine Below.drew ?_ | refine Below.alloc ?_ (by have hq_ := B0.out.size; first | omega | (simp <;> omega)) _ | refine Below.setCell ?_ (by have hq_ := B0.out.size; first | omega | (simp <;> omega)) _))⟩
end Go.Proofs.YtcgakdgfmhkpjaaDoor
