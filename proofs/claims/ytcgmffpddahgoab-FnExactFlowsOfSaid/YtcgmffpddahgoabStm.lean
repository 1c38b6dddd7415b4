/-
  The iterator that yields each place with all places through which its water goes. No premise beyond those named.
-/
import Derived.RangeFuncNested
import Derived.RangeFuncBound
import Derived.RangeFuncCalls
import Derived.RangeFuncLeaves
import Derived.Shelf.Abstract
import Derived.Shelf.RegionOpen
import Derived.WalkKit
import Derived.OwnWalkIn
import Derived.TacticsInMore
import Derived.LoopNIn
import Derived.LoopIn
import Derived.Test.YtcgmffpddahgoabSnk
namespace Go.Proofs.Ytcgmffpddahgoab
open Go Go.RowKit Go.Shelf
set_option maxRecDepth 100000
attribute [local go_sem] Oper.semAt_some

/-- each place with the places of its way, of the first m places -/
def visL (D : Nat → Int) (n m : Nat) : List (Nat × Nat) := (List.range m).flatMap (fun (i : Nat) => (pthI D n (i : Int)).map (fun j => (i, j)))
theorem visL_succ {D : Nat → Int} {n m : Nat} : visL D n (m + 1) = visL D n m ++ (pthI D n (m : Int)).map (fun j => (m, j)) := by
  unfold visL
  rw [List.range_succ, List.flatMap_append]
  simp
theorem visL_len {D : Nat → Int} {n : Nat} : ∀ m, (visL D n m).length ≤ m * n := by
  intro m
  induction m with
  | zero => simp [visL]
  | succ m ih =>
    have := pthI_len (D := D) (n := n) (m : Int)
    rw [visL_succ, List.length_append, List.length_map, Nat.succ_mul]
    omega
abbrev V2 (n : Nat) := { x : Nat × Nat // x.1 < n ∧ x.2 < n }
/-- 'cells outside this block are kept' -/
def KpO (b : Nat) (W W' : World) : Prop := ∀ p v, p.block ≠ b → W.cell? p = some v → W'.cell? p = some v
theorem kpO_refl {b : Nat} (W : World) : KpO b W W := fun _ _ _ h => h
theorem kpO_t {b : Nat} {A B C : World} (h : KpO b A B) (k : KpO b B C) : KpO b A C := fun p v hp hv => k p v hp (h p v hp hv)
theorem kpO_b {b s : Nat} (W : World) (l : Nat) (o o' : Obj) (_ : s ≤ l) (h : W.heap[l]? = some o) (hc : o.isCells = false) (_ : o.isWalk = false) : KpO b W (W.putObj l o') :=
  fun _ _ _ hv => cell_kept hv (grownBy_putObj' W l o') (fun r e => by cases e; exact ⟨_, h, hc⟩)
theorem kpO_set {b o : Nat} (W : World) (v : Value) : KpO b W (W.setCell ⟨b, o, none⟩ v) := fun p u hp hv => by
  rw [World.cell?_setCell_other]
  · exact hv
  · intro he
    exact hp (by rw [← he])
theorem IRow.kpO {b : Nat} {W W' : World} {a : Option Addr} {xs : List Int} (h : IRow W a xs) (k : KpO b W W') (ha : ∀ p, a = some p → p.block ≠ b) : IRow W' a xs := by
  intro i hi
  obtain ⟨p, rfl, hc⟩ := h i hi
  refine ⟨p, rfl, k _ _ ?_ hc⟩
  have := ha p rfl
  unfold Addr.add
  split <;> exact this
/-- 'a way so far' -/
structure Way (D : Nat → Int) (n m : Nat) (x : Int) (pre : List (V2 n)) (vis : List Nat) : Prop where
  pre : pre.map Subtype.val = visL D n m ++ vis.map (fun j => (m, j))
  vis : pthI D n (m : Int) = vis ++ pthI D n x
  at' : x = -1 ∨ ∃ j : Nat, x = (j : Int) ∧ j < n
theorem Way.start {D : Nat → Int} {n m : Nat} {pre : List (V2 n)} (h : pre.map Subtype.val = visL D n m) (hm : m < n) : Way D n m (m : Int) pre [] := ⟨by simp [h], rfl, .inr ⟨m, rfl, hm⟩⟩
theorem Way.len {D : Nat → Int} {r : Nat → Nat} {n m j : Nat} {pre : List (V2 n)} {vis : List Nat} (h : Way D n m (j : Int) pre vis) (hd : Dn D r n) (hm : m < n) (hj : j < n) : pre.length < n * n := by
  have h1 : pre.length = (visL D n m).length + vis.length := by rw [← List.length_map (f := Subtype.val), h.pre, List.length_append, List.length_map]
  have h2 := visL_len (D := D) (n := n) m
  have h3 := pthI_len (D := D) (n := n) (m : Int)
  rw [h.vis, pthI_cons hd hj, List.length_append, List.length_cons] at h3
  have h4 : (m + 1) * n ≤ n * n := Nat.mul_le_mul_right _ hm
  rw [Nat.succ_mul] at h4
  omega
theorem Way.on {D : Nat → Int} {r : Nat → Nat} {n m j : Nat} {pre : List (V2 n)} {vis : List Nat} (h : Way D n m (j : Int) pre vis) (hd : Dn D r n) (hm : m < n) (hj : j < n) : Way D n m (D j) (pre ++ [⟨(m, j), hm, hj⟩]) (vis ++ [j]) := by
  refine ⟨by rw [List.map_append, h.pre]; simp, by rw [h.vis, pthI_cons hd hj]; simp, ?_⟩
  rcases hd.to j hj with h | ⟨k, h, hk, _⟩
  · exact .inl h
  · exact .inr ⟨k, h, hk⟩
theorem Way.all {D : Nat → Int} {n m : Nat} {x : Int} {pre : List (V2 n)} {vis : List Nat} (h : Way D n m x pre vis) (hx : x < 0) : pre.map Subtype.val = visL D n (m + 1) := by
  have h2 := h.vis
  rw [pthI_neg hx, List.append_nil] at h2
  rw [h.pre, visL_succ, h2]
def wayM (r : Nat → Nat) (x : Int) : Nat := if x < 0 then 0 else r x.toNat + 1
theorem wayM_on {D : Nat → Int} {r : Nat → Nat} {n j : Nat} (hd : Dn D r n) (hj : j < n) : wayM r (D j) < wayM r (j : Int) := by
  unfold wayM
  rw [if_neg (by omega : ¬ (j : Int) < 0), Int.toNat_natCast]
  rcases hd.to j hj with h | ⟨k, h, hk, hr⟩
  · rw [if_pos (by omega)]; omega
  · rw [if_neg (by omega), h, Int.toNat_natCast]; omega
set_option maxHeartbeats 4000000 in
theorem strm1_in {D : Nat → Int} {r : Nat → Nat} {n : Nat} (F : Fence) (N : Nat) (hF : F.fn 129) (hro : F.round = none) (hN : 1 ≤ N) (l Bs b0 cap : Nat) (a : Option Addr) (L : List Int) (hD : Dn D r n) (hLn : L.length = n) (hLD : ∀ i, i < n → L.getD i 0 = D i) (ha : ∀ p, a = some p → p.block ≠ b0) (hBs : Bs ≠ b0) (h256 : n ≤ 256) (J Jx : List (V2 n) → World → Prop)
    (hY : ∀ pre x W, J pre W → pre.length < n * n → YieldAt F (N - 1) Try.prog l #[.int .i64 (x.1.1 : Int), .int .i64 (x.1.2 : Int)] W fun e W' =>
      (e = .returned (.bool true) ∧ J (pre ++ [x]) W' ∧ KpO b0 W W') ∨ (e = .returned (.bool false) ∧ Jx (pre ++ [x]) W'))
    (W : World) (hc : W.cell? ⟨Bs, 0, none⟩ = some (.slice a n cap)) (hrow : IRow W a L) (h0 : J [] W) :
    CallsIn F N Try.prog 129 #[.func (.yield l) #[] #[], .pointer (some ⟨Bs, 0, none⟩)] W fun e W' => (∃ v, e = .returned v) ∧
      ((∃ ys : List (V2 n), ys.map Subtype.val = visL D n n ∧ J ys W') ∨ (∃ pre, True ∧ Jx pre W')) := by
  have HY := Hf.mk hY
  have HD := Hf.mk hD
  have HL := Hf.mk hLD
  have HA := Hf.mk ha
  have HR := Hf.mk hrow
  clear hY hD hLD ha hrow
  refine callsIn_of_wp Try.func129 rfl hF ?_ hro
  simp only [Try.ntmps129, List.size_toArray, List.length_cons, List.length_nil, Nat.reduceAdd, Nat.reduceSub, Array.replicate_succ, Array.replicate_zero, List.push_toArray, List.append_toArray, List.nil_append, List.cons_append]
  gi_wp2
  gi_loopw [7] (fun i wr => ∃ (m : Nat) (pre : List (V2 n)), m ≤ n ∧ i = .int .i64 m ∧ Hf (pre.map Subtype.val = visL D n m) ∧ Hf (J pre wr) ∧ Hf (KpO b0 W wr)) (fun i _ => n - (intOf i).toNat)
  case atStart => exact ⟨0, [], Nat.zero_le _, rfl, ⟨rfl⟩, ⟨h0⟩, ⟨kpO_refl _⟩⟩
  case round =>
    obtain ⟨m, pre, hm, rfl, hpre, hJ, hkp⟩ := hrel
    by_cases hlt : m < n
    · gi_wp2
      gi_loopw [4] (fun x wr => ∃ (x' : Int) (pre : List (V2 n)) (vis : List Nat), x = .int .i64 x' ∧ Hf (Way D n m x' pre vis) ∧ Hf (J pre wr) ∧ Hf (KpO b0 W wr)) (fun x _ => wayM r (intOf x))
      case atStart => exact ⟨(m : Int), pre, [], rfl, ⟨Way.start hpre.out hlt⟩, hJ, hkp⟩
      case round =>
        obtain ⟨x, pre2, vis, rfl, hw, hJ2, hkp2⟩ := hrel
        rcases hw.out.at' with rfl | ⟨j, rfl, hj⟩
        · have HW := Hf.mk (hw.out.all (by decide))
          gi_wp2
          go_roundw
          case rel => exact ⟨m + 1, pre2, by omega, i_ext2 (by omega), HW, hJ2, hkp2⟩
          case measure => simp [intOf]; omega
        · obtain ⟨fn, tmps, assign, body, hy, hR⟩ := HY.out pre2 ⟨(m, j), hlt, hj⟩ wr hJ2.out (hw.out.len HD.out hlt hj)
          dsimp only at hy
          have HO := Hf.mk (hw.out.on HD.out hlt hj)
          have HM := Hf.mk (wayM_on HD.out hj)
          gi_wp2
          refine hR.mono ?_
          rintro e W3 (⟨rfl, hJ3, hk3⟩ | ⟨rfl, hJx3⟩)
          · have HK := Hf.mk (kpO_t hkp2.out hk3)
            have c3 := HK.out _ _ hBs hc
            obtain ⟨p2, rfl, cc⟩ := (HR.out.kpO HK.out HA.out) j (by omega)
            rw [HL.out j hj] at cc
            have HJ3 := Hf.mk hJ3
            clear hJ3 hk3
            gi_wp2
            go_roundw
            case rel => exact ⟨_, _, _, rfl, HO, HJ3, HK⟩
            case measure => exact HM.out
          · gi_wp2
            refine bodyPost_ret (results_none rfl _ _ _) rfl ?_
            exact ⟨⟨_, rfl⟩, .inr ⟨_, trivial, hJx3⟩⟩
    · obtain rfl : m = n := by omega
      gi_wp2
      go_end0
      exact ⟨⟨_, rfl⟩, .inl ⟨pre, hpre.out, hJ.out⟩⟩
end Go.Proofs.Ytcgmffpddahgoab
