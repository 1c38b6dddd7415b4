/-
RecoverJournal of the program: a range over strings.Lines whose body appends, counts and checks.
-/
import Derived.Test.YtcgakdgfmhkpjaaDoorRji
import Derived.Test.YtcgakdgfmhkpjaaDoorRje
import Derived.Test.YtcgakdgfmhkpjaaDoorRjm
import Derived.Deep.AppendLies
namespace Go.Proofs.YtcgakdgfmhkpjaaDoor
open Go Go.RowKit
set_option maxRecDepth 100000
attribute [local go_sem] Oper.semAt_some

theorem lines_any {s : ByteArray} (w : World) : Calls Tryd.prog 69 #[.string s] w (fun e w' => e = .returned (.func (.func 104) #[] #[.pointer (some ⟨w.heap.size, 0, none⟩)]) ∧ w' = w.alloc (.cells #[.string s] 9)) := by
  go_enter Tryd.func69, Tryd.ntmps69
  go_wp2
  go_ret
  exact ⟨rfl, rfl⟩
theorem rown_lowJ {w : World} {base base' : Nat} {e : TypeId} {size n : Nat} {v : Value} {xs : List Value} (h : w.ownsRow base e size v n xs) (hb : base' ≤ base) : w.ownsRow base' e size v n xs := by
  obtain ⟨h0, h1⟩ := h
  refine ⟨h0, ?_⟩
  rcases h1 with h1 | ⟨g, cap, cur, hv, hg, hr⟩
  · exact .inl h1
  · exact .inr ⟨g, cap, cur, hv, Nat.le_trans hb hg, hr⟩
/-- the library's own variable -/
abbrev MlJ (w : World) (m : Int) : Prop := w.cell? ⟨0, 0, none⟩ = some (.int .i64 m)
theorem MlJ.on {w w' : World} {m : Int} (h : MlJ w m) (b : Below w.heap.size w w') : MlJ w' m := Below.keep b h
theorem own_blk {w : World} {base n k : Nat} {e : TypeId} {v : Value} {xs : List Value} (h : w.ownsRow base e 1 v n xs) (hk : v.ownBlock = some k) : base ≤ k ∧ ∃ o : Obj, w.heap[k]? = some o ∧ o.isCells = true := by
  rcases h.2 with ⟨rfl, _⟩ | ⟨g, cap, cur, rfl, hg, hh, _⟩
  · simp [Value.ownBlock] at hk
  · obtain rfl : g = k := by simpa [Value.ownBlock] using hk
    exact ⟨hg, _, hh, rfl⟩
/-- The state between two rounds: lines, how long they are, their check number. -/
structure Jst (n0 : Nat) (W0 : World) (P : List (List UInt8)) (W : World) : Prop where
  good : gdP P
  row : ∃ v, Boxed W n0 48 v ∧ W.ownsRow (n0 + 4) 9 1 v (lnP P).length (sRow (lnP P))
  cnt : Boxed W (n0 + 1) 3 (.int .i64 (cnP P : Int))
  chk : Boxed W (n0 + 1 + 1) 2 (.int .i64 (ckL (P.map trm)))
  below : Below n0 W0 W
  size : n0 + 4 ≤ W.heap.size
theorem Jst.kept {n0 : Nat} {W0 W V : World} {P : List (List UInt8)} {row : Option Nat} (h : Jst n0 W0 P W) (hg : W.grownBy V row) (hr : ∀ r, row = some r → n0 + 3 ≤ r ∧ (r = n0 + 3 ∨ ∃ o : Obj, W.heap[r]? = some o ∧ o.isCells = false)) : Jst n0 W0 P V := by
  obtain ⟨v, hv, ho⟩ := h.row
  refine ⟨h.good, ⟨v, hv.kept hg (fun e => by have := (hr _ e.symm).1; omega), ho.kept hg ?_⟩, h.cnt.kept hg (fun e => by have := (hr _ e.symm).1; omega), h.chk.kept hg (fun e => by have := (hr _ e.symm).1; omega), h.below.grown hg (by have := h.size; omega) (fun k hk => by have := (hr k hk).1; omega), Nat.le_trans h.size hg.size⟩
  cases hvb : v.ownBlock
  · exact .inl rfl
  · rename_i k
    refine .inr fun he => ?_
    obtain ⟨h1, o, h2, h3⟩ := own_blk ho hvb
    rcases (hr k he.symm).2 with h4 | ⟨o2, h4, h5⟩
    · omega
    · rw [h2] at h4; cases h4; rw [h3] at h5; cases h5
/-- Behind the append: what the stores find, and what is there behind them. -/
theorem Jst.up {n0 D : Nat} {W0 W w3 : World} {P : List (List UInt8)} {e : List UInt8} {v : Value} {g2 k2 : Nat} {lb : ByteArray} {c c2 : Int} (h : Jst n0 W0 P W) (hv : Boxed W n0 48 v) (ho : W.ownsRow (n0 + 4) 9 1 v (lnP P).length (sRow (lnP P)))
    (he : e = itL (ckL (P.map trm)) (trm e)) (hlb : lb = ofL (lnW (trm e))) (hc : c = (cnP P : Int) + (e.length : Int)) (hc2 : c2 = ckW (ckL (P.map trm)) (trm e))
    (o3 : w3.ownsRow (n0 + 4) 9 1 (.slice (some ⟨g2, 0, none⟩) ((lnP P).length + 1) k2) ((lnP P).length + 1) (sRow (lnP P) ++ [.string lb])) (hg : (W.alloc (.cells #[.string lb] 9)).grownBy w3 v.ownBlock) :
    (KeepsFrom D W (((w3.setCell ⟨n0, 0, none⟩ (.slice (some ⟨g2, 0, none⟩) ((lnP P).length + 1) k2)).setCell ⟨n0 + 1, 0, none⟩ (.int .i64 c)).setCell ⟨n0 + 1 + 1, 0, none⟩ (.int .i64 c2)) ∧ (((w3.setCell ⟨n0, 0, none⟩ (.slice (some ⟨g2, 0, none⟩) ((lnP P).length + 1) k2)).setCell ⟨n0 + 1, 0, none⟩ (.int .i64 c)).setCell ⟨n0 + 1 + 1, 0, none⟩ (.int .i64 c2)).heap[n0 + 1 + 1 + 1]? = W.heap[n0 + 1 + 1 + 1]? ∧ Jst n0 W0 (P ++ [e]) (((w3.setCell ⟨n0, 0, none⟩ (.slice (some ⟨g2, 0, none⟩) ((lnP P).length + 1) k2)).setCell ⟨n0 + 1, 0, none⟩ (.int .i64 c)).setCell ⟨n0 + 1 + 1, 0, none⟩ (.int .i64 c2))) ∧
    w3.cell? ⟨n0, 0, none⟩ = some v ∧ w3.frozen? ⟨n0, 0, none⟩ = false ∧ w3.cell? ⟨n0 + 1, 0, none⟩ = some (.int .i64 (cnP P : Int)) ∧ w3.frozen? ⟨n0 + 1, 0, none⟩ = false ∧
    (w3.setCell ⟨n0, 0, none⟩ (.slice (some ⟨g2, 0, none⟩) ((lnP P).length + 1) k2)).cell? ⟨n0 + 1, 0, none⟩ = some (.int .i64 (cnP P : Int)) ∧ (w3.setCell ⟨n0, 0, none⟩ (.slice (some ⟨g2, 0, none⟩) ((lnP P).length + 1) k2)).frozen? ⟨n0 + 1, 0, none⟩ = false ∧
    ((w3.setCell ⟨n0, 0, none⟩ (.slice (some ⟨g2, 0, none⟩) ((lnP P).length + 1) k2)).setCell ⟨n0 + 1, 0, none⟩ (.int .i64 c)).cell? ⟨n0 + 1 + 1, 0, none⟩ = some (.int .i64 (ckL (P.map trm))) ∧ ((w3.setCell ⟨n0, 0, none⟩ (.slice (some ⟨g2, 0, none⟩) ((lnP P).length + 1) k2)).setCell ⟨n0 + 1, 0, none⟩ (.int .i64 c)).frozen? ⟨n0 + 1 + 1, 0, none⟩ = false := by
  subst hlb hc hc2
  have hs := h.size
  have hnb : ∀ k, k < n0 + 4 → some k ≠ v.ownBlock := fun k hk e2 => by have := (own_blk ho e2.symm).1; omega
  obtain ⟨hv1, hv2, hr2, hk2, hb2⟩ := hv.appended (by decide) (rown_lowJ ho (by omega)) (show n0 ≤ W.heap.size by omega) (Nat.le_refl _) (rown_lowJ o3 (by omega)) hg
  have b1 := ((h.cnt.alloc (.cells #[.string (ofL (lnW (trm e)))] 9)).kept hg (hnb _ (by omega)))
  have b2 := ((h.chk.alloc (.cells #[.string (ofL (lnW (trm e)))] 9)).kept hg (hnb _ (by omega)))
  generalize hsl : Value.slice (some ⟨g2, 0, none⟩) ((lnP P).length + 1) k2 = sl at *
  have d1 := b1.other (B' := n0) (by omega) sl
  have d2 := (b2.other (B' := n0) (by omega) sl)
  have e2 := d2.other (B' := n0 + 1) (by omega) (.int .i64 ((cnP P : Int) + (e.length : Int)))
  have d1s := d1.set (.int .i64 ((cnP P : Int) + (e.length : Int)))
  have hv3 := hv2.other (B' := n0 + 1) (by omega) (.int .i64 ((cnP P : Int) + (e.length : Int)))
  refine ⟨⟨((hk2.trans (KeepsOthers.setCell _ _ _)).trans (KeepsOthers.setCell _ _ _)).from _, ?_, ?_⟩, hv1.cell, hv1.frozen, b1.cell, b1.frozen, d1.cell, d1.frozen, e2.cell, e2.frozen⟩
  · refine (Below.heap_setCell _ _ _ _ (by show n0 + 1 + 1 + 1 ≠ n0 + 1 + 1; omega)).trans ((Below.heap_setCell _ _ _ _ (by show n0 + 1 + 1 + 1 ≠ n0 + 1; omega)).trans ((Below.heap_setCell _ _ _ _ (by show n0 + 1 + 1 + 1 ≠ n0; omega)).trans ?_))
    exact (hg.block _ (by simp; omega) (hnb _ (by omega))).trans (Below.heap_alloc W _ _ (by omega))
  · have hlen : (lnP (P ++ [e])).length = (lnP P).length + 1 := by rw [lnP_snoc]; simp
    have hrow : sRow (lnP (P ++ [e])) = sRow (lnP P) ++ [.string (ofL (lnW (trm e)))] := by rw [lnP_snoc, ← sRow_app]
    have hsb : sl.ownBlock = some g2 := by rw [← hsl]; rfl
    have hg2 : n0 + 4 ≤ g2 := cu_ge o3 hsb
    refine ⟨gdP_snoc h.good he, ⟨sl, hv3.other (by omega) _, ?_⟩, ?_, ?_, ?_, ?_⟩
    · rw [hlen, hrow]
      refine ((o3.kept (grownBy_setCell' _ n0 _) (.inr ?_)).kept (grownBy_setCell' _ (n0 + 1) _) (.inr ?_)).kept (grownBy_setCell' _ (n0 + 1 + 1) _) (.inr ?_)
      all_goals
        rw [hsb]
        intro e5
        have := Option.some.inj e5
        omega
    · rw [cnP_snoc]
      push_cast
      exact d1s.other (by omega) _
    · rw [List.map_append, List.map_cons, List.map_nil, ckL_snoc]
      exact e2.set _
    · exact h.below.trans ((hb2.setCell (p := ⟨n0 + 1, 0, none⟩) (by show n0 ≤ n0 + 1; omega) _).setCell (p := ⟨n0 + 1 + 1, 0, none⟩) (by show n0 ≤ n0 + 1 + 1; omega) _)
    · have h1 := hb2.size
      simp only [World.size_setCell] at h1 ⊢
      omega
set_option maxHeartbeats 800000 in
theorem iRj_any {s : ByteArray} {mx : Int} (hs : s.size ≤ 16000) (w : World) (ht : P10 w) (hv : MlJ w mx) : Calls Tryd.prog 36 #[.string s] w (RJy 9 (rjM s.data.toList) (rjN s.data.toList) true w) := by
  obtain ⟨i0, hi0, hz0, hz1, hz2⟩ := info_parts (P := Tryd.prog) (e := 9) (z := .string ByteArray.empty) (size := 1) (bytes := 16) (by kernel_rfl)
  have KL := Hf.mk (fun w => lines_any (s := s) w)
  have HT := Hf.mk ht
  have HV := Hf.mk hv
  clear ht hv
  refine (callsIn_wide (n := 6)).1 ?_
  refine callsIn_of_wp_marks Tryd.func36 rfl trivial ?_ rfl
  simp only [Tryd.ntmps36, List.size_toArray, List.length_cons, List.length_nil, Nat.reduceAdd, Nat.reduceSub, Array.replicate_succ, Array.replicate_zero, List.push_toArray, List.append_toArray, List.nil_append, List.cons_append]
  gi_wp2_with (refine ⟨trivial, ?_⟩; gi_at_call 69; refine (callsIn_wide.2 (KL.out _)).mono ?_; rintro e w2 ⟨rfl, rfl⟩)
  obtain ⟨W0, hW0⟩ : ∃ W0, W0 = ((((w.alloc (.cells #[.slice none 0 0] 48)).alloc (.cells #[.int .i64 0] 3)).alloc (.cells #[.int .i64 0] 2)).alloc (.cells #[.string s] 9)) := ⟨_, rfl⟩
  have B0 : Below w.heap.size w W0 := by rw [hW0]; exact (by repeat (first | exact Below.refl _ _ | with_reducible assumption | refine Below.drews ?_ | refine Below.drew ?_ | refine Below.alloc ?_ (by simp <;> omega) _ | refine Below.setCell ?_ (by simp <;> omega) _))
  have hsz0 : W0.heap.size = w.heap.size + 4 := by rw [hW0]; simp
  have x1 : Boxed W0 w.heap.size 48 (.slice none 0 0) := by rw [hW0]; exact (((Boxed.new w _ _).alloc _).alloc _).alloc _
  have x2 : Boxed W0 (w.heap.size + 1) 3 (.int .i64 0) := by
    rw [hW0]
    have := Boxed.new (w.alloc (.cells #[.slice none 0 0] 48)) 3 (.int .i64 0)
    rw [World.size_alloc] at this
    exact (this.alloc _).alloc _
  have x3 : Boxed W0 (w.heap.size + 1 + 1) 2 (.int .i64 0) := by
    rw [hW0]
    have := Boxed.new ((w.alloc (.cells #[.slice none 0 0] 48)).alloc (.cells #[.int .i64 0] 3)) 2 (.int .i64 0)
    rw [World.size_alloc, World.size_alloc] at this
    exact this.alloc _
  have x4 : Boxed W0 (w.heap.size + 1 + 1 + 1) 9 (.string s) := by
    rw [hW0]
    have := Boxed.new (((w.alloc (.cells #[.slice none 0 0] 48)).alloc (.cells #[.int .i64 0] 3)).alloc (.cells #[.int .i64 0] 2)) 9 (.string s)
    rw [World.size_alloc, World.size_alloc, World.size_alloc] at this
    exact this
  rw [← hW0]
  have J0 : Jst w.heap.size W0 [] W0 := ⟨gdP_nil, ⟨_, x1, World.ownsRow_nil _ _ _ _⟩, x2, x3, Below.refl _ _, by omega⟩
  clear x1 x2 x3
  clear hW0
  refine range_var rfl (by omega) (gf := 104) (lb := #[.pointer (some ⟨w.heap.size + 1 + 1 + 1, 0, none⟩)]) rfl trivial (enters_of Tryd.func104 (by kernel_rfl) rfl)
    (encs := fun x : LnT => #[.string x.1]) (B := w.heap.size + 1 + 1 + 1) (by omega) (lines_in (q := 3) hs W0 x4) (fun _ => rfl)
    (fun pre W => Jst w.heap.size W0 (lnl pre) W)
    (fun c pre W => c = .exit 0 ∧ ∃ P e, lnl pre = P ++ [e] ∧ e ≠ itL (ckL (P.map trm)) (trm e) ∧ Jst w.heap.size W0 P W)
    (fun st A B row hs hg hr => hs.kept hg (fun r e => ⟨by have := (hr r e).1; omega, .inr (hr r e).2⟩))
    (fun c st A B row hs hg hr => by
      obtain ⟨h1, P, e, h2, h3, h4⟩ := hs
      exact ⟨h1, P, e, h2, h3, h4.kept hg (fun r e => ⟨by have := (hr r e).1; omega, .inr (hr r e).2⟩)⟩)
    (fun st A B row hs hg hr => hs.kept hg (fun r e => by have := hr r e; exact ⟨by omega, .inl (by omega)⟩))
    J0
    (fun x => { tmps := #[.string s, undef, .slice none 0 0, .int .i64 0, .bool false, .pointer (some ⟨w.heap.size, 0, none⟩), .pointer (some ⟨w.heap.size + 1, 0, none⟩), .pointer (some ⟨w.heap.size + 1 + 1, 0, none⟩), .string x.1, undef, undef, undef, undef, undef, .string s, .int .i64 (s.size : Int), .bool (decide ((16000 : Int) < (s.size : Int))), .string s, .func (.func 104) #[] #[.pointer (some ⟨w.heap.size + 1 + 1 + 1, 0, none⟩)], .string x.1, undef, undef, undef, undef, undef, undef, undef, undef, undef, undef, undef, undef, undef, undef, undef, undef, undef, undef, undef, undef, undef, undef, undef, undef, undef, undef, undef], defers := [] }) ?assign ?body ?done ?stop
  case assign =>
    intro l x W K hK
    gi_wp2
    exact hK
  case body =>
    intro l pre x W hI hlt
    obtain ⟨v, hv, ho⟩ := hI.row
    have hsW := hI.size
    have hc1 := hv.cell
    have hc2 := hI.cnt.cell
    have hc3 := hI.chk.cell
    have hle := x.2
    have hxl : x.1.data.toList.length = x.1.size := rfl
    have hpl : (lnP (lnl pre)).length ≤ 16001 := by
      have : (lnP (lnl pre)).length = pre.length := by simp [lnP, lnl]
      omega
    have hcb : cnP (lnl pre) ≤ 16001 * 16000 := by
      have h1 := cnP_le (P := lnl pre) (B := 16000) (fun e he => by
        obtain ⟨y, _, rfl⟩ := List.mem_map.1 he
        exact y.2)
      have h2 : (lnl pre).length = pre.length := by simp [lnl]
      rw [h2] at h1
      have h3 : pre.length * 16000 ≤ 16001 * 16000 := Nat.mul_le_mul_right _ (by omega)
      omega
    have hin := ckL_in ((lnl pre).map trm)
    have hll : (lnW (trm x.1.data.toList)).length ≤ 16000 := by
      have h1 := lnW_le (trm x.1.data.toList)
      have h2 := trm_le x.1.data.toList
      omega
    have KT : Hf (∀ w, Calls Tryd.prog 70 #[.string x.1, .string ⟨#[10]⟩] w (fun e w' => e = .returned (.string (ofL (trm x.1.data.toList))) ∧ w' = w)) := ⟨fun w => Tryd.strings_TrimSuffix x.1 ⟨#[10]⟩ w (by omega)⟩
    have KC : Hf (∀ w, MlJ w mx → Calls Tryd.prog 56 #[.string (ofL (trm x.1.data.toList)), .string ⟨#[32]⟩] w (fun e w' => e = .returned (.tuple #[.string (ofL (Lib.cut (trm x.1.data.toList) [32]).1), .string (ofL (Lib.cut (trm x.1.data.toList) [32]).2.1), .bool (Lib.cut (trm x.1.data.toList) [32]).2.2]) ∧ ∃ n, w' = w.drewN n)) := ⟨fun w hm => Tryd.strings_Cut (ofL (trm x.1.data.toList)) ⟨#[32]⟩ mx w (by rw [ofL_size]; have := trm_le x.1.data.toList; omega) hm⟩
    rw [cut_sp] at KC
    generalize ofL (Lib.cut (trm x.1.data.toList) [32]).1 = l1 at KC
    generalize (Lib.cut (trm x.1.data.toList) [32]).2.2 = l3 at KC
    have KE := Hf.mk (fun w ht => entryOf_any (l := lnW (trm x.1.data.toList)) (c := ckL ((lnl pre).map trm)) hll hin.1 hin.2 w ht)
    have BW : Below w.heap.size w W := Below.trans B0 hI.below
    have HTW := Hf.mk (HT.out.on BW)
    have HVW := Hf.mk (HV.out.on BW)
    have BR := Hb.mk (Below.refl W.heap.size W)
    have HI := Hf.mk hI
    have HO := Hf.mk ho
    have HX := Hf.mk hxl
    clear hI ho hxl BW
    generalize hcc : chkN (ofL (lnW (trm x.1.data.toList))) (ckL ((lnl pre).map trm)) (lnW (trm x.1.data.toList)).length = c2 at KE
    generalize hyy : ofL (Lib.itoa c2 ++ 32 :: lnW (trm x.1.data.toList) ++ [10]) = y at KE
    have HY : Hf (y = ofL (itL (ckL ((lnl pre).map trm)) (trm x.1.data.toList))) := ⟨by rw [← hyy, ← hcc]; rfl⟩
    have HC2 : Hf (c2 = ckW (ckL ((lnl pre).map trm)) (trm x.1.data.toList)) := ⟨hcc.symm⟩
    clear hyy hcc
    generalize ofL (trm x.1.data.toList) = tb at KT KC
    generalize hlb : ofL (lnW (trm x.1.data.toList)) = lb at *
    have HLB := Hf.mk hlb.symm
    clear hlb
    generalize hc1v : ckL ((lnl pre).map trm) = c1 at hc3 KE hin
    have HC1 := Hf.mk hc1v
    clear hc1v
    by_cases hgd : x.1 = y
    · have HG := Hf.mk hgd
      subst hgd
      gi_wp2_with (first
        | (refine ⟨trivial, ?_⟩; gi_at_call 70; refine (CallsIn.inRound l (callsIn_wide.2 (KT.out _))).mono ?_; rintro e w2 ⟨rfl, hw2⟩; rw [hw2]; clear hw2 w2)
        | (refine ⟨trivial, ?_⟩; gi_at_call 56; refine (CallsIn.inRound l (callsIn_wide.2 (KC.out _ HVW.out))).mono ?_; rintro e w2 ⟨rfl, n1, hw2⟩; rw [hw2]; clear hw2 w2)
        | (refine ⟨trivial, ?_⟩; gi_at_call 63; refine (CallsIn.inRound l (callsIn_wide.2 (KE.out _ (HTW.out.on (by repeat (first | exact Below.refl _ _ | with_reducible assumption | refine Below.drews ?_ | refine Below.drew ?_ | refine Below.alloc ?_ (by simp <;> omega) _ | refine Below.setCell ?_ (by simp <;> omega) _)))))).mono ?_; rintro e V ⟨rfl, b3⟩; have BV : Hb (Below W.heap.size W V) := ⟨⟨b3.os, b3.tape, b3.output, b3.size, b3.block⟩⟩; clear b3))
      have gV : W.grownBy V none := ⟨BV.out.os, BV.out.tape, BV.out.output, BV.out.size, fun k hk _ => BV.out.block k hk⟩
      have hIV : Jst w.heap.size W0 (lnl pre) V := HI.out.kept gV (fun r e => by cases e)
      have hvV : Boxed V w.heap.size 48 v := hv.kept gV (by simp)
      have hoV := cu_below HO.out BV.out
      have hsV := hIV.size
      have hlnl : lnl (pre ++ [x]) = lnl pre ++ [x.1.data.toList] := by simp [lnl]
      generalize hPP : lnl pre = P at *
      clear hPP
      have HEnd : Hf (∀ (g2 k2 : Nat) (w3 : World), w3.ownsRow (w.heap.size + 4) 9 1 (.slice (some ⟨g2, 0, none⟩) ((lnP P).length + 1) k2) ((lnP P).length + 1) (sRow (lnP P) ++ [.string lb]) → (V.alloc (.cells #[.string lb] 9)).grownBy w3 v.ownBlock →
          (KeepsFrom W0.heap.size W (((w3.setCell ⟨w.heap.size, 0, none⟩ (.slice (some ⟨g2, 0, none⟩) ((lnP P).length + 1) k2)).setCell ⟨w.heap.size + 1, 0, none⟩ (.int .i64 ((cnP P : Int) + (x.1.size : Int)))).setCell ⟨w.heap.size + 1 + 1, 0, none⟩ (.int .i64 c2)) ∧ (((w3.setCell ⟨w.heap.size, 0, none⟩ (.slice (some ⟨g2, 0, none⟩) ((lnP P).length + 1) k2)).setCell ⟨w.heap.size + 1, 0, none⟩ (.int .i64 ((cnP P : Int) + (x.1.size : Int)))).setCell ⟨w.heap.size + 1 + 1, 0, none⟩ (.int .i64 c2)).heap[w.heap.size + 1 + 1 + 1]? = W.heap[w.heap.size + 1 + 1 + 1]? ∧ Jst w.heap.size W0 (lnl (pre ++ [x])) (((w3.setCell ⟨w.heap.size, 0, none⟩ (.slice (some ⟨g2, 0, none⟩) ((lnP P).length + 1) k2)).setCell ⟨w.heap.size + 1, 0, none⟩ (.int .i64 ((cnP P : Int) + (x.1.size : Int)))).setCell ⟨w.heap.size + 1 + 1, 0, none⟩ (.int .i64 c2))) ∧
          w3.cell? ⟨w.heap.size, 0, none⟩ = some v ∧ w3.frozen? ⟨w.heap.size, 0, none⟩ = false ∧ w3.cell? ⟨w.heap.size + 1, 0, none⟩ = some (.int .i64 (cnP P : Int)) ∧ w3.frozen? ⟨w.heap.size + 1, 0, none⟩ = false ∧
          (w3.setCell ⟨w.heap.size, 0, none⟩ (.slice (some ⟨g2, 0, none⟩) ((lnP P).length + 1) k2)).cell? ⟨w.heap.size + 1, 0, none⟩ = some (.int .i64 (cnP P : Int)) ∧ (w3.setCell ⟨w.heap.size, 0, none⟩ (.slice (some ⟨g2, 0, none⟩) ((lnP P).length + 1) k2)).frozen? ⟨w.heap.size + 1, 0, none⟩ = false ∧
          ((w3.setCell ⟨w.heap.size, 0, none⟩ (.slice (some ⟨g2, 0, none⟩) ((lnP P).length + 1) k2)).setCell ⟨w.heap.size + 1, 0, none⟩ (.int .i64 ((cnP P : Int) + (x.1.size : Int)))).cell? ⟨w.heap.size + 1 + 1, 0, none⟩ = some (.int .i64 (ckL (P.map trm))) ∧ ((w3.setCell ⟨w.heap.size, 0, none⟩ (.slice (some ⟨g2, 0, none⟩) ((lnP P).length + 1) k2)).setCell ⟨w.heap.size + 1, 0, none⟩ (.int .i64 ((cnP P : Int) + (x.1.size : Int)))).frozen? ⟨w.heap.size + 1 + 1, 0, none⟩ = false) := ⟨fun g2 k2 w3 o3 hg => by
        obtain ⟨⟨j0, j1, j2⟩, rest⟩ := hIV.up (D := W0.heap.size) (c := (cnP P : Int) + (x.1.size : Int)) (c2 := c2) (e := x.1.data.toList) hvV hoV (congrArg (fun z : ByteArray => z.data.toList) HY.out) HLB.out (by rw [HX.out]) HC2.out o3 hg
        exact ⟨⟨(KeepsFrom.of_grownBy gV (fun j e => by cases e)).trans j0, j1.trans (BV.out.block _ (by omega)), by rw [hlnl]; exact j2⟩, rest⟩⟩
      have HR : Hf (∀ o, (V.alloc o).drew.ownsRow (w.heap.size + 4) 9 1 v (lnP P).length (sRow (lnP P))) := ⟨fun o => hoV.alloc o⟩
      clear hc1 hc2 hc3
      have hc1 := hvV.cell
      have hc2 := hIV.cnt.cell
      have hc3 := hIV.chk.cell
      have m1 : w.heap.size ≠ V.heap.size := by omega
      have m2 : w.heap.size + 1 ≠ V.heap.size := by omega
      have m3 : V.heap.size ≠ w.heap.size := by omega
      have m4 : V.heap.size ≠ w.heap.size + 1 := by omega
      have m5 : w.heap.size < V.heap.size := by omega
      have m6 : w.heap.size + 1 < V.heap.size := by omega
      have hwr : IntKind.i64.wrap ((cnP P : Int) + (x.1.size : Int)) = (cnP P : Int) + (x.1.size : Int) := IntWalk.i64_in _ ⟨by omega, by omega⟩
      clear hIV hvV hoV gV hlnl
      refine region_round (by kernel_rfl) (by kernel_rfl) (fun ⟨_, _, h⟩ => h) ?_
      refine wpAny_take (i := 1) (v := .string lb) rfl (by kernel_rfl) (by kernel_rfl) (by kernel_rfl) (fun _ _ _ h => h) (Or.inl ⟨by rfl, fun w' => by go_simp⟩) ?_
      try simp only [Act.put, List.setIfInBounds_toArray, List.set_cons_zero, List.set_cons_succ]
      refine wpAny_take (i := 5) (v := .string x.1) rfl (by kernel_rfl) (by kernel_rfl) (by kernel_rfl) (fun _ _ _ h => h) (Or.inl ⟨by rfl, fun w' => by go_simp⟩) ?_
      try simp only [Act.put, List.setIfInBounds_toArray, List.set_cons_zero, List.set_cons_succ]
      refine wpAny_take (i := 6) (v := .int .i64 (x.1.size : Int)) rfl (by kernel_rfl) (by kernel_rfl) (by kernel_rfl) (fun _ _ _ h => h) (Or.inl ⟨by rfl, fun w' => by go_simp⟩) ?_
      try simp only [Act.put, List.setIfInBounds_toArray, List.set_cons_zero, List.set_cons_succ]
      refine wpAny_take (i := 8) (v := .int .i64 c2) rfl (by kernel_rfl) (by kernel_rfl) (by kernel_rfl) (fun _ _ _ h => h) (Or.inl ⟨by rfl, fun w' => by go_simp⟩) ?_
      try simp only [Act.put, List.setIfInBounds_toArray, List.set_cons_zero, List.set_cons_succ]
      refine wpAny_ready (rs := [0, 2, 4]) (by kernel_rfl) (by simp) ?_
      refine AllReady.cons rfl (fun K hK => ?_) (AllReady.cons rfl (fun K hK => ?_) (AllReady.cons rfl (fun K hK => ?_) AllReady.nil))
      · go_simp
        refine hK _ _ ?_
        clear hK K
        try simp only [Act.put, List.setIfInBounds_toArray, List.set_cons_zero, List.set_cons_succ]
        refine wpAny_ready (rs := [2, 4]) (by kernel_rfl) (by simp) ?_
        refine AllReady.cons rfl (fun K hK => ?_) (AllReady.cons rfl (fun K hK => ?_) AllReady.nil)
        · go_simp
          refine hK _ _ ?_
          clear hK K
          try simp only [Act.put, List.setIfInBounds_toArray, List.set_cons_zero, List.set_cons_succ]
          refine wpAny_ready (rs := [3, 4]) (by kernel_rfl) (by simp) ?_
          refine AllReady.cons rfl (fun K hK => ?_) (AllReady.cons rfl (fun K hK => ?_) AllReady.nil)
          · refine step_append_lies _ (by rfl) _ _ _ (by rfl) (w.heap.size + 4) 9 i0 _ 1 16 Tryd.underlying48 hi0 hz0 hz1 hz2 rfl (by decide) v (lnP P).length (sRow (lnP P)) (by rfl) (HR.out _) ⟨V.heap.size, 0, none⟩ 1 1 [.string lb] (by rfl) (by rfl) (str_one V _ _) rt_str (by decide) (by unfold maxLen; omega) (by omega) (by simp; omega) _ rfl ?_
            intro g2 k2 w3 o3 hgrow3 hat hlt3
            obtain ⟨HF0, p1, f1, p2, f2, q2, r2, q3, r3⟩ := HEnd.out _ _ _ o3 ⟨hgrow3.os, hgrow3.tape, hgrow3.output, hgrow3.size, hgrow3.block⟩
            have HF := Hf.mk HF0
            clear HF0 o3 hgrow3
            refine hK _ _ ?_
            clear hK K
            try simp only [Act.put, List.setIfInBounds_toArray, List.set_cons_zero, List.set_cons_succ]
            refine wpAny_ready (rs := [4, 9]) (by kernel_rfl) (by simp) ?_
            refine AllReady.cons rfl (fun K hK => ?_) (AllReady.cons rfl (fun K hK => ?_) AllReady.nil)
            · go_simp
              refine hK _ _ ?_
              clear hK K
              try simp only [Act.put, List.setIfInBounds_toArray, List.set_cons_zero, List.set_cons_succ]
              refine wpAny_take (i := 7) (v := .int .i64 ((cnP P : Int) + (x.1.size : Int))) rfl (by kernel_rfl) (by kernel_rfl) (by kernel_rfl) (fun _ _ _ h => h) (Or.inl ⟨by rfl, fun w' => by first | (go_simp; done) | (go_simp; exact hwr)⟩) ?_
              try simp only [Act.put, List.setIfInBounds_toArray, List.set_cons_zero, List.set_cons_succ]
              refine wpAny_ready (rs := [9]) (by kernel_rfl) (by simp) ?_
              refine AllReady.cons rfl (fun K hK => ?_) AllReady.nil
              · go_simp
                refine hK _ _ ?_
                clear hK K
                try simp only [Act.put, List.setIfInBounds_toArray, List.set_cons_zero, List.set_cons_succ]
                refine wpAny_ready (rs := [10]) (by kernel_rfl) (by simp) ?_
                refine AllReady.cons rfl (fun K hK => ?_) AllReady.nil
                · go_simp
                  refine hK _ _ ?_
                  clear hK K
                  try simp only [Act.put, List.setIfInBounds_toArray, List.set_cons_zero, List.set_cons_succ]
                  refine wpAny_ready (rs := [11]) (by kernel_rfl) (by simp) ?_
                  refine AllReady.cons rfl (fun K hK => ?_) AllReady.nil
                  · go_simp
                    refine hK _ _ ?_
                    clear hK K
                    try simp only [Act.put, List.setIfInBounds_toArray, List.set_cons_zero, List.set_cons_succ]
                    exact wpAny_done (by kernel_rfl) HF.out _
            · go_simp
              refine hK _ _ ?_
              clear hK K
              try simp only [Act.put, List.setIfInBounds_toArray, List.set_cons_zero, List.set_cons_succ]
              refine wpAny_ready (rs := [4]) (by kernel_rfl) (by simp) ?_
              refine AllReady.cons rfl (fun K hK => ?_) AllReady.nil
              · go_simp
                refine hK _ _ ?_
                clear hK K
                try simp only [Act.put, List.setIfInBounds_toArray, List.set_cons_zero, List.set_cons_succ]
                refine wpAny_take (i := 7) (v := .int .i64 ((cnP P : Int) + (x.1.size : Int))) rfl (by kernel_rfl) (by kernel_rfl) (by kernel_rfl) (fun _ _ _ h => h) (Or.inl ⟨by rfl, fun w' => by first | (go_simp; done) | (go_simp; exact hwr)⟩) ?_
                try simp only [Act.put, List.setIfInBounds_toArray, List.set_cons_zero, List.set_cons_succ]
                refine wpAny_ready (rs := [10]) (by kernel_rfl) (by simp) ?_
                refine AllReady.cons rfl (fun K hK => ?_) AllReady.nil
                · go_simp
                  refine hK _ _ ?_
                  clear hK K
                  try simp only [Act.put, List.setIfInBounds_toArray, List.set_cons_zero, List.set_cons_succ]
                  refine wpAny_ready (rs := [11]) (by kernel_rfl) (by simp) ?_
                  refine AllReady.cons rfl (fun K hK => ?_) AllReady.nil
                  · go_simp
                    refine hK _ _ ?_
                    clear hK K
                    try simp only [Act.put, List.setIfInBounds_toArray, List.set_cons_zero, List.set_cons_succ]
                    exact wpAny_done (by kernel_rfl) HF.out _
          · go_simp
            refine hK _ _ ?_
            clear hK K
            try simp only [Act.put, List.setIfInBounds_toArray, List.set_cons_zero, List.set_cons_succ]
            refine wpAny_take (i := 7) (v := .int .i64 ((cnP P : Int) + (x.1.size : Int))) rfl (by kernel_rfl) (by kernel_rfl) (by kernel_rfl) (fun _ _ _ h => h) (Or.inl ⟨by rfl, fun w' => by first | (go_simp; done) | (go_simp; exact hwr)⟩) ?_
            try simp only [Act.put, List.setIfInBounds_toArray, List.set_cons_zero, List.set_cons_succ]
            refine wpAny_ready (rs := [3]) (by kernel_rfl) (by simp) ?_
            refine AllReady.cons rfl (fun K hK => ?_) AllReady.nil
            · refine step_append_lies _ (by rfl) _ _ _ (by rfl) (w.heap.size + 4) 9 i0 _ 1 16 Tryd.underlying48 hi0 hz0 hz1 hz2 rfl (by decide) v (lnP P).length (sRow (lnP P)) (by rfl) (HR.out _) ⟨V.heap.size, 0, none⟩ 1 1 [.string lb] (by rfl) (by rfl) (str_one V _ _) rt_str (by decide) (by unfold maxLen; omega) (by omega) (by simp; omega) _ rfl ?_
              intro g2 k2 w3 o3 hgrow3 hat hlt3
              obtain ⟨HF0, p1, f1, p2, f2, q2, r2, q3, r3⟩ := HEnd.out _ _ _ o3 ⟨hgrow3.os, hgrow3.tape, hgrow3.output, hgrow3.size, hgrow3.block⟩
              have HF := Hf.mk HF0
              clear HF0 o3 hgrow3
              refine hK _ _ ?_
              clear hK K
              try simp only [Act.put, List.setIfInBounds_toArray, List.set_cons_zero, List.set_cons_succ]
              refine wpAny_ready (rs := [9]) (by kernel_rfl) (by simp) ?_
              refine AllReady.cons rfl (fun K hK => ?_) AllReady.nil
              · go_simp
                refine hK _ _ ?_
                clear hK K
                try simp only [Act.put, List.setIfInBounds_toArray, List.set_cons_zero, List.set_cons_succ]
                refine wpAny_ready (rs := [10]) (by kernel_rfl) (by simp) ?_
                refine AllReady.cons rfl (fun K hK => ?_) AllReady.nil
                · go_simp
                  refine hK _ _ ?_
                  clear hK K
                  try simp only [Act.put, List.setIfInBounds_toArray, List.set_cons_zero, List.set_cons_succ]
                  refine wpAny_ready (rs := [11]) (by kernel_rfl) (by simp) ?_
                  refine AllReady.cons rfl (fun K hK => ?_) AllReady.nil
                  · go_simp
                    refine hK _ _ ?_
                    clear hK K
                    try simp only [Act.put, List.setIfInBounds_toArray, List.set_cons_zero, List.set_cons_succ]
                    exact wpAny_done (by kernel_rfl) HF.out _
        · go_simp
          refine hK _ _ ?_
          clear hK K
          try simp only [Act.put, List.setIfInBounds_toArray, List.set_cons_zero, List.set_cons_succ]
          refine wpAny_take (i := 7) (v := .int .i64 ((cnP P : Int) + (x.1.size : Int))) rfl (by kernel_rfl) (by kernel_rfl) (by kernel_rfl) (fun _ _ _ h => h) (Or.inl ⟨by rfl, fun w' => by first | (go_simp; done) | (go_simp; exact hwr)⟩) ?_
          try simp only [Act.put, List.setIfInBounds_toArray, List.set_cons_zero, List.set_cons_succ]
          refine wpAny_ready (rs := [2]) (by kernel_rfl) (by simp) ?_
          refine AllReady.cons rfl (fun K hK => ?_) AllReady.nil
          · go_simp
            refine hK _ _ ?_
            clear hK K
            try simp only [Act.put, List.setIfInBounds_toArray, List.set_cons_zero, List.set_cons_succ]
            refine wpAny_ready (rs := [3]) (by kernel_rfl) (by simp) ?_
            refine AllReady.cons rfl (fun K hK => ?_) AllReady.nil
            · refine step_append_lies _ (by rfl) _ _ _ (by rfl) (w.heap.size + 4) 9 i0 _ 1 16 Tryd.underlying48 hi0 hz0 hz1 hz2 rfl (by decide) v (lnP P).length (sRow (lnP P)) (by rfl) (HR.out _) ⟨V.heap.size, 0, none⟩ 1 1 [.string lb] (by rfl) (by rfl) (str_one V _ _) rt_str (by decide) (by unfold maxLen; omega) (by omega) (by simp; omega) _ rfl ?_
              intro g2 k2 w3 o3 hgrow3 hat hlt3
              obtain ⟨HF0, p1, f1, p2, f2, q2, r2, q3, r3⟩ := HEnd.out _ _ _ o3 ⟨hgrow3.os, hgrow3.tape, hgrow3.output, hgrow3.size, hgrow3.block⟩
              have HF := Hf.mk HF0
              clear HF0 o3 hgrow3
              refine hK _ _ ?_
              clear hK K
              try simp only [Act.put, List.setIfInBounds_toArray, List.set_cons_zero, List.set_cons_succ]
              refine wpAny_ready (rs := [9]) (by kernel_rfl) (by simp) ?_
              refine AllReady.cons rfl (fun K hK => ?_) AllReady.nil
              · go_simp
                refine hK _ _ ?_
                clear hK K
                try simp only [Act.put, List.setIfInBounds_toArray, List.set_cons_zero, List.set_cons_succ]
                refine wpAny_ready (rs := [10]) (by kernel_rfl) (by simp) ?_
                refine AllReady.cons rfl (fun K hK => ?_) AllReady.nil
                · go_simp
                  refine hK _ _ ?_
                  clear hK K
                  try simp only [Act.put, List.setIfInBounds_toArray, List.set_cons_zero, List.set_cons_succ]
                  refine wpAny_ready (rs := [11]) (by kernel_rfl) (by simp) ?_
                  refine AllReady.cons rfl (fun K hK => ?_) AllReady.nil
                  · go_simp
                    refine hK _ _ ?_
                    clear hK K
                    try simp only [Act.put, List.setIfInBounds_toArray, List.set_cons_zero, List.set_cons_succ]
                    exact wpAny_done (by kernel_rfl) HF.out _
      · go_simp
        refine hK _ _ ?_
        clear hK K
        try simp only [Act.put, List.setIfInBounds_toArray, List.set_cons_zero, List.set_cons_succ]
        refine wpAny_ready (rs := [0, 4]) (by kernel_rfl) (by simp) ?_
        refine AllReady.cons rfl (fun K hK => ?_) (AllReady.cons rfl (fun K hK => ?_) AllReady.nil)
        · go_simp
          refine hK _ _ ?_
          clear hK K
          try simp only [Act.put, List.setIfInBounds_toArray, List.set_cons_zero, List.set_cons_succ]
          refine wpAny_ready (rs := [3, 4]) (by kernel_rfl) (by simp) ?_
          refine AllReady.cons rfl (fun K hK => ?_) (AllReady.cons rfl (fun K hK => ?_) AllReady.nil)
          · refine step_append_lies _ (by rfl) _ _ _ (by rfl) (w.heap.size + 4) 9 i0 _ 1 16 Tryd.underlying48 hi0 hz0 hz1 hz2 rfl (by decide) v (lnP P).length (sRow (lnP P)) (by rfl) (HR.out _) ⟨V.heap.size, 0, none⟩ 1 1 [.string lb] (by rfl) (by rfl) (str_one V _ _) rt_str (by decide) (by unfold maxLen; omega) (by omega) (by simp; omega) _ rfl ?_
            intro g2 k2 w3 o3 hgrow3 hat hlt3
            obtain ⟨HF0, p1, f1, p2, f2, q2, r2, q3, r3⟩ := HEnd.out _ _ _ o3 ⟨hgrow3.os, hgrow3.tape, hgrow3.output, hgrow3.size, hgrow3.block⟩
            have HF := Hf.mk HF0
            clear HF0 o3 hgrow3
            refine hK _ _ ?_
            clear hK K
            try simp only [Act.put, List.setIfInBounds_toArray, List.set_cons_zero, List.set_cons_succ]
            refine wpAny_ready (rs := [4, 9]) (by kernel_rfl) (by simp) ?_
            refine AllReady.cons rfl (fun K hK => ?_) (AllReady.cons rfl (fun K hK => ?_) AllReady.nil)
            · go_simp
              refine hK _ _ ?_
              clear hK K
              try simp only [Act.put, List.setIfInBounds_toArray, List.set_cons_zero, List.set_cons_succ]
              refine wpAny_take (i := 7) (v := .int .i64 ((cnP P : Int) + (x.1.size : Int))) rfl (by kernel_rfl) (by kernel_rfl) (by kernel_rfl) (fun _ _ _ h => h) (Or.inl ⟨by rfl, fun w' => by first | (go_simp; done) | (go_simp; exact hwr)⟩) ?_
              try simp only [Act.put, List.setIfInBounds_toArray, List.set_cons_zero, List.set_cons_succ]
              refine wpAny_ready (rs := [9]) (by kernel_rfl) (by simp) ?_
              refine AllReady.cons rfl (fun K hK => ?_) AllReady.nil
              · go_simp
                refine hK _ _ ?_
                clear hK K
                try simp only [Act.put, List.setIfInBounds_toArray, List.set_cons_zero, List.set_cons_succ]
                refine wpAny_ready (rs := [10]) (by kernel_rfl) (by simp) ?_
                refine AllReady.cons rfl (fun K hK => ?_) AllReady.nil
                · go_simp
                  refine hK _ _ ?_
                  clear hK K
                  try simp only [Act.put, List.setIfInBounds_toArray, List.set_cons_zero, List.set_cons_succ]
                  refine wpAny_ready (rs := [11]) (by kernel_rfl) (by simp) ?_
                  refine AllReady.cons rfl (fun K hK => ?_) AllReady.nil
                  · go_simp
                    refine hK _ _ ?_
                    clear hK K
                    try simp only [Act.put, List.setIfInBounds_toArray, List.set_cons_zero, List.set_cons_succ]
                    exact wpAny_done (by kernel_rfl) HF.out _
            · go_simp
              refine hK _ _ ?_
              clear hK K
              try simp only [Act.put, List.setIfInBounds_toArray, List.set_cons_zero, List.set_cons_succ]
              refine wpAny_ready (rs := [4]) (by kernel_rfl) (by simp) ?_
              refine AllReady.cons rfl (fun K hK => ?_) AllReady.nil
              · go_simp
                refine hK _ _ ?_
                clear hK K
                try simp only [Act.put, List.setIfInBounds_toArray, List.set_cons_zero, List.set_cons_succ]
                refine wpAny_take (i := 7) (v := .int .i64 ((cnP P : Int) + (x.1.size : Int))) rfl (by kernel_rfl) (by kernel_rfl) (by kernel_rfl) (fun _ _ _ h => h) (Or.inl ⟨by rfl, fun w' => by first | (go_simp; done) | (go_simp; exact hwr)⟩) ?_
                try simp only [Act.put, List.setIfInBounds_toArray, List.set_cons_zero, List.set_cons_succ]
                refine wpAny_ready (rs := [10]) (by kernel_rfl) (by simp) ?_
                refine AllReady.cons rfl (fun K hK => ?_) AllReady.nil
                · go_simp
                  refine hK _ _ ?_
                  clear hK K
                  try simp only [Act.put, List.setIfInBounds_toArray, List.set_cons_zero, List.set_cons_succ]
                  refine wpAny_ready (rs := [11]) (by kernel_rfl) (by simp) ?_
                  refine AllReady.cons rfl (fun K hK => ?_) AllReady.nil
                  · go_simp
                    refine hK _ _ ?_
                    clear hK K
                    try simp only [Act.put, List.setIfInBounds_toArray, List.set_cons_zero, List.set_cons_succ]
                    exact wpAny_done (by kernel_rfl) HF.out _
          · go_simp
            refine hK _ _ ?_
            clear hK K
            try simp only [Act.put, List.setIfInBounds_toArray, List.set_cons_zero, List.set_cons_succ]
            refine wpAny_take (i := 7) (v := .int .i64 ((cnP P : Int) + (x.1.size : Int))) rfl (by kernel_rfl) (by kernel_rfl) (by kernel_rfl) (fun _ _ _ h => h) (Or.inl ⟨by rfl, fun w' => by first | (go_simp; done) | (go_simp; exact hwr)⟩) ?_
            try simp only [Act.put, List.setIfInBounds_toArray, List.set_cons_zero, List.set_cons_succ]
            refine wpAny_ready (rs := [3]) (by kernel_rfl) (by simp) ?_
            refine AllReady.cons rfl (fun K hK => ?_) AllReady.nil
            · refine step_append_lies _ (by rfl) _ _ _ (by rfl) (w.heap.size + 4) 9 i0 _ 1 16 Tryd.underlying48 hi0 hz0 hz1 hz2 rfl (by decide) v (lnP P).length (sRow (lnP P)) (by rfl) (HR.out _) ⟨V.heap.size, 0, none⟩ 1 1 [.string lb] (by rfl) (by rfl) (str_one V _ _) rt_str (by decide) (by unfold maxLen; omega) (by omega) (by simp; omega) _ rfl ?_
              intro g2 k2 w3 o3 hgrow3 hat hlt3
              obtain ⟨HF0, p1, f1, p2, f2, q2, r2, q3, r3⟩ := HEnd.out _ _ _ o3 ⟨hgrow3.os, hgrow3.tape, hgrow3.output, hgrow3.size, hgrow3.block⟩
              have HF := Hf.mk HF0
              clear HF0 o3 hgrow3
              refine hK _ _ ?_
              clear hK K
              try simp only [Act.put, List.setIfInBounds_toArray, List.set_cons_zero, List.set_cons_succ]
              refine wpAny_ready (rs := [9]) (by kernel_rfl) (by simp) ?_
              refine AllReady.cons rfl (fun K hK => ?_) AllReady.nil
              · go_simp
                refine hK _ _ ?_
                clear hK K
                try simp only [Act.put, List.setIfInBounds_toArray, List.set_cons_zero, List.set_cons_succ]
                refine wpAny_ready (rs := [10]) (by kernel_rfl) (by simp) ?_
                refine AllReady.cons rfl (fun K hK => ?_) AllReady.nil
                · go_simp
                  refine hK _ _ ?_
                  clear hK K
                  try simp only [Act.put, List.setIfInBounds_toArray, List.set_cons_zero, List.set_cons_succ]
                  refine wpAny_ready (rs := [11]) (by kernel_rfl) (by simp) ?_
                  refine AllReady.cons rfl (fun K hK => ?_) AllReady.nil
                  · go_simp
                    refine hK _ _ ?_
                    clear hK K
                    try simp only [Act.put, List.setIfInBounds_toArray, List.set_cons_zero, List.set_cons_succ]
                    exact wpAny_done (by kernel_rfl) HF.out _
        · go_simp
          refine hK _ _ ?_
          clear hK K
          try simp only [Act.put, List.setIfInBounds_toArray, List.set_cons_zero, List.set_cons_succ]
          refine wpAny_take (i := 7) (v := .int .i64 ((cnP P : Int) + (x.1.size : Int))) rfl (by kernel_rfl) (by kernel_rfl) (by kernel_rfl) (fun _ _ _ h => h) (Or.inl ⟨by rfl, fun w' => by first | (go_simp; done) | (go_simp; exact hwr)⟩) ?_
          try simp only [Act.put, List.setIfInBounds_toArray, List.set_cons_zero, List.set_cons_succ]
          refine wpAny_ready (rs := [0]) (by kernel_rfl) (by simp) ?_
          refine AllReady.cons rfl (fun K hK => ?_) AllReady.nil
          · go_simp
            refine hK _ _ ?_
            clear hK K
            try simp only [Act.put, List.setIfInBounds_toArray, List.set_cons_zero, List.set_cons_succ]
            refine wpAny_ready (rs := [3]) (by kernel_rfl) (by simp) ?_
            refine AllReady.cons rfl (fun K hK => ?_) AllReady.nil
            · refine step_append_lies _ (by rfl) _ _ _ (by rfl) (w.heap.size + 4) 9 i0 _ 1 16 Tryd.underlying48 hi0 hz0 hz1 hz2 rfl (by decide) v (lnP P).length (sRow (lnP P)) (by rfl) (HR.out _) ⟨V.heap.size, 0, none⟩ 1 1 [.string lb] (by rfl) (by rfl) (str_one V _ _) rt_str (by decide) (by unfold maxLen; omega) (by omega) (by simp; omega) _ rfl ?_
              intro g2 k2 w3 o3 hgrow3 hat hlt3
              obtain ⟨HF0, p1, f1, p2, f2, q2, r2, q3, r3⟩ := HEnd.out _ _ _ o3 ⟨hgrow3.os, hgrow3.tape, hgrow3.output, hgrow3.size, hgrow3.block⟩
              have HF := Hf.mk HF0
              clear HF0 o3 hgrow3
              refine hK _ _ ?_
              clear hK K
              try simp only [Act.put, List.setIfInBounds_toArray, List.set_cons_zero, List.set_cons_succ]
              refine wpAny_ready (rs := [9]) (by kernel_rfl) (by simp) ?_
              refine AllReady.cons rfl (fun K hK => ?_) AllReady.nil
              · go_simp
                refine hK _ _ ?_
                clear hK K
                try simp only [Act.put, List.setIfInBounds_toArray, List.set_cons_zero, List.set_cons_succ]
                refine wpAny_ready (rs := [10]) (by kernel_rfl) (by simp) ?_
                refine AllReady.cons rfl (fun K hK => ?_) AllReady.nil
                · go_simp
                  refine hK _ _ ?_
                  clear hK K
                  try simp only [Act.put, List.setIfInBounds_toArray, List.set_cons_zero, List.set_cons_succ]
                  refine wpAny_ready (rs := [11]) (by kernel_rfl) (by simp) ?_
                  refine AllReady.cons rfl (fun K hK => ?_) AllReady.nil
                  · go_simp
                    refine hK _ _ ?_
                    clear hK K
                    try simp only [Act.put, List.setIfInBounds_toArray, List.set_cons_zero, List.set_cons_succ]
                    exact wpAny_done (by kernel_rfl) HF.out _
      · go_simp
        refine hK _ _ ?_
        clear hK K
        try simp only [Act.put, List.setIfInBounds_toArray, List.set_cons_zero, List.set_cons_succ]
        refine wpAny_take (i := 7) (v := .int .i64 ((cnP P : Int) + (x.1.size : Int))) rfl (by kernel_rfl) (by kernel_rfl) (by kernel_rfl) (fun _ _ _ h => h) (Or.inl ⟨by rfl, fun w' => by first | (go_simp; done) | (go_simp; exact hwr)⟩) ?_
        try simp only [Act.put, List.setIfInBounds_toArray, List.set_cons_zero, List.set_cons_succ]
        refine wpAny_ready (rs := [0, 2]) (by kernel_rfl) (by simp) ?_
        refine AllReady.cons rfl (fun K hK => ?_) (AllReady.cons rfl (fun K hK => ?_) AllReady.nil)
        · go_simp
          refine hK _ _ ?_
          clear hK K
          try simp only [Act.put, List.setIfInBounds_toArray, List.set_cons_zero, List.set_cons_succ]
          refine wpAny_ready (rs := [2]) (by kernel_rfl) (by simp) ?_
          refine AllReady.cons rfl (fun K hK => ?_) AllReady.nil
          · go_simp
            refine hK _ _ ?_
            clear hK K
            try simp only [Act.put, List.setIfInBounds_toArray, List.set_cons_zero, List.set_cons_succ]
            refine wpAny_ready (rs := [3]) (by kernel_rfl) (by simp) ?_
            refine AllReady.cons rfl (fun K hK => ?_) AllReady.nil
            · refine step_append_lies _ (by rfl) _ _ _ (by rfl) (w.heap.size + 4) 9 i0 _ 1 16 Tryd.underlying48 hi0 hz0 hz1 hz2 rfl (by decide) v (lnP P).length (sRow (lnP P)) (by rfl) (HR.out _) ⟨V.heap.size, 0, none⟩ 1 1 [.string lb] (by rfl) (by rfl) (str_one V _ _) rt_str (by decide) (by unfold maxLen; omega) (by omega) (by simp; omega) _ rfl ?_
              intro g2 k2 w3 o3 hgrow3 hat hlt3
              obtain ⟨HF0, p1, f1, p2, f2, q2, r2, q3, r3⟩ := HEnd.out _ _ _ o3 ⟨hgrow3.os, hgrow3.tape, hgrow3.output, hgrow3.size, hgrow3.block⟩
              have HF := Hf.mk HF0
              clear HF0 o3 hgrow3
              refine hK _ _ ?_
              clear hK K
              try simp only [Act.put, List.setIfInBounds_toArray, List.set_cons_zero, List.set_cons_succ]
              refine wpAny_ready (rs := [9]) (by kernel_rfl) (by simp) ?_
              refine AllReady.cons rfl (fun K hK => ?_) AllReady.nil
              · go_simp
                refine hK _ _ ?_
                clear hK K
                try simp only [Act.put, List.setIfInBounds_toArray, List.set_cons_zero, List.set_cons_succ]
                refine wpAny_ready (rs := [10]) (by kernel_rfl) (by simp) ?_
                refine AllReady.cons rfl (fun K hK => ?_) AllReady.nil
                · go_simp
                  refine hK _ _ ?_
                  clear hK K
                  try simp only [Act.put, List.setIfInBounds_toArray, List.set_cons_zero, List.set_cons_succ]
                  refine wpAny_ready (rs := [11]) (by kernel_rfl) (by simp) ?_
                  refine AllReady.cons rfl (fun K hK => ?_) AllReady.nil
                  · go_simp
                    refine hK _ _ ?_
                    clear hK K
                    try simp only [Act.put, List.setIfInBounds_toArray, List.set_cons_zero, List.set_cons_succ]
                    exact wpAny_done (by kernel_rfl) HF.out _
        · go_simp
          refine hK _ _ ?_
          clear hK K
          try simp only [Act.put, List.setIfInBounds_toArray, List.set_cons_zero, List.set_cons_succ]
          refine wpAny_ready (rs := [0]) (by kernel_rfl) (by simp) ?_
          refine AllReady.cons rfl (fun K hK => ?_) AllReady.nil
          · go_simp
            refine hK _ _ ?_
            clear hK K
            try simp only [Act.put, List.setIfInBounds_toArray, List.set_cons_zero, List.set_cons_succ]
            refine wpAny_ready (rs := [3]) (by kernel_rfl) (by simp) ?_
            refine AllReady.cons rfl (fun K hK => ?_) AllReady.nil
            · refine step_append_lies _ (by rfl) _ _ _ (by rfl) (w.heap.size + 4) 9 i0 _ 1 16 Tryd.underlying48 hi0 hz0 hz1 hz2 rfl (by decide) v (lnP P).length (sRow (lnP P)) (by rfl) (HR.out _) ⟨V.heap.size, 0, none⟩ 1 1 [.string lb] (by rfl) (by rfl) (str_one V _ _) rt_str (by decide) (by unfold maxLen; omega) (by omega) (by simp; omega) _ rfl ?_
              intro g2 k2 w3 o3 hgrow3 hat hlt3
              obtain ⟨HF0, p1, f1, p2, f2, q2, r2, q3, r3⟩ := HEnd.out _ _ _ o3 ⟨hgrow3.os, hgrow3.tape, hgrow3.output, hgrow3.size, hgrow3.block⟩
              have HF := Hf.mk HF0
              clear HF0 o3 hgrow3
              refine hK _ _ ?_
              clear hK K
              try simp only [Act.put, List.setIfInBounds_toArray, List.set_cons_zero, List.set_cons_succ]
              refine wpAny_ready (rs := [9]) (by kernel_rfl) (by simp) ?_
              refine AllReady.cons rfl (fun K hK => ?_) AllReady.nil
              · go_simp
                refine hK _ _ ?_
                clear hK K
                try simp only [Act.put, List.setIfInBounds_toArray, List.set_cons_zero, List.set_cons_succ]
                refine wpAny_ready (rs := [10]) (by kernel_rfl) (by simp) ?_
                refine AllReady.cons rfl (fun K hK => ?_) AllReady.nil
                · go_simp
                  refine hK _ _ ?_
                  clear hK K
                  try simp only [Act.put, List.setIfInBounds_toArray, List.set_cons_zero, List.set_cons_succ]
                  refine wpAny_ready (rs := [11]) (by kernel_rfl) (by simp) ?_
                  refine AllReady.cons rfl (fun K hK => ?_) AllReady.nil
                  · go_simp
                    refine hK _ _ ?_
                    clear hK K
                    try simp only [Act.put, List.setIfInBounds_toArray, List.set_cons_zero, List.set_cons_succ]
                    exact wpAny_done (by kernel_rfl) HF.out _
    · have HG := Hf.mk hgd
      have hne : (x.1.toList == y.toList) = false := by
        rw [beq_eq_false_iff_ne, ByteArray.toList_eq, ByteArray.toList_eq]
        exact fun e => hgd (congrArg ofL e)
      clear hgd
      gi_wp2_with (first
        | (refine ⟨trivial, ?_⟩; gi_at_call 70; refine (CallsIn.inRound l (callsIn_wide.2 (KT.out _))).mono ?_; rintro e w2 ⟨rfl, hw2⟩; rw [hw2]; clear hw2 w2)
        | (refine ⟨trivial, ?_⟩; gi_at_call 56; refine (CallsIn.inRound l (callsIn_wide.2 (KC.out _ HVW.out))).mono ?_; rintro e w2 ⟨rfl, n1, hw2⟩; rw [hw2]; clear hw2 w2)
        | (refine ⟨trivial, ?_⟩; gi_at_call 63; refine (CallsIn.inRound l (callsIn_wide.2 (KE.out _ (HTW.out.on (by repeat (first | exact Below.refl _ _ | with_reducible assumption | refine Below.drews ?_ | refine Below.drew ?_ | refine Below.alloc ?_ (by simp <;> omega) _ | refine Below.setCell ?_ (by simp <;> omega) _)))))).mono ?_; rintro e V ⟨rfl, b3⟩; have BV : Hb (Below W.heap.size W V) := ⟨⟨b3.os, b3.tape, b3.output, b3.size, b3.block⟩⟩; clear b3))
      have gV : W.grownBy V none := ⟨BV.out.os, BV.out.tape, BV.out.output, BV.out.size, fun k hk _ => BV.out.block k hk⟩
      refine ⟨KeepsFrom.of_grownBy gV (fun j e => by cases e), rfl, lnl pre, x.1.data.toList, by simp [lnl], ?_, HI.out.kept gV (fun r e => by cases e)⟩
      intro e2
      refine HG.out ?_
      rw [HY.out, ← e2]
  case done =>
    intro xs W hS hI hK
    obtain ⟨v, hv, ho⟩ := hI.row
    have hg := hI.good
    rw [hS] at hI ho hg
    obtain ⟨e1, e2⟩ := rj_done hg
    have HE1 := Hf.mk e1
    have HE2 := Hf.mk e2
    have hsW := hI.size
    have hc1 := hv.cell
    have hc2 := hI.cnt.cell
    have HK := Hf.mk hK
    have HO := Hf.mk ho
    have BB := Hb.mk (B0.trans hI.below)
    clear hI ho hK hg e1 e2 hS hv
    generalize lnP (entL s.data.toList) = M at *
    generalize cnP (entL s.data.toList) = N at *
    gi_wp2
    refine wpIn_wide.2 ?_
    go_region
    gi_wp2
    have BD : Below w.heap.size w W.drew := BB.out.drew
    refine ⟨by simp, .inl ⟨_, _, rfl, run_takeDeferred HK.out, ?_⟩⟩
    refine ⟨.tuple #[v, .int .i64 (N : Int), .bool true], by simp [results, Tryd.f36, go_sem], ⟨v, by rw [HE2.out], ?_⟩, ?_⟩
    · rw [HE1.out]
      exact rown_lowJ (ownsRow_putObj (cu_below HO.out (by repeat (first | exact Below.refl _ _ | with_reducible assumption | refine Below.drews ?_ | refine Below.drew ?_ | refine Below.alloc ?_ (by simp <;> omega) _ | refine Below.setCell ?_ (by simp <;> omega) _))) _ HK.out rfl) (by omega)
    · exact BD.trans (belowK_b (w := w) (Nat.le_refl _) _ W0.heap.size _ _ (by omega) HK.out rfl rfl)
  case stop =>
    rintro c pre W hS ⟨rfl, P, e, hP, hb, hI⟩ hK
    obtain ⟨v, hv, ho⟩ := hI.row
    rw [hP] at hS
    obtain ⟨e1, e2⟩ := rj_stop hS hI.good hb
    have HE1 := Hf.mk e1
    have HE2 := Hf.mk e2
    have hsW := hI.size
    have hc1 := hv.cell
    have hc2 := hI.cnt.cell
    have HK := Hf.mk hK
    have HO := Hf.mk ho
    have BB := Hb.mk (B0.trans hI.below)
    clear hI ho hK e1 e2 hS hv hP hb
    generalize lnP P = M at *
    generalize cnP P = N at *
    gi_wp2
    refine wpIn_wide.2 ?_
    go_region
    gi_wp2
    have BD : Below w.heap.size w W.drew := BB.out.drew
    refine ⟨by simp, .inl ⟨_, _, rfl, run_takeDeferred HK.out, ?_⟩⟩
    refine ⟨.tuple #[v, .int .i64 (N : Int), .bool true], by simp [results, Tryd.f36, go_sem], ⟨v, by rw [HE2.out], ?_⟩, ?_⟩
    · rw [HE1.out]
      exact rown_lowJ (ownsRow_putObj (cu_below HO.out (by repeat (first | exact Below.refl _ _ | with_reducible assumption | refine Below.drews ?_ | refine Below.drew ?_ | refine Below.alloc ?_ (by simp <;> omega) _ | refine Below.setCell ?_ (by simp <;> omega) _))) _ HK.out rfl) (by omega)
    · exact BD.trans (belowK_b (w := w) (Nat.le_refl _) _ W0.heap.size _ _ (by omega) HK.out rfl rfl)
theorem iRj_no {s : ByteArray} (hs : s.size ≤ 1048576) (h1 : 16000 < s.size) (w : World) : Calls Tryd.prog 36 #[.string s] w (RJy 9 [] 0 false w) := by
  go_enter Tryd.func36, Tryd.ntmps36
  go_wp2
  go_ret3
  exact ⟨⟨_, rfl, World.ownsRow_nil _ _ _ _⟩, (by repeat (first | exact Below.refl _ _ | with_reducible assumption | refine Below.drews ?_ | refine Below.drew ?_ | refine Below.alloc ?_ (by simp <;> omega) _ | refine Below.setCell ?_ (by simp <;> omega) _))⟩
end Go.Proofs.YtcgakdgfmhkpjaaDoor
