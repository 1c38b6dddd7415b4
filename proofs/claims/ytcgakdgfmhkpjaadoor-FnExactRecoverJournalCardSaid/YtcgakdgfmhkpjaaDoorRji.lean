/-
strings.Lines: what its iterator hands on, one entry after another; it keeps what is left in a cell of its own.
-/
import Derived.Test.YtcgakdgfmhkpjaaDoorRjn
import Derived.Test.YtcgakdgfmhkpjaaDoorItr
import Derived.Test.YtcgakdgfmhkpjaaDoorShf
import Derived.Shelf.Abstract
import Derived.Shelf.RegionOpen
import Derived.WalkKit
import Derived.OwnWalkIn
import Derived.TacticsInMore
import Derived.LoopNIn
import Derived.LoopIn
namespace Go.Proofs.YtcgakdgfmhkpjaaDoor
open Go Go.RowKit
set_option maxRecDepth 100000
attribute [local go_sem] Oper.semAt_some

abbrev LnT := { e : ByteArray // e.size ≤ 16000 }
abbrev lnl (xs : List LnT) : List (List UInt8) := xs.map fun x => x.1.data.toList
def szC : Option Value → Nat
  | some (.string s) => s.size
  | _ => 0
theorem ent_no {l : List UInt8} (h0 : 0 < l.length) (h : Lib.indexByte l 10 = -1) : entL l = [l] :=
  entL_no (List.length_pos_iff.1 h0) (fun b hb e => by
    obtain ⟨k, hk, e2⟩ := List.mem_iff_getElem.1 hb
    exact Lib.indexByte_none h k (by rw [List.getElem?_eq_getElem hk, e2, e]))
theorem ent_hit {l : List UInt8} {i : Nat} (h : Lib.indexByte l 10 = i) : i < l.length ∧ entL l = l.take (i + 1) :: entL (l.drop (i + 1)) := by
  obtain ⟨h1, h2⟩ := Lib.indexByte_some h
  have hl : i < l.length := (List.getElem?_eq_some_iff.1 h1).1
  have e : l = l.take i ++ 10 :: l.drop (i + 1) := by
    conv => lhs; rw [← List.take_append_drop i l]
    rw [List.drop_eq_getElem_cons hl]
    rw [List.getElem?_eq_getElem hl] at h1
    rw [Option.some.inj h1]
  refine ⟨hl, ?_⟩
  have e2 : l.take (i + 1) = l.take i ++ [10] := by
    rw [List.take_succ_eq_append_getElem hl]
    rw [List.getElem?_eq_getElem hl] at h1
    rw [Option.some.inj h1]
  rw [e2]
  conv => lhs; rw [e]
  refine entL_hit fun b hb e3 => ?_
  obtain ⟨k, hk, e4⟩ := List.mem_iff_getElem.1 hb
  rw [List.length_take] at hk
  rw [List.getElem_take] at e4
  exact h2 k (by omega) (by rw [List.getElem?_eq_getElem (by omega), e4, e3])
set_option maxHeartbeats 4000000 in
theorem lines_in {q Bs : Nat} {t : TypeId} {s : ByteArray} (hs : s.size ≤ 16000) (w : World) (hB : Boxed w Bs t (.string s)) :
    SeqVar Fence.wide (q + 2) Tryd.prog 104 #[.pointer (some ⟨Bs, 0, none⟩)] (fun x : LnT => #[.string x.1]) Bs (fun xs => lnl xs = entL s.data.toList) (fun pre => lnl pre <+: entL s.data.toList) 16001 w := by
  intro l J Jx W hW hJ hY h0
  have hBW : Boxed W Bs t (.string s) := hW.trans hB
  have hN := entL_len s.data.toList
  have hsl : s.data.toList.length = s.size := rfl
  rw [hsl] at hN
  clear hsl
  refine callsIn_of_wp Tryd.func104 rfl trivial ?_ rfl
  simp only [Tryd.ntmps104, List.size_toArray, List.length_cons, List.length_nil, Nat.reduceAdd, Nat.reduceSub, Array.replicate_succ, Array.replicate_zero, List.push_toArray, List.append_toArray, List.nil_append, List.cons_append]
  gi_wp2
  gi_loopw [] (fun wr => ∃ (pre : List LnT) (u : ByteArray), J pre wr ∧ Hf (Boxed wr Bs t (.string u)) ∧ Hf (lnl pre ++ entL u.data.toList = entL s.data.toList) ∧ u.size ≤ 16000) (fun wr => szC (wr.cell? ⟨Bs, 0, none⟩))
  case atStart => exact ⟨[], s, h0, ⟨hBW⟩, ⟨rfl⟩, hs⟩
  case round =>
    obtain ⟨pre, u, hJs, hb, hpre, hu⟩ := hrel
    have c0 := hb.out.cell
    have z0 := hb.out.frozen
    have hlen : pre.length ≤ 16000 := by
      have h := congrArg List.length hpre.out
      rw [List.length_append, List.length_map] at h
      omega
    by_cases h0u : 0 < u.size
    · have KI := Hf.mk (fun w => Tryd.strings_IndexByte u 10 w)
      rw [show (10 : Int).toNat.toUInt8 = 10 from rfl] at KI
      have hge := Lib.indexByte_ge u.data.toList 10
      have hul : u.data.toList.length = u.size := rfl
      by_cases hn : Lib.indexByte u.data.toList 10 = -1
      · rw [hn] at KI
        have hE := ent_no (by rw [hul]; exact h0u) hn
        have hB2 : Boxed ((wr.setCell ⟨Bs, 0, none⟩ (.string ⟨#[]⟩))) Bs t (.string ⟨#[]⟩) := hb.out.set _
        have hJ2 : J pre (wr.setCell ⟨Bs, 0, none⟩ (.string ⟨#[]⟩)) := hJ _ _ _ (some Bs) hJs (grownBy_setCell' wr Bs _) (fun r e => by cases e; rfl)
        obtain ⟨fn, tmps, assign, body, hy, hR⟩ := hY pre ⟨u, hu⟩ _ hJ2 (by omega)
        dsimp only at hy
        gi_wp2_with (refine ⟨trivial, ?_⟩; gi_at_call 105; refine (callsIn_wide.2 (KI.out _)).mono ?_; rintro e w' ⟨rfl, rfl⟩)
        refine hR.mono ?_
        rintro e W3 (⟨rfl, hJ3, hk3⟩ | ⟨rfl, hJx3⟩)
        · have hb3 : Boxed W3 Bs t (.string ⟨#[]⟩) := hk3.trans hB2
          have c3 := hb3.cell
          gi_wp2
          go_roundw
          case rel => exact ⟨_, _, hJ3, ⟨hb3⟩, ⟨by rw [← hpre.out, hE]; simp [lnl, entL_nil]⟩, by decide⟩
          case measure => rw [c3, c0]; simp [szC]; exact h0u
        · gi_wp2
          refine bodyPost_ret (results_none rfl _ _ _) rfl ?_
          exact ⟨⟨_, rfl⟩, .inr ⟨_, by rw [← hpre.out, hE]; simp [lnl], hJx3⟩⟩
      · obtain ⟨i, hi⟩ : ∃ i : Nat, Lib.indexByte u.data.toList 10 = i := ⟨(Lib.indexByte u.data.toList 10).toNat, by omega⟩
        rw [hi] at KI
        obtain ⟨hil, hE⟩ := ent_hit hi
        rw [hul] at hil
        gi_wp2_with (refine ⟨trivial, ?_⟩; gi_at_call 105; refine (callsIn_wide.2 (KI.out _)).mono ?_; rintro e w' ⟨rfl, rfl⟩)
        have hi1 : (i : Int) + 1 ≤ (u.size : Int) := by omega
        have hi2 : ((i : Int) + 1).toNat = i + 1 := by omega
        refine wpIn_wide.2 ?_
        go_region
        have x1 := congrArg (fun z : ByteArray => z.data.toList) (ext_part u 0 (i + 1))
        have x2 := congrArg (fun z : ByteArray => z.data.toList) (ext_part u (i + 1) u.size)
        have x3 : (u.extract 0 (i + 1)).size ≤ 16000 := by simp; omega
        have x4 : (u.extract (i + 1) u.size).size < u.size := by simp; omega
        simp only [List.drop_zero, Nat.sub_zero] at x1 x2
        rw [List.take_of_length_le (by rw [List.length_drop, hul]; exact Nat.le_refl _)] at x2
        rw [← x1, ← x2] at hE
        clear x1 x2
        generalize u.extract 0 (i + 1) = u1 at *
        generalize u.extract (i + 1) u.size = u2 at *
        have hB2 : Boxed (w'.setCell ⟨Bs, 0, none⟩ (.string u2)).drew Bs t (.string u2) := hb.out.set _
        have g2 := grownBy_setCell' w' Bs (.string u2)
        have hJ2 : J pre (w'.setCell ⟨Bs, 0, none⟩ (.string u2)).drew := hJ _ _ _ (some Bs) hJs ⟨g2.os, g2.tape, g2.output, g2.size, g2.block⟩ (fun r e => by cases e; rfl)
        obtain ⟨fn, tmps, assign, body, hy, hR⟩ := hY pre ⟨u1, x3⟩ _ hJ2 (by omega)
        dsimp only at hy
        gi_wp2
        refine hR.mono ?_
        rintro e W3 (⟨rfl, hJ3, hk3⟩ | ⟨rfl, hJx3⟩)
        · have hb3 : Boxed W3 Bs t (.string u2) := hk3.trans hB2
          have c3 := hb3.cell
          gi_wp2
          go_roundw
          case rel => exact ⟨_, _, hJ3, ⟨hb3⟩, ⟨by rw [← hpre.out, hE]; simp [lnl]⟩, by omega⟩
          case measure => rw [c3, c0]; simp [szC]; exact x4
        · gi_wp2
          refine bodyPost_ret (results_none rfl _ _ _) rfl ?_
          exact ⟨⟨_, rfl⟩, .inr ⟨_, by rw [← hpre.out, hE]; exact ⟨entL u2.data.toList, by simp [lnl]⟩, hJx3⟩⟩
    · have hu0 : u.size = 0 := by omega
      have he : u.data.toList = [] := List.length_eq_zero_iff.1 hu0
      have hp := hpre.out
      rw [he, entL_nil, List.append_nil] at hp
      gi_wp2
      go_end0
      exact ⟨⟨_, rfl⟩, .inl ⟨_, hp, hJs⟩⟩
end Go.Proofs.YtcgakdgfmhkpjaaDoor
