/-
ReadNumbers: the program.
-/
import Derived.Test.YthanhmchgidjlaaDoorRnm
namespace Go.Proofs.YthanhmchgidjlaaDoor
open Go Go.RowKit
set_option maxRecDepth 100000

theorem hexDigit_no {r : Int} (h : r < 48 ∨ (57 < r ∧ r < 97) ∨ 102 < r) (w : World) : Calls Tryd.prog 58 #[.int .i32 r] w (fun e w' => e = .returned (.tuple #[.int .i64 0, .bool false]) ∧ w' = w) := by
  have KI := Hf.mk (fun w => isDigit_any r w)
  rw [decide_eq_false (by omega)] at KI
  by_cases h1 : 97 ≤ r
  · have h2 : 102 < r := by omega
    go_enter Tryd.func58, Tryd.ntmps58
    go_wp2_with (go_at_call 33; refine (KI.out _).mono ?_; rintro e w1 ⟨rfl, rfl⟩)
    go_ret2
    exact ⟨rfl, rfl⟩
  · go_enter Tryd.func58, Tryd.ntmps58
    go_wp2_with (go_at_call 33; refine (KI.out _).mono ?_; rintro e w1 ⟨rfl, rfl⟩)
    go_ret2
    exact ⟨rfl, rfl⟩
theorem hexDigit_dec {r : Int} (h : 48 ≤ r ∧ r ≤ 57) (w : World) : Calls Tryd.prog 58 #[.int .i32 r] w (fun e w' => e = .returned (.tuple #[.int .i64 (r - 48), .bool true]) ∧ w' = w) := by
  have KI := Hf.mk (fun w => isDigit_any r w)
  rw [decide_eq_true h] at KI
  go_enter Tryd.func58, Tryd.ntmps58
  go_wp2_with (go_at_call 33; refine (KI.out _).mono ?_; rintro e w1 ⟨rfl, rfl⟩)
  go_ret2
  exact ⟨rfl, rfl⟩
theorem hexDigit_hex {r : Int} (h : 97 ≤ r ∧ r ≤ 102) (w : World) : Calls Tryd.prog 58 #[.int .i32 r] w (fun e w' => e = .returned (.tuple #[.int .i64 (r - 97 + 10), .bool true]) ∧ w' = w) := by
  have KI := Hf.mk (fun w => isDigit_any r w)
  rw [decide_eq_false (by omega)] at KI
  go_enter Tryd.func58, Tryd.ntmps58
  go_wp2_with (go_at_call 33; refine (KI.out _).mono ?_; rintro e w1 ⟨rfl, rfl⟩)
  go_ret2
  exact ⟨rfl, rfl⟩
/-- 'returns a number and whether the word says it' -/
def RW (l : List UInt8) (w : World) (e : Ending) (w' : World) : Prop := ∃ x, e = .returned (.tuple #[.float .f32 x, .bool (hwOk l)]) ∧ (hwOk l = true → x = hval l) ∧ Below w.heap.size w w'
theorem RW.no {l : List UInt8} {w w' : World} {x : Nat} (h : hwOk l = false) (b : Below w.heap.size w w') : RW l w (.returned (.tuple #[.float .f32 x, .bool false])) w' := ⟨x, by rw [h], (by intro e; rw [h] at e; cases e), b⟩
theorem RW.yes {l : List UInt8} {w w' : World} {x : Nat} (h : hwOk l = true) (hx : x = hval l) (b : Below w.heap.size w w') : RW l w (.returned (.tuple #[.float .f32 x, .bool true])) w' := ⟨x, by rw [h], fun _ => hx, b⟩
theorem RW.out_no {l : List UInt8} {w w' : World} {e : Ending} (hk : hwOk l = false) (h : RW l w e w') : ∃ x, e = .returned (.tuple #[.float .f32 x, .bool false]) ∧ Below w.heap.size w w' := by
  obtain ⟨x, he, _, hb⟩ := h
  rw [hk] at he
  exact ⟨x, he, hb⟩
theorem RW.out_yes {l : List UInt8} {w w' : World} {e : Ending} (hk : hwOk l = true) (h : RW l w e w') : RS (.tuple #[.float .f32 (hval l), .bool true]) w e w' := by
  obtain ⟨x, he, hx, hb⟩ := h
  rw [hk, hx hk] at he
  exact ⟨he, hb⟩
set_option maxHeartbeats 2000000 in
theorem iWord_any (z : ByteArray) (w : World) : Calls Tryd.prog 46 #[.string z] w (RW z.data.toList w) := by
  obtain ⟨l, hl⟩ : ∃ l, l = z.data.toList := ⟨_, rfl⟩
  have HA := Hf.mk hl.symm
  rw [← hl]
  have hAl := Hf.mk (show z.size = l.length by rw [hl]; rfl)
  clear hl
  have KB := Hf.mk (fun p => (Below.refl _ w).alloc (Nat.le_refl _) _ : ∀ p, Below w.heap.size w (w.iter z p))
  by_cases h8 : z.size = 8
  · have hl8 := Hf.mk (show l.length = 8 by rw [← hAl.out]; exact h8)
    have hd8 : ((z.size : Int) != 8) = false := by rw [h8]; rfl
    have H8 := Hf.mk h8
    clear h8
    go_enter Tryd.func46, Tryd.ntmps46
    go_wp2
    go_loopw [4] (fun n w' => ∃ m : Nat, m ≤ 8 ∧ n = .int .i64 (hval (l.take m) : Nat) ∧ Hf (upH l m) ∧ w' = w.iter z m) (fun _ w' => z.size - w'.iterPos w.heap.size)
    case atStart => exact ⟨0, by omega, rfl, ⟨fun j hj => absurd hj (Nat.not_lt_zero j)⟩, rfl⟩
    case round =>
      obtain ⟨m, hm, rfl, hH, rfl⟩ := hrel
      have hv := hval_32 hl8.out hm hH.out
      obtain ⟨X, hX⟩ : ∃ X, X = hval (l.take m) := ⟨_, rfl⟩
      rw [← hX] at hv ⊢
      have HX := Hf.mk hX
      clear hX
      by_cases hm8 : m < 8
      · have hlt : m < z.size := by rw [H8.out]; exact hm8
        have HB := Hf.mk (show (l.getD m 0).toNat = (z[m]'hlt).toNat by rw [← HA.out, ← byt_d, ← byt_at z m hlt])
        have KD := Hf.mk (fun (h : hxd (l.getD m 0) = false) => hwOk_dig (l := l) (m := m) (by rw [hl8.out]; exact hm8) h)
        by_cases hh : 128 ≤ (z[m]'hlt).toNat
        · have hnx : ∀ ty, (Instr.next (.pointer (some ⟨w.heap.size, 0, none⟩)) true ty).run Tryd.prog (w.iter z m) = _ := fun ty => run_next_any w z m ty hlt
          obtain ⟨g, _⟩ := decode_high z m hlt hh
          have K := Hf.mk (KD.out (by unfold hxd; rw [HB.out]; exact decide_eq_false (by omega)))
          have KIn := Hf.mk (fun {x : Int} (hx : x < 48 ∨ (57 < x ∧ x < 97) ∨ 102 < x) w => hexDigit_no hx w)
          go_wp2_with (go_at_call 58; refine (KIn.out (by omega) _).mono ?_; rintro e w1 ⟨rfl, rfl⟩)
          go_ret2
          exact RW.no K.out (KB.out _)
        · have hnx : ∀ ty, (Instr.next (.pointer (some ⟨w.heap.size, 0, none⟩)) true ty).run Tryd.prog (w.iter z m) = _ := fun ty => run_next_ascii w z m ty hlt (by omega)
          by_cases c1 : 48 ≤ (z[m]'hlt).toNat ∧ (z[m]'hlt).toNat ≤ 57
          · have KH := Hf.mk (show hval (l.take (m + 1)) = 16 * X + ((z[m]'hlt).toNat - 48) by rw [hval_up (by rw [hl8.out]; exact hm8), ← HX.out]; unfold hxv; rw [HB.out]; split <;> omega)
            have KY := Hf.mk (show hxd (l.getD m 0) = true by unfold hxd; rw [HB.out]; exact decide_eq_true (by omega))
            have KIn := Hf.mk (fun {x : Int} (hx : 48 ≤ x ∧ x ≤ 57) w => hexDigit_dec hx w)
            obtain ⟨c1a, c1b⟩ := c1
            go_wp2_with (go_at_call 58; refine (KIn.out (by omega) _).mono ?_; rintro e w1 ⟨rfl, rfl⟩)
            go_roundw
            case rel => exact ⟨m + 1, by omega, i_ext2 (by rw [KH.out]; omega), ⟨hH.out.up KY.out⟩, rfl⟩
            case measure => simp; omega
          · by_cases c2 : 97 ≤ (z[m]'hlt).toNat ∧ (z[m]'hlt).toNat ≤ 102
            · have KH := Hf.mk (show hval (l.take (m + 1)) = 16 * X + ((z[m]'hlt).toNat - 97 + 10) by rw [hval_up (by rw [hl8.out]; exact hm8), ← HX.out]; unfold hxv; rw [HB.out]; split <;> omega)
              have KY := Hf.mk (show hxd (l.getD m 0) = true by unfold hxd; rw [HB.out]; exact decide_eq_true (by omega))
              have KIn := Hf.mk (fun {x : Int} (hx : 97 ≤ x ∧ x ≤ 102) w => hexDigit_hex hx w)
              obtain ⟨c2a, c2b⟩ := c2
              go_wp2_with (go_at_call 58; refine (KIn.out (by omega) _).mono ?_; rintro e w1 ⟨rfl, rfl⟩)
              go_roundw
              case rel => exact ⟨m + 1, by omega, i_ext2 (by rw [KH.out]; omega), ⟨hH.out.up KY.out⟩, rfl⟩
              case measure => simp; omega
            · have K := Hf.mk (KD.out (by unfold hxd; rw [HB.out]; exact decide_eq_false (by omega)))
              have KIn := Hf.mk (fun {x : Int} (hx : x < 48 ∨ (57 < x ∧ x < 97) ∨ 102 < x) w => hexDigit_no hx w)
              have cc : (z[m]'hlt).toNat < 48 ∨ (57 < (z[m]'hlt).toNat ∧ (z[m]'hlt).toNat < 97) ∨ 102 < (z[m]'hlt).toNat := by omega
              clear c1 c2
              go_wp2_with (go_at_call 58; refine (KIn.out (by omega) _).mono ?_; rintro e w1 ⟨rfl, rfl⟩)
              go_ret2
              exact RW.no K.out (KB.out _)
      · have hm2 : m = z.size := by rw [H8.out]; omega
        subst hm2
        have hnx : ∀ ty, (Instr.next (.pointer (some ⟨w.heap.size, 0, none⟩)) true ty).run Tryd.prog (w.iter z z.size) = _ := fun ty => run_next_end w z z.size ty (by omega)
        have hX8 := Hf.mk (show X = hval l by rw [HX.out, List.take_of_length_le (by rw [hAl.out]; exact Nat.le_refl _)])
        have HE := Hf.mk (hwOk_end hl8.out (by rw [← H8.out]; exact hH.out))
        rw [← hX8.out] at HE
        have HFr := Hf.mk (show ∀ w, Calls Tryd.prog 59 #[.int .i64 (X : Int)] w (RT (.tuple #[.float .f32 X, .bool true]) w) from fun w => by have := iFromBits_yes (n := (X : Int)) (by omega) (by omega) w; rw [Int.toNat_natCast] at this; exact this)
        have HBt := Hf.mk (fun w => bitsOf_any (Fl.own (k := .f32) (x := X) (wf_of_lt .f32 _ (by show _ < 2 ^ 32; omega))) w)
        have hm8' : ¬ z.size < z.size := by omega
        clear hm8 hm HX
        by_cases hc : nrm .f32 X = X
        · rw [hc] at HBt
          have hk := Hf.mk (HE.out.trans (decide_eq_true hc))
          clear HE hc
          go_wp2_with (first | (go_at_call 59; refine (HFr.out _).mono ?_; rintro e w' ⟨rfl, n1, rfl⟩) | (go_at_call 54; refine (HBt.out _).mono ?_; rintro e w' ⟨rfl, n2, rfl⟩))
          go_ret2
          exact RW.yes hk.out hX8.out (by repeat (first | exact KB.out _ | refine Below.drews ?_ | refine Below.drew ?_))
        · have hk := Hf.mk (HE.out.trans (decide_eq_false hc))
          have hne : (((nrm .f32 X : Nat) : Int) == (X : Int)) = false := by rw [beq_eq_false_iff_ne]; omega
          generalize nrm .f32 X = Y at HBt hne
          clear HE hc
          go_wp2_with (first | (go_at_call 59; refine (HFr.out _).mono ?_; rintro e w' ⟨rfl, n1, rfl⟩) | (go_at_call 54; refine (HBt.out _).mono ?_; rintro e w' ⟨rfl, n2, rfl⟩))
          go_ret2
          exact RW.no hk.out (by repeat (first | exact KB.out _ | refine Below.drews ?_ | refine Below.drew ?_))
  · have hd8 : ((z.size : Int) != 8) = true := by rw [bne_iff_ne]; omega
    have K := Hf.mk (hwOk_len (l := l) (by rw [← hAl.out]; exact h8))
    clear h8
    go_enter Tryd.func46, Tryd.ntmps46
    go_wp2
    go_ret2
    exact RW.no K.out (by repeat (first | exact Below.refl _ _ | with_reducible assumption | refine Below.drews ?_ | refine Below.drew ?_ | refine Below.alloc ?_ (by simp <;> omega) _ | refine Below.setCell ?_ (by simp <;> omega) _))
set_option maxHeartbeats 2000000 in
theorem readTextF_any {s : ByteArray} {mx : Int} (hs : s.size ≤ 1048576) (w : World) (hv : MlIs w mx) : Calls Tryd.prog 45 #[.string s, .int .i64 256, .func (.func 46) #[] #[]] w (RLy 51 (rnO s.data.toList) (fls (rnX s.data.toList)) w) := by
  obtain ⟨i0, hi0, hz0, hz1, hz2⟩ := info_parts (P := Tryd.prog) (e := 51) (z := .float .f32 0) (size := 1) (bytes := 4) (by kernel_rfl)
  have B0 := Hb.mk (Below.refl w.heap.size w)
  by_cases hn : s.data.toList = noneL
  · have hq := toL_eq hn
    obtain ⟨K1, K2⟩ := rn_none hn
    rw [K1, K2]
    clear hn K1 K2
    go_enter Tryd.func45, Tryd.ntmps45
    go_wp2
    go_ret2
    exact ⟨⟨_, rfl, World.ownsRow_nil _ _ _ _⟩, (by repeat (first | exact Below.refl _ _ | with_reducible assumption | refine Below.drews ?_ | refine Below.drew ?_ | refine Below.alloc ?_ (by simp <;> omega) _ | refine Below.setCell ?_ (by simp <;> omega) _))⟩
  · have hq := toL_ne hn
    have KS := Hf.mk (show ∀ w1, MlIs w1 mx → Calls Tryd.prog 52 #[.string s, .string ⟨#[44]⟩, .int .i64 257] w1 (fun e w' => e = .returned (.slice (some ⟨w1.heap.size, 0, none⟩) (wdN 44 257 s).length (min 257 (s.size + 1))) ∧ w' = w1.alloc (.cells (Lib.cellsOf (wdN 44 257 s) (min 257 (s.size + 1))) 9)) from fun w1 h1 => Tryd.strings_SplitN s ⟨#[44]⟩ 257 mx w1 (by omega) h1 (by decide) (by decide) (by decide))
    have KC := Hf.mk (fun (w : World) h j hj => @wdN_cell w 44 257 s 9 h j hj)
    have KL := Hf.mk (fun h => @wdN_len 44 257 s h)
    have KM := Hf.mk (fun h => @wdN_most 44 257 s (by decide) h)
    have KY := Hf.mk (fun h => rn_yes hn h)
    have KN := Hf.mk (fun h => rn_no hn h)
    have hW0 := cutL_ne 44 s.data.toList
    generalize cutL 44 s.data.toList = W at KC KY KN KL KM hW0
    generalize wdN 44 257 s = D at KC KL KM KS
    generalize min 257 (s.size + 1) = N at KC KS
    have hW1 : 0 < W.length := List.length_pos_iff.2 hW0
    clear hn hW0
    generalize rnO s.data.toList = O at KY KN ⊢
    generalize rnX s.data.toList = X at KY KN ⊢
    by_cases h256 : 256 < W.length
    · obtain ⟨K1, K2⟩ := KN.out (okF_long h256)
      subst K1; subst K2
      have hD := KM.out (by omega)
      rw [hD] at KS
      clear KY KN KC KL KM
      go_enter Tryd.func45, Tryd.ntmps45
      go_wp2_with (go_at_call 52; refine (KS.out _ hv).mono ?_; rintro e w1 ⟨rfl, hw⟩; rw [hw]; clear hw w1)
      go_ret2
      exact RLy.nilF (by repeat (first | exact Below.refl _ _ | with_reducible assumption | refine Below.drews ?_ | refine Below.drew ?_ | refine Below.alloc ?_ (by simp <;> omega) _ | refine Below.setCell ?_ (by simp <;> omega) _))
    · have hD := KL.out (by omega)
      rw [hD] at KS
      clear KL KM
      go_enter Tryd.func45, Tryd.ntmps45
      go_wp2_with (first | (go_at_call 52; refine (KS.out _ hv).mono ?_; rintro e w1 ⟨rfl, hw⟩; have T1 := Hf.mk (show TRow w1 w.heap.size W from by rw [hw]; intro j hj; exact KC.out w (by omega) j hj); have B1 := Hb.mk (show Below w.heap.size w w1 from by rw [hw]; exact (by repeat (first | exact Below.refl _ _ | with_reducible assumption | refine Below.drews ?_ | refine Below.drew ?_ | refine Below.alloc ?_ (by simp <;> omega) _ | refine Below.setCell ?_ (by simp <;> omega) _))); have hsz1 : w.heap.size < w1.heap.size := (by rw [hw]; simp); clear hw) | (at_make; refine wpList_make_full _ rfl _ _ 36 rfl w1.heap.size 51 i0 _ 1 Tryd.underlying36 hi0 hz0 hz1 .i64 .i64 _ _ W.length rfl rfl rfl rfl (by rw [hz2]; omega) (by unfold maxLen; omega) (Nat.le_refl _) ?_; intro w0 hown0 hgrow0))
      go_loopw [29] (fun i wr => ∃ (m : Nat) (cur : List Value), m ≤ W.length ∧ i = .int .i64 m ∧ Hf (upF W m) ∧ Hf (wr.ownsRow w1.heap.size 51 1 (.slice (some ⟨w1.heap.size, 0, none⟩) W.length W.length) W.length cur) ∧ Hf (∀ j, j < m → cur[j]? = some (.float .f32 ((numF W).getD j 0))) ∧ Hb (Below w1.heap.size w1 wr)) (fun i _ => W.length - (intOf i).toNat)
      case atStart => exact ⟨0, _, by omega, rfl, ⟨fun j hj => absurd hj (Nat.not_lt_zero j)⟩, ⟨hown0⟩, ⟨fun j hj => absurd hj (Nat.not_lt_zero j)⟩, ⟨(Below.refl _ _).grown hgrow0 (Nat.le_refl _) (fun k h => by cases h)⟩⟩
      case round =>
        obtain ⟨m, cur, hm, rfl, hU, hown, hcur, hB⟩ := hrel
        have hszB := hB.out.size
        have HB0 := Hb.mk (Below.on (B := w.heap.size) (a := w) B1.out hB.out B1.out.size)
        by_cases hlt : m < W.length
        · have hcell : wr.cell? ⟨w.heap.size, m, none⟩ = some (.string (ofL (W.getD m []))) := (T1.out.below hB.out) m hlt
          have hlen : cur.length = W.length := by have := hown.out.1; omega
          obtain ⟨old, hold⟩ : ∃ old, cur[m]? = some old := ⟨_, List.getElem?_eq_getElem (by omega)⟩
          have HV := Hf.mk (fun w => iWord_any (ofL (W.getD m [])) w)
          cases hk : hwOk (W.getD m [])
          · have HV := Hf.mk (fun w => (HV.out w).mono fun e w' h => RW.out_no (l := W.getD m []) hk h)
            obtain ⟨K1, K2⟩ := KN.out (okF_no hlt hk)
            subst K1; subst K2
            clear KY KN
            generalize ofL (W.getD m []) = A at hcell HV
            go_wp2_with (go_at_call 46; refine (HV.out _).mono ?_; rintro e w2 ⟨x, rfl, b2⟩; have B2 := Hb.mk (Below.on (B := w.heap.size) (a := w) (by repeat (first | exact HB0.out | refine Below.drews ?_ | refine Below.drew ?_ | refine Below.alloc ?_ (by have hq_ := HB0.out.size; first | omega | (simp <;> omega)) _ | refine Below.setCell ?_ (by have hq_ := HB0.out.size; first | omega | (simp <;> omega)) _)) b2 (by have hq_ := HB0.out.size; first | omega | (simp <;> omega))); clear b2)
            go_ret2
            exact RLy.nilF (by repeat (first | exact B2.out | refine Below.drews ?_ | refine Below.drew ?_ | refine Below.alloc ?_ (by have hq_ := B2.out.size; first | omega | (simp <;> omega)) _ | refine Below.setCell ?_ (by have hq_ := B2.out.size; first | omega | (simp <;> omega)) _))
          · have HV := Hf.mk (fun w => (HV.out w).mono fun e w' h => RW.out_yes (l := W.getD m []) hk h)
            have KU := Hf.mk (hU.out.up hk)
            have KA := Hf.mk (numF_at hlt)
            generalize ofL (W.getD m []) = A at hcell HV
            generalize hval (W.getD m []) = x at HV KA
            go_wp2_with (go_at_call 46; refine (HV.out _).mono ?_; rintro e w2 ⟨rfl, b2⟩; have HB1 := Hb.mk (Below.on (B := w1.heap.size) (a := w1) hB.out b2 hszB); have HO1 := Hf.mk (cu_below hown.out b2); have hcA : w2.cell? ⟨w1.heap.size, m, none⟩ = some old := (HO1.out.cellAt m (by omega)).trans hold; have hfA : w2.frozen? ⟨w1.heap.size, m, none⟩ = false := HO1.out.frozenAt m; have hsto : ∀ v md, (store ⟨w1.heap.size, m, none⟩ (.float .f32 v) md).run Tryd.prog w2 = .ok () (w2.setCell ⟨w1.heap.size, m, none⟩ (.float .f32 v)) := (fun v md => (run_store _ _ _ _ _ rfl).trans (by simp [hcA, hfA])); clear b2)
            go_roundw
            case rel =>
              have hst := HO1.out.stored m (.float .f32 x)
              refine ⟨m + 1, _, by omega, i_ext2 (by omega), KU, ⟨hst.1⟩, ⟨?_⟩, ⟨Below.setCell HB1.out (Nat.le_refl _) _⟩⟩
              intro j hj
              by_cases he : j = m
              · subst he; rw [List.getElem?_set_self (by omega), KA.out]
              · rw [List.getElem?_set_ne (by omega)]; exact hcur.out j (by omega)
            case measure => simp [intOf]; omega
        · obtain rfl : m = W.length := by omega
          obtain ⟨K1, K2⟩ := KY.out (okF_yes hU.out (by omega))
          subst K1; subst K2
          have hlen : cur.length = (numF W).length := by have := hown.out.1; rw [numF_len]; omega
          have hcu := Hf.mk (fls_of hlen (fun j hj => hcur.out j (by rw [numF_len] at hj; exact hj)))
          go_wp2
          go_ret2
          refine ⟨⟨_, rfl, ?_⟩, (by repeat (first | exact HB0.out | refine Below.drews ?_ | refine Below.drew ?_ | refine Below.alloc ?_ (by have hq_ := HB0.out.size; first | omega | (simp <;> omega)) _ | refine Below.setCell ?_ (by have hq_ := HB0.out.size; first | omega | (simp <;> omega)) _))⟩
          have := hown.out
          rw [hcu.out] at this
          rw [fls_len, numF_len]
          exact own_lower this B1.out.size
theorem iRn_any {s : ByteArray} {mx : Int} (hs : s.size ≤ 1048576) (w : World) (hv : MlIs w mx) : Calls Tryd.prog 26 #[.string s] w (RLy 51 (rnO s.data.toList) (fls (rnX s.data.toList)) w) := by
  have K := Hf.mk (fun w hv => readTextF_any (s := s) (mx := mx) hs w hv)
  generalize rnO s.data.toList = O at K ⊢
  generalize fls (rnX s.data.toList) = X at K ⊢
  have B0 := Hb.mk (Below.refl w.heap.size w)
  go_enter Tryd.func26, Tryd.ntmps26
  go_wp2_with (go_at_call 45; refine (K.out _ (hv.on (by repeat (first | exact Below.refl _ _ | with_reducible assumption | refine Below.drews ?_ | refine Below.drew ?_ | refine Below.alloc ?_ (by simp <;> omega) _ | refine Below.setCell ?_ (by simp <;> omega) _)))).mono ?_; rintro e w1 ⟨⟨v, rfl, o1⟩, b1⟩; have O1 := Hf.mk o1; have B1 := Hb.mk (Below.on (B := w.heap.size) (a := w) (by repeat (first | exact B0.out | refine Below.drews ?_ | refine Below.drew ?_ | refine Below.alloc ?_ (by have hq_ := B0.out.size; first | omega | (simp <;> omega)) _ | refine Below.setCell ?_ (by have hq_ := B0.out.size; first | omega | (simp <;> omega)) _)) b1 (by have hq_ := B0.out.size; first | omega | (simp <;> omega))); clear b1 o1)
  go_ret2
  exact ⟨⟨_, rfl, O1.out⟩, (by repeat (first | exact B1.out | refine Below.drews ?_ | refine Below.drew ?_ | refine Below.alloc ?_ (by have hq_ := B1.out.size; first | omega | (simp <;> omega)) _ | refine Below.setCell ?_ (by have hq_ := B1.out.size; first | omega | (simp <;> omega)) _))⟩
theorem sRnlist_any {s : ByteArray} (hs : s.size ≤ 1048576) (w : World) : Calls Tryd.prog 25 #[.string s] w (RLy 51 (rnO s.data.toList) (fls (rnX s.data.toList)) w) := by
  have K := Hf.mk (fun w => sRn_any (s := s) hs w)
  generalize rnO s.data.toList = O at K ⊢
  generalize fls (rnX s.data.toList) = X at K ⊢
  have B0 := Hb.mk (Below.refl w.heap.size w)
  go_enter Tryd.func25, Tryd.ntmps25
  go_wp2_with (go_at_call 44; refine (K.out _).mono ?_; rintro e w1 ⟨⟨v, rfl, o1⟩, b1⟩; have O1 := Hf.mk o1; have B1 := Hb.mk (Below.on (B := w.heap.size) (a := w) (by repeat (first | exact B0.out | refine Below.drews ?_ | refine Below.drew ?_ | refine Below.alloc ?_ (by have hq_ := B0.out.size; first | omega | (simp <;> omega)) _ | refine Below.setCell ?_ (by have hq_ := B0.out.size; first | omega | (simp <;> omega)) _)) b1 (by have hq_ := B0.out.size; first | omega | (simp <;> omega))); clear b1 o1)
  go_ret2
  exact ⟨⟨_, rfl, O1.out⟩, (by repeat (first | exact B1.out | refine Below.drews ?_ | refine Below.drew ?_ | refine Below.alloc ?_ (by have hq_ := B1.out.size; first | omega | (simp <;> omega)) _ | refine Below.setCell ?_ (by have hq_ := B1.out.size; first | omega | (simp <;> omega)) _))⟩
end Go.Proofs.YthanhmchgidjlaaDoor
