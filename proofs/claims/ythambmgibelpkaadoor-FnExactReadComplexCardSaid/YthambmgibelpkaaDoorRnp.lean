/-
strings.SplitN at one byte: the same pieces as the model's, or one more than asked. No memory.
ReadList: the program and its model. ReadList: the program.
Words of eight hexadecimal digits: what both sides read, as numbers. No walk. ReadNumbers: the model. ReadNumbers: the program. Lists of floats that a function returns, told by their own words: compared, marked and held by a law. No premise.
-/
import Derived.Test.YthambmgibelpkaaDoorCut
import Derived.Test.YthambmgibelpkaaDoorRdd
import Derived.Test.YthambmgibelpkaaDoorCou
import Derived.Test.YthambmgibelpkaaDoorTxt
import Derived.Test.YthambmgibelpkaaDoorLri
import Derived.Deep.AppendLies
namespace Go.Proofs.YthambmgibelpkaaDoor
open Go Go.RowKit
set_option maxRecDepth 100000

theorem splitK_more (c : UInt8) : ∀ (k : Nat) (l : List UInt8), Lib.count l [c] ≤ k → Lib.splitK [c] 0 k l = Lib.splitK [c] 0 (Lib.count l [c]) l
  | 0, l, h => by rw [Nat.le_zero.1 h]
  | k + 1, l, h => by
    by_cases hm : Lib.index l [c] = -1
    · rw [Lib.count_miss hm, Lib.splitK, Lib.splitK, if_pos (beq_iff_eq.2 hm)]
    · have hge := Lib.index_ge l [c]
      obtain ⟨i, hi⟩ : ∃ i : Nat, Lib.index l [c] = i := ⟨(Lib.index l [c]).toNat, by omega⟩
      have hc := Lib.count_hit (by simp) hi
      have hn : ¬ (Lib.index l [c] == -1) = true := fun e => hm (beq_iff_eq.1 e)
      rw [hc, Nat.add_comm 1, Lib.splitK, Lib.splitK, if_neg hn, if_neg hn, hi]
      rw [show ((i : Int)).toNat = i by omega]
      rw [splitK_more c k _ (by omega)]
theorem splitK_less (c : UInt8) : ∀ (k : Nat) (l : List UInt8), k ≤ Lib.count l [c] → (Lib.splitK [c] 0 k l).length = k + 1
  | 0, l, h => rfl
  | k + 1, l, h => by
    by_cases hm : Lib.index l [c] = -1
    · rw [Lib.count_miss hm] at h; omega
    · have hge := Lib.index_ge l [c]
      obtain ⟨i, hi⟩ : ∃ i : Nat, Lib.index l [c] = i := ⟨(Lib.index l [c]).toNat, by omega⟩
      have hc := Lib.count_hit (by simp) hi
      have hn : ¬ (Lib.index l [c] == -1) = true := fun e => hm (beq_iff_eq.1 e)
      rw [Lib.splitK, if_neg hn, hi, List.length_cons]
      rw [show ((i : Int)).toNat = i by omega]
      rw [splitK_less c k _ (by omega)]
theorem cutL_count (c : UInt8) (l : List UInt8) : (cutL c l).length = Lib.count l [c] + 1 := by
  rw [← splitK_cut c l, splitK_less c _ l (Nat.le_refl _)]
theorem count_len (c : UInt8) (l : List UInt8) : Lib.count l [c] ≤ l.length := by rw [Lib.count_one]; exact List.count_le_length
/-- The words that SplitN gives. -/
def wdN (c : UInt8) (n : Nat) (s : ByteArray) : List ByteArray := Lib.splitB ⟨#[c]⟩ 0 (min n (s.size + 1) - 1) s
theorem wdN_map (c : UInt8) (n : Nat) (s : ByteArray) : (wdN c n s).map (·.data.toList) = Lib.splitK [c] 0 (min n (s.size + 1) - 1) s.data.toList := Lib.splitB_data ⟨#[c]⟩ 0 _ s
theorem wdN_all {c : UInt8} {n : Nat} {s : ByteArray} (h : (cutL c s.data.toList).length ≤ n) : (wdN c n s).map Value.string = sRow (cutL c s.data.toList) := by
  have h1 := cutL_count c s.data.toList
  have h2 := count_len c s.data.toList
  have h3 : s.data.toList.length = s.size := rfl
  have h4 := wdN_map c n s
  rw [splitK_more c _ _ (by omega), splitK_cut] at h4
  rw [← h4]
  simp [sRow]
theorem wdN_most {c : UInt8} {n : Nat} {s : ByteArray} (h0 : 1 ≤ n) (h : n ≤ (cutL c s.data.toList).length) : (wdN c n s).length = n := by
  have h1 := cutL_count c s.data.toList
  have h2 := count_len c s.data.toList
  have h3 : s.data.toList.length = s.size := rfl
  have h4 := congrArg List.length (wdN_map c n s)
  rw [List.length_map, splitK_less c _ _ (by omega)] at h4
  omega
theorem wdN_len {c : UInt8} {n : Nat} {s : ByteArray} (h : (cutL c s.data.toList).length ≤ n) : (wdN c n s).length = (cutL c s.data.toList).length := by
  have := congrArg List.length (wdN_all h)
  rw [List.length_map, sRow_len] at this
  exact this
theorem wdN_cap (c : UInt8) (n : Nat) (s : ByteArray) : (wdN c n s).length ≤ min n (s.size + 1) - 1 + 1 := Lib.splitB_length_le _ _ _ _
theorem cells_at {l : List ByteArray} {N j : Nat} (h : j < l.length) : (Lib.cellsOf l N)[j]? = some (.string (l[j]'h)) := by
  unfold Lib.cellsOf
  rw [List.getElem?_toArray, List.getElem?_append_left (by simpa using h)]
  simp [h]
theorem wdN_cell {w : World} {c : UInt8} {n : Nat} {s : ByteArray} (t : TypeId) (h : (cutL c s.data.toList).length ≤ n) {j : Nat} (hj : j < (cutL c s.data.toList).length) : (w.alloc (.cells (Lib.cellsOf (wdN c n s) (min n (s.size + 1))) t)).cell? ⟨w.heap.size, j, none⟩ = some (.string ⟨((cutL c s.data.toList).getD j []).toArray⟩) := by
  have hl := wdN_len h
  have h1 := cells_at (l := wdN c n s) (N := min n (s.size + 1)) (j := j) (by omega)
  have h2 : ((wdN c n s).map Value.string)[j]? = some (.string ((wdN c n s)[j]'(by omega))) := by rw [List.getElem?_map, List.getElem?_eq_getElem (by omega)]; rfl
  rw [wdN_all h] at h2
  unfold sRow at h2
  rw [List.getElem?_map, List.getElem?_eq_getElem hj] at h2
  have h3 : ⟨((cutL c s.data.toList).getD j []).toArray⟩ = (wdN c n s)[j]'(by omega) := by
    simp only [List.getD, List.getElem?_eq_getElem hj]
    exact Value.string.inj (Option.some.inj h2)
  rw [h3]
  simpa [go_sem] using h1
end Go.Proofs.YthambmgibelpkaaDoor
namespace Go.Proofs.YthambmgibelpkaaDoor
open Go Go.RowKit
set_option maxRecDepth 100000

abbrev noneL : List UInt8 := [110, 111, 110, 101]
/-- Few words, all of which say a number. -/
def okW (W : List (List UInt8)) : Bool := decide (W.length ≤ 64) && W.all rdOk
def numW (W : List (List UInt8)) : List Int := W.map rdN
theorem numW_len (W : List (List UInt8)) : (numW W).length = W.length := by simp [numW]
theorem take_up {xs : List Int} {m : Nat} {x : Int} (hm : m < xs.length) (hx : xs.getD m 0 = x) : xs.take m ++ [x] = xs.take (m + 1) := by
  rw [List.take_add_one, List.getElem?_eq_getElem hm]
  simp [List.getD, List.getElem?_eq_getElem hm] at hx
  rw [← hx]
  rfl
theorem numW_at {W : List (List UInt8)} {m : Nat} (h : m < W.length) : (numW W).getD m 0 = rdN (W.getD m []) := by
  unfold numW
  simp [List.getD, List.getElem?_map, List.getElem?_eq_getElem h]
def upO (W : List (List UInt8)) (m : Nat) : Prop := ∀ j, j < m → rdOk (W.getD j []) = true
theorem upO.up {W : List (List UInt8)} {m : Nat} (h : upO W m) (h1 : rdOk (W.getD m []) = true) : upO W (m + 1) := fun j hj => by
  by_cases e : j = m
  · subst e; exact h1
  · exact h j (by omega)
theorem okW_yes {W : List (List UInt8)} (h : upO W W.length) (h64 : W.length ≤ 64) : okW W = true := by
  unfold okW
  rw [Bool.and_eq_true, List.all_eq_true]
  refine ⟨decide_eq_true h64, fun x hx => ?_⟩
  obtain ⟨j, hj, rfl⟩ := List.mem_iff_getElem.1 hx
  have := h j hj
  rwa [List.getD, List.getElem?_eq_getElem hj] at this
theorem okW_no {W : List (List UInt8)} {m : Nat} (hm : m < W.length) (h : rdOk (W.getD m []) = false) : okW W = false := by
  rw [Bool.eq_false_iff]
  intro e
  unfold okW at e
  rw [Bool.and_eq_true, List.all_eq_true] at e
  have := e.2 _ (show W.getD m [] ∈ W by rw [List.getD, List.getElem?_eq_getElem hm]; exact List.getElem_mem hm)
  rw [h] at this
  cases this
theorem okW_long {W : List (List UInt8)} (h : 64 < W.length) : okW W = false := by
  unfold okW
  rw [decide_eq_false (by omega)]; rfl
/-- What is read. -/
def rlO (l : List UInt8) : Bool := decide (l = noneL) || okW (cutL 44 l)
def rlX (l : List UInt8) : List Int := if l = noneL then [] else if okW (cutL 44 l) then numW (cutL 44 l) else []
theorem rl_none {l : List UInt8} (h : l = noneL) : rlO l = true ∧ rlX l = [] := by
  unfold rlO rlX
  rw [if_pos h, decide_eq_true h]
  exact ⟨rfl, rfl⟩
theorem rl_no {l : List UInt8} (h : l ≠ noneL) (hk : okW (cutL 44 l) = false) : rlO l = false ∧ rlX l = [] := by
  unfold rlO rlX
  rw [if_neg h, decide_eq_false h, hk]
  exact ⟨rfl, rfl⟩
theorem rl_yes {l : List UInt8} (h : l ≠ noneL) (hk : okW (cutL 44 l) = true) : rlO l = true ∧ rlX l = numW (cutL 44 l) := by
  unfold rlO rlX
  rw [if_neg h, hk]
  exact ⟨by simp, rfl⟩
theorem rlX_len (l : List UInt8) : (rlX l).length ≤ 64 := by
  unfold rlX
  split
  · exact Nat.zero_le _
  · split
    · next h =>
      unfold okW at h
      rw [Bool.and_eq_true] at h
      rw [numW_len]
      exact of_decide_eq_true h.1
    · exact Nat.zero_le _
/-- Blocks kept but one. -/
theorem gb_below {w w' : World} {g : Option Nat} (b : Below w.heap.size w w') : w.grownBy w' g := ⟨b.os, b.tape, b.output, b.size, fun k hk _ => b.block k hk⟩
theorem gb_step {w1 wr w3 : World} {b : Nat} {u : Option Nat} (h : w1.grownBy wr (some b)) (hg : wr.grownBy w3 u) (hu : ∀ k, u = some k → k = b ∨ w1.heap.size ≤ k) : w1.grownBy w3 (some b) := by
  refine ⟨hg.os.trans h.os, hg.tape.trans h.tape, hg.output.trans h.output, Nat.le_trans h.size hg.size, fun k hk hne => ?_⟩
  have h2 : some k ≠ u := by
    intro e
    rcases hu k e.symm with rfl | h3
    · exact hne rfl
    · omega
  rw [hg.block k (Nat.lt_of_lt_of_le hk h.size) h2]
  exact h.block k hk hne
theorem TRow.gb {w w' : World} {g b : Nat} {L : List (List UInt8)} (h : TRow w g L) (hg : w.grownBy w' (some b)) (hne : g ≠ b) : TRow w' g L := fun j hj => by
  have hc := h j hj
  rw [World.cell?_of_block (w := w) (hg.block _ (block_lt_of_cell hc) (fun e => hne (Option.some.inj e)))]
  exact hc
theorem rdV_yes {l : List UInt8} (h : rdOk l = true) : rdV (ofL l) = .tuple #[.int .i64 (rdN l), .bool true] := by
  show Value.tuple #[.int .i64 (if rdOk l then rdN l else 0), .bool (rdOk l)] = _
  rw [h]; rfl
theorem rdV_no {l : List UInt8} (h : rdOk l = false) : rdV (ofL l) = .tuple #[.int .i64 0, .bool false] := by
  show Value.tuple #[.int .i64 (if rdOk l then rdN l else 0), .bool (rdOk l)] = _
  rw [h]; rfl
theorem toL_ne {s : ByteArray} {l : List UInt8} (h : s.data.toList ≠ l) : (s.toList == l) = false := by rw [Lib.toList_data, beq_eq_false_iff_ne]; exact h
theorem toL_eq {s : ByteArray} {l : List UInt8} (h : s.data.toList = l) : (s.toList == l) = true := by rw [Lib.toList_data, beq_iff_eq]; exact h
theorem int_one {k : Int} : ∀ u ∈ [Value.int .i64 k], u.oneCell' = true := by
  intro u hu
  simp at hu
  subst hu
  rfl
end Go.Proofs.YthambmgibelpkaaDoor
namespace Go.Proofs.YthambmgibelpkaaDoor
open Go Go.RowKit
set_option maxRecDepth 100000

/-- What the library's own variable holds. -/
abbrev MlIs (w : World) (m : Int) : Prop := w.cell? ⟨1, 0, none⟩ = some (.int .i64 m)
theorem MlIs.on {w w' : World} {m : Int} (h : MlIs w m) (b : Below w.heap.size w w') : MlIs w' m := Below.keep b h
end Go.Proofs.YthambmgibelpkaaDoor
namespace Go.Proofs.YthambmgibelpkaaDoor
open Go Go.RowKit
set_option maxRecDepth 100000

def hxd (b : UInt8) : Bool := decide ((48 ≤ b.toNat ∧ b.toNat ≤ 57) ∨ (97 ≤ b.toNat ∧ b.toNat ≤ 102))
def hxv (b : UInt8) : Nat := if b.toNat ≤ 57 then b.toNat - 48 else b.toNat - 97 + 10
def hval (l : List UInt8) : Nat := l.foldl (fun n b => 16 * n + hxv b) 0
theorem hval_up {l : List UInt8} {m : Nat} (h : m < l.length) : hval (l.take (m + 1)) = 16 * hval (l.take m) + hxv (l.getD m 0) := by
  rw [take_next l m h]
  unfold hval
  rw [List.foldl_append]
  rfl
theorem hxv_lt {b : UInt8} (h : hxd b = true) : hxv b < 16 := by
  unfold hxd at h
  rw [decide_eq_true_eq] at h
  unfold hxv
  split <;> omega
def upH (l : List UInt8) (m : Nat) : Prop := ∀ j, j < m → hxd (l.getD j 0) = true
theorem upH.up {l : List UInt8} {m : Nat} (h : upH l m) (h1 : hxd (l.getD m 0) = true) : upH l (m + 1) := fun j hj => by
  by_cases e : j = m
  · subst e; exact h1
  · exact h j (by omega)
theorem hval_pow {l : List UInt8} : ∀ m, m ≤ l.length → upH l m → hval (l.take m) < 16 ^ m := by
  intro m
  induction m with
  | zero => intro _ _; rw [List.take_zero]; decide
  | succ m ih =>
    intro hm h
    have h1 := ih (by omega) (fun j hj => h j (by omega))
    have h2 := hxv_lt (h m (by omega))
    rw [hval_up (by omega), Nat.pow_succ]
    omega
theorem hval_32 {l : List UInt8} {m : Nat} (hl : l.length = 8) (hm : m ≤ 8) (h : upH l m) : hval (l.take m) < 4294967296 := by
  refine Nat.lt_of_lt_of_le (hval_pow m (by omega) h) ?_
  exact Nat.le_trans (Nat.pow_le_pow_right (by decide) hm) (by decide)
/-- A word says a number. -/
def hwOk (l : List UInt8) : Bool := decide (l.length = 8) && (l.all hxd && decide (nrm .f32 (hval l) = hval l))
theorem hwOk_len {l : List UInt8} (h : l.length ≠ 8) : hwOk l = false := by unfold hwOk; rw [decide_eq_false h]; rfl
theorem hwOk_dig {l : List UInt8} {m : Nat} (hm : m < l.length) (h : hxd (l.getD m 0) = false) : hwOk l = false := by
  rw [Bool.eq_false_iff]
  intro e
  unfold hwOk at e
  rw [Bool.and_eq_true, Bool.and_eq_true, List.all_eq_true] at e
  have := e.2.1 _ (show l.getD m 0 ∈ l by rw [List.getD, List.getElem?_eq_getElem hm]; exact List.getElem_mem hm)
  rw [h] at this
  cases this
theorem hwOk_end {l : List UInt8} (hl : l.length = 8) (h : upH l 8) : hwOk l = decide (nrm .f32 (hval l) = hval l) := by
  unfold hwOk
  have : l.all hxd = true := by
    rw [List.all_eq_true]
    intro x hx
    obtain ⟨j, hj, rfl⟩ := List.mem_iff_getElem.1 hx
    have := h j (by omega)
    rwa [List.getD, List.getElem?_eq_getElem hj] at this
  rw [decide_eq_true hl, this]
  rfl
theorem hwOk_fl {l : List UInt8} (h : hwOk l = true) : Fl .f32 (hval l) (hval l) := by
  unfold hwOk at h
  rw [Bool.and_eq_true, Bool.and_eq_true, List.all_eq_true, decide_eq_true_eq, decide_eq_true_eq] at h
  obtain ⟨h1, h2, h3⟩ := h
  have h4 : hval l < 4294967296 := by
    have := hval_32 (l := l) (m := 8) h1 (Nat.le_refl _) (fun j hj => h2 _ (by rw [List.getD, List.getElem?_eq_getElem (by omega)]; exact List.getElem_mem _))
    rwa [List.take_of_length_le (by omega)] at this
  have := Fl.own (k := .f32) (x := hval l) (wf_of_lt .f32 _ (by show _ < 2 ^ 32; omega))
  rwa [h3] at this
/-- Few words, all of which say a number. -/
def okF (W : List (List UInt8)) : Bool := decide (W.length ≤ 256) && W.all hwOk
def numF (W : List (List UInt8)) : List Nat := W.map hval
theorem numF_len (W : List (List UInt8)) : (numF W).length = W.length := by simp [numF]
theorem takeF_up {xs : List Nat} {m : Nat} {x : Nat} (hm : m < xs.length) (hx : xs.getD m 0 = x) : xs.take m ++ [x] = xs.take (m + 1) := by
  rw [List.take_add_one, List.getElem?_eq_getElem hm]
  simp [List.getD, List.getElem?_eq_getElem hm] at hx
  rw [← hx]
  rfl
theorem numF_at {W : List (List UInt8)} {m : Nat} (h : m < W.length) : (numF W).getD m 0 = hval (W.getD m []) := by
  unfold numF
  simp [List.getD, List.getElem?_map, List.getElem?_eq_getElem h]
def upF (W : List (List UInt8)) (m : Nat) : Prop := ∀ j, j < m → hwOk (W.getD j []) = true
theorem upF.up {W : List (List UInt8)} {m : Nat} (h : upF W m) (h1 : hwOk (W.getD m []) = true) : upF W (m + 1) := fun j hj => by
  by_cases e : j = m
  · subst e; exact h1
  · exact h j (by omega)
theorem okF_yes {W : List (List UInt8)} (h : upF W W.length) (h64 : W.length ≤ 256) : okF W = true := by
  unfold okF
  rw [Bool.and_eq_true, List.all_eq_true]
  refine ⟨decide_eq_true h64, fun x hx => ?_⟩
  obtain ⟨j, hj, rfl⟩ := List.mem_iff_getElem.1 hx
  have := h j hj
  rwa [List.getD, List.getElem?_eq_getElem hj] at this
theorem okF_no {W : List (List UInt8)} {m : Nat} (hm : m < W.length) (h : hwOk (W.getD m []) = false) : okF W = false := by
  rw [Bool.eq_false_iff]
  intro e
  unfold okF at e
  rw [Bool.and_eq_true, List.all_eq_true] at e
  have := e.2 _ (show W.getD m [] ∈ W by rw [List.getD, List.getElem?_eq_getElem hm]; exact List.getElem_mem hm)
  rw [h] at this
  cases this
theorem okF_long {W : List (List UInt8)} (h : 256 < W.length) : okF W = false := by
  unfold okF
  rw [decide_eq_false (by omega)]; rfl
/-- What is read. -/
def rnO (l : List UInt8) : Bool := decide (l = noneL) || okF (cutL 44 l)
def rnX (l : List UInt8) : List Nat := if l = noneL then [] else if okF (cutL 44 l) then numF (cutL 44 l) else []
theorem rn_none {l : List UInt8} (h : l = noneL) : rnO l = true ∧ rnX l = [] := by
  unfold rnO rnX
  rw [if_pos h, decide_eq_true h]
  exact ⟨rfl, rfl⟩
theorem rn_no {l : List UInt8} (h : l ≠ noneL) (hk : okF (cutL 44 l) = false) : rnO l = false ∧ rnX l = [] := by
  unfold rnO rnX
  rw [if_neg h, decide_eq_false h, hk]
  exact ⟨rfl, rfl⟩
theorem rn_yes {l : List UInt8} (h : l ≠ noneL) (hk : okF (cutL 44 l) = true) : rnO l = true ∧ rnX l = numF (cutL 44 l) := by
  unfold rnO rnX
  rw [if_neg h, hk]
  exact ⟨by simp, rfl⟩
theorem rnX_len (l : List UInt8) : (rnX l).length ≤ 256 := by
  unfold rnX
  split
  · exact Nat.zero_le _
  · split
    · next h =>
      unfold okF at h
      rw [Bool.and_eq_true] at h
      rw [numF_len]
      exact of_decide_eq_true h.1
    · exact Nat.zero_le _
/-- All of them are told by themselves. -/
def FlW (xs : List Nat) : Prop := ∀ j, j < xs.length → Fl .f32 (xs.getD j 0) (xs.getD j 0)
theorem rnX_fl (l : List UInt8) : FlW (rnX l) := by
  intro j hj
  unfold rnX at hj ⊢
  split at hj
  · simp at hj
  · next h0 =>
    rw [if_neg h0]
    split at hj
    · next h =>
      rw [if_pos h]
      rw [numF_len] at hj
      rw [numF_at hj]
      unfold okF at h
      rw [Bool.and_eq_true, List.all_eq_true] at h
      exact hwOk_fl (h.2 _ (by rw [List.getD, List.getElem?_eq_getElem hj]; exact List.getElem_mem hj))
    · simp at hj
theorem fls_len (xs : List Nat) : (fls xs).length = xs.length := by simp [fls]
theorem RLy.nilF {T : TypeId} {w w' : World} (b : Below w.heap.size w w') : RLy T false (fls []) w (.returned (.tuple #[.slice none 0 0, .bool false])) w' := ⟨⟨_, rfl, World.ownsRow_nil _ _ _ _⟩, b⟩
end Go.Proofs.YthambmgibelpkaaDoor
namespace Go.Proofs.YthambmgibelpkaaDoor
open Go Go.RowKit
set_option maxRecDepth 100000
end Go.Proofs.YthambmgibelpkaaDoor
namespace Go.Proofs.YthambmgibelpkaaDoor
open Go Go.RowKit
set_option maxRecDepth 100000

theorem hexDigit_no {r : Int} (h : r < 48 ∨ (57 < r ∧ r < 97) ∨ 102 < r) (w : World) : Calls Tryd.prog 21 #[.int .i32 r] w (fun e w' => e = .returned (.tuple #[.int .i64 0, .bool false]) ∧ w' = w) := by
  have KI := Hf.mk (fun w => isDigit_any r w)
  rw [decide_eq_false (by omega)] at KI
  by_cases h1 : 97 ≤ r
  · have h2 : 102 < r := by omega
    go_enter Tryd.func21, Tryd.ntmps21
    go_wp2_with (go_at_call 29; refine (KI.out _).mono ?_; rintro e w1 ⟨rfl, rfl⟩)
    go_ret2
    exact ⟨rfl, rfl⟩
  · go_enter Tryd.func21, Tryd.ntmps21
    go_wp2_with (go_at_call 29; refine (KI.out _).mono ?_; rintro e w1 ⟨rfl, rfl⟩)
    go_ret2
    exact ⟨rfl, rfl⟩
theorem hexDigit_dec {r : Int} (h : 48 ≤ r ∧ r ≤ 57) (w : World) : Calls Tryd.prog 21 #[.int .i32 r] w (fun e w' => e = .returned (.tuple #[.int .i64 (r - 48), .bool true]) ∧ w' = w) := by
  have KI := Hf.mk (fun w => isDigit_any r w)
  rw [decide_eq_true h] at KI
  go_enter Tryd.func21, Tryd.ntmps21
  go_wp2_with (go_at_call 29; refine (KI.out _).mono ?_; rintro e w1 ⟨rfl, rfl⟩)
  go_ret2
  exact ⟨rfl, rfl⟩
theorem hexDigit_hex {r : Int} (h : 97 ≤ r ∧ r ≤ 102) (w : World) : Calls Tryd.prog 21 #[.int .i32 r] w (fun e w' => e = .returned (.tuple #[.int .i64 (r - 97 + 10), .bool true]) ∧ w' = w) := by
  have KI := Hf.mk (fun w => isDigit_any r w)
  rw [decide_eq_false (by omega)] at KI
  go_enter Tryd.func21, Tryd.ntmps21
  go_wp2_with (go_at_call 29; refine (KI.out _).mono ?_; rintro e w1 ⟨rfl, rfl⟩)
  go_ret2
  exact ⟨rfl, rfl⟩
/-- 'returns a number and whether the word says it' -/
def RW (l : List UInt8) (w : World) (e : Ending) (w' : World) : Prop := ∃ x, e = .returned (.tuple #[.float .f32 x, .bool (hwOk l)]) ∧ (hwOk l = true → x = hval l) ∧ Below w.heap.size w w'
theorem RW.no {l : List UInt8} {w w' : World} {x : Nat} (h : hwOk l = false) (b : Below w.heap.size w w') : RW l w (.returned (.tuple #[.float .f32 x, .bool false])) w' := ⟨x, by rw [h], (by intro e; rw [h] at e; cases e), b⟩
theorem RW.yes {l : List UInt8} {w w' : World} {x : Nat} (h : hwOk l = true) (hx : x = hval l) (b : Below w.heap.size w w') : RW l w (.returned (.tuple #[.float .f32 x, .bool true])) w' := ⟨x, by rw [h], fun _ => hx, b⟩
theorem RW.out_no {l : List UInt8} {w w' : World} {e : Ending} (hk : hwOk l = false) (h : RW l w e w') : ∃ x, e = .returned (.tuple #[.float .f32 x, .bool false]) ∧ Below w.heap.size w w' := by
  obtain ⟨x, he, _, hb⟩ := h
  rw [hk] at he
  exact ⟨x, he, hb⟩
theorem RW.out_yes {l : List UInt8} {w w' : World} {e : Ending} (hk : hwOk l = true) (h : RW l w e w') : RS (.tuple #[.float .f32 (hval l), .bool true]) w e w' := by
  obtain ⟨x, he, hx, hb⟩ := h
  rw [hk, hx hk] at he
  exact ⟨he, hb⟩
set_option maxHeartbeats 2000000 in
theorem iWord_any (z : ByteArray) (w : World) : Calls Tryd.prog 16 #[.string z] w (RW z.data.toList w) := by
  obtain ⟨l, hl⟩ : ∃ l, l = z.data.toList := ⟨_, rfl⟩
  have HA := Hf.mk hl.symm
  rw [← hl]
  have hAl := Hf.mk (show z.size = l.length by rw [hl]; rfl)
  clear hl
  have KB := Hf.mk (fun p => (Below.refl _ w).alloc (Nat.le_refl _) _ : ∀ p, Below w.heap.size w (w.iter z p))
  by_cases h8 : z.size = 8
  · have hl8 := Hf.mk (show l.length = 8 by rw [← hAl.out]; exact h8)
    have hd8 : ((z.size : Int) != 8) = false := by rw [h8]; rfl
    have H8 := Hf.mk h8
    clear h8
    go_enter Tryd.func16, Tryd.ntmps16
    go_wp2
    go_loopw [4] (fun n w' => ∃ m : Nat, m ≤ 8 ∧ n = .int .i64 (hval (l.take m) : Nat) ∧ Hf (upH l m) ∧ w' = w.iter z m) (fun _ w' => z.size - w'.iterPos w.heap.size)
    case atStart => exact ⟨0, by omega, rfl, ⟨fun j hj => absurd hj (Nat.not_lt_zero j)⟩, rfl⟩
    case round =>
      obtain ⟨m, hm, rfl, hH, rfl⟩ := hrel
      have hv := hval_32 hl8.out hm hH.out
      obtain ⟨X, hX⟩ : ∃ X, X = hval (l.take m) := ⟨_, rfl⟩
      rw [← hX] at hv ⊢
      have HX := Hf.mk hX
      clear hX
      by_cases hm8 : m < 8
      · have hlt : m < z.size := by rw [H8.out]; exact hm8
        have HB := Hf.mk (show (l.getD m 0).toNat = (z[m]'hlt).toNat by rw [← HA.out, ← byt_d, ← byt_at z m hlt])
        have KD := Hf.mk (fun (h : hxd (l.getD m 0) = false) => hwOk_dig (l := l) (m := m) (by rw [hl8.out]; exact hm8) h)
        by_cases hh : 128 ≤ (z[m]'hlt).toNat
        · have hnx : ∀ ty, (Instr.next (.pointer (some ⟨w.heap.size, 0, none⟩)) true ty).run Tryd.prog (w.iter z m) = _ := fun ty => run_next_any w z m ty hlt
          obtain ⟨g, _⟩ := decode_high z m hlt hh
          have K := Hf.mk (KD.out (by unfold hxd; rw [HB.out]; exact decide_eq_false (by omega)))
          have KIn := Hf.mk (fun {x : Int} (hx : x < 48 ∨ (57 < x ∧ x < 97) ∨ 102 < x) w => hexDigit_no hx w)
          go_wp2_with (go_at_call 21; refine (KIn.out (by omega) _).mono ?_; rintro e w1 ⟨rfl, rfl⟩)
          go_ret2
          exact RW.no K.out (KB.out _)
        · have hnx : ∀ ty, (Instr.next (.pointer (some ⟨w.heap.size, 0, none⟩)) true ty).run Tryd.prog (w.iter z m) = _ := fun ty => run_next_ascii w z m ty hlt (by omega)
          by_cases c1 : 48 ≤ (z[m]'hlt).toNat ∧ (z[m]'hlt).toNat ≤ 57
          · have KH := Hf.mk (show hval (l.take (m + 1)) = 16 * X + ((z[m]'hlt).toNat - 48) by rw [hval_up (by rw [hl8.out]; exact hm8), ← HX.out]; unfold hxv; rw [HB.out]; split <;> omega)
            have KY := Hf.mk (show hxd (l.getD m 0) = true by unfold hxd; rw [HB.out]; exact decide_eq_true (by omega))
            have KIn := Hf.mk (fun {x : Int} (hx : 48 ≤ x ∧ x ≤ 57) w => hexDigit_dec hx w)
            obtain ⟨c1a, c1b⟩ := c1
            go_wp2_with (go_at_call 21; refine (KIn.out (by omega) _).mono ?_; rintro e w1 ⟨rfl, rfl⟩)
            go_roundw
            case rel => exact ⟨m + 1, by omega, i_ext2 (by rw [KH.out]; omega), ⟨hH.out.up KY.out⟩, rfl⟩
            case measure => simp; omega
          · by_cases c2 : 97 ≤ (z[m]'hlt).toNat ∧ (z[m]'hlt).toNat ≤ 102
            · have KH := Hf.mk (show hval (l.take (m + 1)) = 16 * X + ((z[m]'hlt).toNat - 97 + 10) by rw [hval_up (by rw [hl8.out]; exact hm8), ← HX.out]; unfold hxv; rw [HB.out]; split <;> omega)
              have KY := Hf.mk (show hxd (l.getD m 0) = true by unfold hxd; rw [HB.out]; exact decide_eq_true (by omega))
              have KIn := Hf.mk (fun {x : Int} (hx : 97 ≤ x ∧ x ≤ 102) w => hexDigit_hex hx w)
              obtain ⟨c2a, c2b⟩ := c2
              go_wp2_with (go_at_call 21; refine (KIn.out (by omega) _).mono ?_; rintro e w1 ⟨rfl, rfl⟩)
              go_roundw
              case rel => exact ⟨m + 1, by omega, i_ext2 (by rw [KH.out]; omega), ⟨hH.out.up KY.out⟩, rfl⟩
              case measure => simp; omega
            · have K := Hf.mk (KD.out (by unfold hxd; rw [HB.out]; exact decide_eq_false (by omega)))
              have KIn := Hf.mk (fun {x : Int} (hx : x < 48 ∨ (57 < x ∧ x < 97) ∨ 102 < x) w => hexDigit_no hx w)
              have cc : (z[m]'hlt).toNat < 48 ∨ (57 < (z[m]'hlt).toNat ∧ (z[m]'hlt).toNat < 97) ∨ 102 < (z[m]'hlt).toNat := by omega
              clear c1 c2
              go_wp2_with (go_at_call 21; refine (KIn.out (by omega) _).mono ?_; rintro e w1 ⟨rfl, rfl⟩)
              go_ret2
              exact RW.no K.out (KB.out _)
      · have hm2 : m = z.size := by rw [H8.out]; omega
        subst hm2
        have hnx : ∀ ty, (Instr.next (.pointer (some ⟨w.heap.size, 0, none⟩)) true ty).run Tryd.prog (w.iter z z.size) = _ := fun ty => run_next_end w z z.size ty (by omega)
        have hX8 := Hf.mk (show X = hval l by rw [HX.out, List.take_of_length_le (by rw [hAl.out]; exact Nat.le_refl _)])
        have HE := Hf.mk (hwOk_end hl8.out (by rw [← H8.out]; exact hH.out))
        rw [← hX8.out] at HE
        have HFr := Hf.mk (show ∀ w, Calls Tryd.prog 22 #[.int .i64 (X : Int)] w (RT (.tuple #[.float .f32 X, .bool true]) w) from fun w => by have := iFromBits_yes (n := (X : Int)) (by omega) (by omega) w; rw [Int.toNat_natCast] at this; exact this)
        have HBt := Hf.mk (fun w => bitsOf_any (Fl.own (k := .f32) (x := X) (wf_of_lt .f32 _ (by show _ < 2 ^ 32; omega))) w)
        have hm8' : ¬ z.size < z.size := by omega
        clear hm8 hm HX
        by_cases hc : nrm .f32 X = X
        · rw [hc] at HBt
          have hk := Hf.mk (HE.out.trans (decide_eq_true hc))
          clear HE hc
          go_wp2_with (first | (go_at_call 22; refine (HFr.out _).mono ?_; rintro e w' ⟨rfl, n1, rfl⟩) | (go_at_call 23; refine (HBt.out _).mono ?_; rintro e w' ⟨rfl, n2, rfl⟩))
          go_ret2
          exact RW.yes hk.out hX8.out (by repeat (first | exact KB.out _ | refine Below.drews ?_ | refine Below.drew ?_))
        · have hk := Hf.mk (HE.out.trans (decide_eq_false hc))
          have hne : (((nrm .f32 X : Nat) : Int) == (X : Int)) = false := by rw [beq_eq_false_iff_ne]; omega
          generalize nrm .f32 X = Y at HBt hne
          clear HE hc
          go_wp2_with (first | (go_at_call 22; refine (HFr.out _).mono ?_; rintro e w' ⟨rfl, n1, rfl⟩) | (go_at_call 23; refine (HBt.out _).mono ?_; rintro e w' ⟨rfl, n2, rfl⟩))
          go_ret2
          exact RW.no hk.out (by repeat (first | exact KB.out _ | refine Below.drews ?_ | refine Below.drew ?_))
  · have hd8 : ((z.size : Int) != 8) = true := by rw [bne_iff_ne]; omega
    have K := Hf.mk (hwOk_len (l := l) (by rw [← hAl.out]; exact h8))
    clear h8
    go_enter Tryd.func16, Tryd.ntmps16
    go_wp2
    go_ret2
    exact RW.no K.out (by repeat (first | exact Below.refl _ _ | with_reducible assumption | refine Below.drews ?_ | refine Below.drew ?_ | refine Below.alloc ?_ (by simp <;> omega) _ | refine Below.setCell ?_ (by simp <;> omega) _))
end Go.Proofs.YthambmgibelpkaaDoor
namespace Go.Proofs.YthambmgibelpkaaDoor
open Go Go.RowKit
set_option maxRecDepth 100000

theorem told_own {w : World} {base g n cap : Nat} {e : TypeId} {xs : List Nat} (h : w.ownsRow base e 1 (.slice (some ⟨g, 0, none⟩) n cap) n (fls xs)) (hf : FlW xs) : Told w g n (fun j => xs.getD j 0) := by
  have hl : n = xs.length := by have := h.1; rw [fls_len] at this; omega
  intro j hj
  refine ⟨xs.getD j 0, ?_, hf j (by omega)⟩
  rw [h.cellAt j (by omega)]
  have hj2 : j < xs.length := by omega
  simp [fls, List.getElem?_map, List.getD, List.getElem?_eq_getElem hj2]
theorem own_form {w : World} {base n : Nat} {e : TypeId} {v : Value} {ys : List Value} (h : w.ownsRow base e 1 v n ys) : (v = .slice none 0 0 ∧ n = 0) ∨ ∃ g cap, v = .slice (some ⟨g, 0, none⟩) n cap := by
  rcases h.2 with h | ⟨g, cap, cur, hv, _⟩
  · exact .inl h
  · exact .inr ⟨g, cap, hv⟩
end Go.Proofs.YthambmgibelpkaaDoor
