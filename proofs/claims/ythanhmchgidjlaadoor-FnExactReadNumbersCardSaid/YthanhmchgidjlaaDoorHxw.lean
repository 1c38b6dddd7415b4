/-
Words of eight hexadecimal digits: what both sides read, as numbers. No walk.
-/
import Derived.Test.YthanhmchgidjlaaDoorRlp
namespace Go.Proofs.YthanhmchgidjlaaDoor
open Go Go.RowKit
set_option maxRecDepth 100000

def hxd (b : UInt8) : Bool := decide ((48 ≤ b.toNat ∧ b.toNat ≤ 57) ∨ (97 ≤ b.toNat ∧ b.toNat ≤ 102))
def hxv (b : UInt8) : Nat := if b.toNat ≤ 57 then b.toNat - 48 else b.toNat - 97 + 10
def hval (l : List UInt8) : Nat := l.foldl (fun n b => 16 * n + hxv b) 0
theorem hval_up {l : List UInt8} {m : Nat} (h : m < l.length) : hval (l.take (m + 1)) = 16 * hval (l.take m) + hxv (l.getD m 0) := by
  rw [take_next l m h]
  unfold hval
  rw [List.foldl_append]
  rfl
theorem hxv_lt {b : UInt8} (h : hxd b = true) : hxv b < 16 := by
  unfold hxd at h
  rw [decide_eq_true_eq] at h
  unfold hxv
  split <;> omega
def upH (l : List UInt8) (m : Nat) : Prop := ∀ j, j < m → hxd (l.getD j 0) = true
theorem upH.up {l : List UInt8} {m : Nat} (h : upH l m) (h1 : hxd (l.getD m 0) = true) : upH l (m + 1) := fun j hj => by
  by_cases e : j = m
  · subst e; exact h1
  · exact h j (by omega)
theorem hval_pow {l : List UInt8} : ∀ m, m ≤ l.length → upH l m → hval (l.take m) < 16 ^ m := by
  intro m
  induction m with
  | zero => intro _ _; rw [List.take_zero]; decide
  | succ m ih =>
    intro hm h
    have h1 := ih (by omega) (fun j hj => h j (by omega))
    have h2 := hxv_lt (h m (by omega))
    rw [hval_up (by omega), Nat.pow_succ]
    omega
theorem hval_32 {l : List UInt8} {m : Nat} (hl : l.length = 8) (hm : m ≤ 8) (h : upH l m) : hval (l.take m) < 4294967296 := by
  refine Nat.lt_of_lt_of_le (hval_pow m (by omega) h) ?_
  exact Nat.le_trans (Nat.pow_le_pow_right (by decide) hm) (by decide)
/-- A word says a number. -/
def hwOk (l : List UInt8) : Bool := decide (l.length = 8) && (l.all hxd && decide (nrm .f32 (hval l) = hval l))
theorem hwOk_len {l : List UInt8} (h : l.length ≠ 8) : hwOk l = false := by unfold hwOk; rw [decide_eq_false h]; rfl
theorem hwOk_dig {l : List UInt8} {m : Nat} (hm : m < l.length) (h : hxd (l.getD m 0) = false) : hwOk l = false := by
  rw [Bool.eq_false_iff]
  intro e
  unfold hwOk at e
  rw [Bool.and_eq_true, Bool.and_eq_true, List.all_eq_true] at e
  have := e.2.1 _ (show l.getD m 0 ∈ l by rw [List.getD, List.getElem?_eq_getElem hm]; exact List.getElem_mem hm)
  rw [h] at this
  cases this
theorem hwOk_end {l : List UInt8} (hl : l.length = 8) (h : upH l 8) : hwOk l = decide (nrm .f32 (hval l) = hval l) := by
  unfold hwOk
  have : l.all hxd = true := by
    rw [List.all_eq_true]
    intro x hx
    obtain ⟨j, hj, rfl⟩ := List.mem_iff_getElem.1 hx
    have := h j (by omega)
    rwa [List.getD, List.getElem?_eq_getElem hj] at this
  rw [decide_eq_true hl, this]
  rfl
theorem hwOk_fl {l : List UInt8} (h : hwOk l = true) : Fl .f32 (hval l) (hval l) := by
  unfold hwOk at h
  rw [Bool.and_eq_true, Bool.and_eq_true, List.all_eq_true, decide_eq_true_eq, decide_eq_true_eq] at h
  obtain ⟨h1, h2, h3⟩ := h
  have h4 : hval l < 4294967296 := by
    have := hval_32 (l := l) (m := 8) h1 (Nat.le_refl _) (fun j hj => h2 _ (by rw [List.getD, List.getElem?_eq_getElem (by omega)]; exact List.getElem_mem _))
    rwa [List.take_of_length_le (by omega)] at this
  have := Fl.own (k := .f32) (x := hval l) (wf_of_lt .f32 _ (by show _ < 2 ^ 32; omega))
  rwa [h3] at this
/-- Few words, all of which say a number. -/
def okF (W : List (List UInt8)) : Bool := decide (W.length ≤ 256) && W.all hwOk
def numF (W : List (List UInt8)) : List Nat := W.map hval
theorem numF_len (W : List (List UInt8)) : (numF W).length = W.length := by simp [numF]
theorem takeF_up {xs : List Nat} {m : Nat} {x : Nat} (hm : m < xs.length) (hx : xs.getD m 0 = x) : xs.take m ++ [x] = xs.take (m + 1) := by
  rw [List.take_add_one, List.getElem?_eq_getElem hm]
  simp [List.getD, List.getElem?_eq_getElem hm] at hx
  rw [← hx]
  rfl
theorem numF_at {W : List (List UInt8)} {m : Nat} (h : m < W.length) : (numF W).getD m 0 = hval (W.getD m []) := by
  unfold numF
  simp [List.getD, List.getElem?_map, List.getElem?_eq_getElem h]
def upF (W : List (List UInt8)) (m : Nat) : Prop := ∀ j, j < m → hwOk (W.getD j []) = true
theorem upF.up {W : List (List UInt8)} {m : Nat} (h : upF W m) (h1 : hwOk (W.getD m []) = true) : upF W (m + 1) := fun j hj => by
  by_cases e : j = m
  · subst e; exact h1
  · exact h j (by omega)
theorem okF_yes {W : List (List UInt8)} (h : upF W W.length) (h64 : W.length ≤ 256) : okF W = true := by
  unfold okF
  rw [Bool.and_eq_true, List.all_eq_true]
  refine ⟨decide_eq_true h64, fun x hx => ?_⟩
  obtain ⟨j, hj, rfl⟩ := List.mem_iff_getElem.1 hx
  have := h j hj
  rwa [List.getD, List.getElem?_eq_getElem hj] at this
theorem okF_no {W : List (List UInt8)} {m : Nat} (hm : m < W.length) (h : hwOk (W.getD m []) = false) : okF W = false := by
  rw [Bool.eq_false_iff]
  intro e
  unfold okF at e
  rw [Bool.and_eq_true, List.all_eq_true] at e
  have := e.2 _ (show W.getD m [] ∈ W by rw [List.getD, List.getElem?_eq_getElem hm]; exact List.getElem_mem hm)
  rw [h] at this
  cases this
theorem okF_long {W : List (List UInt8)} (h : 256 < W.length) : okF W = false := by
  unfold okF
  rw [decide_eq_false (by omega)]; rfl
/-- What is read. -/
def rnO (l : List UInt8) : Bool := decide (l = noneL) || okF (cutL 44 l)
def rnX (l : List UInt8) : List Nat := if l = noneL then [] else if okF (cutL 44 l) then numF (cutL 44 l) else []
theorem rn_none {l : List UInt8} (h : l = noneL) : rnO l = true ∧ rnX l = [] := by
  unfold rnO rnX
  rw [if_pos h, decide_eq_true h]
  exact ⟨rfl, rfl⟩
theorem rn_no {l : List UInt8} (h : l ≠ noneL) (hk : okF (cutL 44 l) = false) : rnO l = false ∧ rnX l = [] := by
  unfold rnO rnX
  rw [if_neg h, decide_eq_false h, hk]
  exact ⟨rfl, rfl⟩
theorem rn_yes {l : List UInt8} (h : l ≠ noneL) (hk : okF (cutL 44 l) = true) : rnO l = true ∧ rnX l = numF (cutL 44 l) := by
  unfold rnO rnX
  rw [if_neg h, hk]
  exact ⟨by simp, rfl⟩
theorem rnX_len (l : List UInt8) : (rnX l).length ≤ 256 := by
  unfold rnX
  split
  · exact Nat.zero_le _
  · split
    · next h =>
      unfold okF at h
      rw [Bool.and_eq_true] at h
      rw [numF_len]
      exact of_decide_eq_true h.1
    · exact Nat.zero_le _
/-- All of them are told by themselves. -/
def FlW (xs : List Nat) : Prop := ∀ j, j < xs.length → Fl .f32 (xs.getD j 0) (xs.getD j 0)
theorem rnX_fl (l : List UInt8) : FlW (rnX l) := by
  intro j hj
  unfold rnX at hj ⊢
  split at hj
  · simp at hj
  · next h0 =>
    rw [if_neg h0]
    split at hj
    · next h =>
      rw [if_pos h]
      rw [numF_len] at hj
      rw [numF_at hj]
      unfold okF at h
      rw [Bool.and_eq_true, List.all_eq_true] at h
      exact hwOk_fl (h.2 _ (by rw [List.getD, List.getElem?_eq_getElem hj]; exact List.getElem_mem hj))
    · simp at hj
theorem fls_len (xs : List Nat) : (fls xs).length = xs.length := by simp [fls]
theorem RLy.nilF {T : TypeId} {w w' : World} (b : Below w.heap.size w w') : RLy T false (fls []) w (.returned (.tuple #[.slice none 0 0, .bool false])) w' := ⟨⟨_, rfl, World.ownsRow_nil _ _ _ _⟩, b⟩
end Go.Proofs.YthanhmchgidjlaaDoor
