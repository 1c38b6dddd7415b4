/-
  Heaps: what an item that goes up or down keeps. No memory.
-/
import Derived.Test.YteclmjknmdlopaaCn
namespace Go.Proofs.Yteclmjknmdlopaa
section
variable {α : Type}
/-- An order by which nothing is both before and behind. -/
structure Ordr (lt : α → α → Prop) : Prop where
  asym : ∀ a b, lt a b → ¬ lt b a
  tran : ∀ a b c, ¬ lt b a → ¬ lt c b → ¬ lt c a
def swp (G : Nat → α) (i k : Nat) : Nat → α := fun j => if j = i then G k else if j = k then G i else G j
def lst (N : Nat) (G : Nat → α) : List α := (List.range N).map G
theorem lst_len (N : Nat) (G : Nat → α) : (lst N G).length = N := by simp [lst]
theorem lst_at {N : Nat} {G : Nat → α} {j : Nat} (h : j < N) : (lst N G)[j]'(by rw [lst_len]; exact h) = G j := by simp [lst]
theorem lst_ext {N : Nat} {F G : Nat → α} (h : ∀ j, j < N → F j = G j) : lst N F = lst N G := by
  unfold lst
  exact List.map_congr_left fun j hj => h j (List.mem_range.1 hj)
theorem lst_mem {N : Nat} {G : Nat → α} {x : α} : x ∈ lst N G ↔ ∃ j, j < N ∧ G j = x := by
  unfold lst
  simp only [List.mem_map, List.mem_range]
theorem lst_succ (N : Nat) (G : Nat → α) : lst (N + 1) G = lst N G ++ [G N] := by
  simp [lst, List.range_succ]
theorem swp_perm {N : Nat} {G : Nat → α} {i k : Nat} (hi : i < N) (hk : k < N) : (lst N (swp G i k)).Perm (lst N G) := by
  have h1 : i < (lst N G).length := by rw [lst_len]; exact hi
  have h2 : k < (lst N G).length := by rw [lst_len]; exact hk
  have e : lst N (swp G i k) = ((lst N G).set k ((lst N G)[i])).set i ((lst N G)[k]) := by
    apply List.ext_getElem
    · simp [lst_len]
    · intro j a b
      rw [lst_len] at a
      have g0 : (lst N G)[j]'(by rw [lst_len]; exact a) = G j := lst_at a
      have g1 : (lst N G)[i]'h1 = G i := lst_at hi
      have g2 : (lst N G)[k]'h2 = G k := lst_at hk
      rw [lst_at a, List.getElem_set, List.getElem_set]
      simp only [g0, g1, g2]
      unfold swp
      by_cases e1 : i = j
      · rw [if_pos e1.symm, if_pos e1]
      · rw [if_neg (fun h => e1 h.symm), if_neg e1]
        by_cases e2 : k = j
        · rw [if_pos e2.symm, if_pos e2]
        · rw [if_neg (fun h => e2 h.symm), if_neg e2]
  rw [e]
  exact List.set_set_perm h2 h1
variable {lt : α → α → Prop}
def Heap (lt : α → α → Prop) (N : Nat) (G : Nat → α) : Prop := ∀ j, 0 < j → j < N → ¬ lt (G j) (G ((j - 1) / 2))
structure Up (lt : α → α → Prop) (N : Nat) (G : Nat → α) (i : Nat) : Prop where
  bnd : i < N
  rest : ∀ j, 0 < j → j < N → j ≠ i → ¬ lt (G j) (G ((j - 1) / 2))
  kids : ∀ j, 0 < j → j < N → (j - 1) / 2 = i → 0 < i → ¬ lt (G j) (G ((i - 1) / 2))
theorem Up.first {N : Nat} {G : Nat → α} (h : Heap lt N G) (x : α) : Up lt (N + 1) (fun j => if j = N then x else G j) N where
  bnd := by omega
  rest j h0 hj hn := by
    have := h j h0 (by omega)
    simp only [if_neg hn, if_neg (show (j - 1) / 2 ≠ N by omega)]
    exact this
  kids j h0 hj hp _ := by omega
theorem Up.done0 {N : Nat} {G : Nat → α} (h : Up lt N G 0) : Heap lt N G := fun j h0 hj => h.rest j h0 hj (by omega)
theorem Up.done {N i : Nat} {G : Nat → α} (h : Up lt N G i) (hs : ¬ lt (G i) (G ((i - 1) / 2))) : Heap lt N G := fun j h0 hj => by
  by_cases e : j = i
  · rw [e]; exact hs
  · exact h.rest j h0 hj e
theorem Up.step (o : Ordr lt) {N i : Nat} {G : Nat → α} (h : Up lt N G i) (hi : 0 < i) (hs : lt (G i) (G ((i - 1) / 2))) : Up lt N (swp G ((i - 1) / 2) i) ((i - 1) / 2) := by
  have hl := h.bnd
  refine ⟨by omega, ?_, ?_⟩
  · intro j h0 hj hn
    unfold swp
    rw [if_neg hn]
    by_cases e : j = i
    · subst e
      rw [if_pos rfl, if_pos rfl]
      exact o.asym _ _ hs
    · rw [if_neg e]
      by_cases e1 : (j - 1) / 2 = (i - 1) / 2
      · rw [if_pos e1]
        have h1 := h.rest j h0 hj e
        rw [e1] at h1
        exact o.tran _ _ _ (o.asym _ _ hs) h1
      · rw [if_neg e1]
        by_cases e2 : (j - 1) / 2 = i
        · rw [if_pos e2]
          exact h.kids j h0 hj e2 hi
        · rw [if_neg e2]
          exact h.rest j h0 hj e
  · intro j h0 hj hp h00
    have hpp := h.rest ((i - 1) / 2) h00 (by omega) (by omega)
    have ne1 : ((i - 1) / 2 - 1) / 2 ≠ (i - 1) / 2 := by omega
    have ne2 : ((i - 1) / 2 - 1) / 2 ≠ i := by omega
    unfold swp
    rw [if_neg ne1, if_neg ne2, if_neg (by omega : j ≠ (i - 1) / 2)]
    by_cases e : j = i
    · rw [if_pos e]; exact hpp
    · rw [if_neg e]
      have h1 := h.rest j h0 hj e
      rw [hp] at h1
      exact o.tran _ _ _ hpp h1
structure Down (lt : α → α → Prop) (N : Nat) (G : Nat → α) (i : Nat) : Prop where
  rest : ∀ j, 0 < j → j < N → (j - 1) / 2 ≠ i → ¬ lt (G j) (G ((j - 1) / 2))
  kids : ∀ j, 0 < j → j < N → (j - 1) / 2 = i → 0 < i → ¬ lt (G j) (G ((i - 1) / 2))
theorem Down.first {N : Nat} {G : Nat → α} (h : Heap lt (N + 1) G) : Down lt N (fun j => if j = 0 then G N else G j) 0 where
  rest j h0 hj hn := by
    simp only [if_neg (by omega : j ≠ 0), if_neg hn]
    exact h j h0 (by omega)
  kids j h0 hj hp hx := by omega
theorem Down.leaf {N i : Nat} {G : Nat → α} (h : Down lt N G i) (hl : N ≤ 2 * i + 1) : Heap lt N G := fun j h0 hj => h.rest j h0 hj (by omega)
theorem Down.done {N i k : Nat} {G : Nat → α} (o : Ordr lt) (h : Down lt N G i) (hs : ¬ lt (G k) (G i)) (hk : ∀ j, 0 < j → j < N → (j - 1) / 2 = i → ¬ lt (G j) (G k)) : Heap lt N G := fun j h0 hj => by
  by_cases e : (j - 1) / 2 = i
  · rw [e]; exact o.tran _ _ _ hs (hk j h0 hj e)
  · exact h.rest j h0 hj e
theorem Down.step (o : Ordr lt) {N i k : Nat} {G : Nat → α} (h : Down lt N G i) (hk : 0 < k) (hkN : k < N) (hp : (k - 1) / 2 = i) (hs : lt (G k) (G i)) (hm : ∀ j, 0 < j → j < N → (j - 1) / 2 = i → ¬ lt (G j) (G k)) : Down lt N (swp G i k) k := by
  refine ⟨?_, ?_⟩
  · intro j h0 hj hn
    unfold swp
    by_cases e : j = i
    · subst e
      rw [if_pos rfl, if_neg (by omega : (j - 1) / 2 ≠ j), if_neg (by omega : (j - 1) / 2 ≠ k)]
      exact h.kids k hk hkN hp h0
    · rw [if_neg e]
      by_cases e1 : j = k
      · subst e1
        rw [if_pos rfl, if_pos hp]
        exact o.asym _ _ hs
      · rw [if_neg e1, if_neg hn]
        by_cases e2 : (j - 1) / 2 = i
        · rw [if_pos e2]; exact hm j h0 hj e2
        · rw [if_neg e2]; exact h.rest j h0 hj e2
  · intro j h0 hj hp2 _
    unfold swp
    rw [hp, if_pos rfl, if_neg (by omega : j ≠ i), if_neg (by omega : j ≠ k)]
    have := h.rest j h0 hj (by omega)
    rw [hp2] at this
    exact this
theorem Heap.min (o : Ordr lt) {N : Nat} {G : Nat → α} (h : Heap lt N G) : ∀ j, j < N → ¬ lt (G j) (G 0) := by
  intro j
  induction j using Nat.strongRecOn with
  | ind j ih =>
    intro hj
    by_cases e : j = 0
    · subst e; intro hx; exact o.asym _ _ hx hx
    · exact o.tran _ _ _ (ih ((j - 1) / 2) (by omega) (by omega)) (h j (by omega) hj)
theorem take_perm {N : Nat} {G : Nat → α} : (G 0 :: lst N (fun j => if j = 0 then G N else G j)).Perm (lst (N + 1) G) := by
  cases N with
  | zero => simp [lst]
  | succ N =>
    have h := swp_perm (G := G) (N := N + 2) (i := 0) (k := N + 1) (by omega) (by omega)
    refine List.Perm.trans ?_ h
    rw [lst_succ (N + 1)]
    have e : lst (N + 1) (fun j => if j = 0 then G (N + 1) else G j) = lst (N + 1) (swp G 0 (N + 1)) := lst_ext fun j hj => by
      unfold swp
      by_cases e : j = 0
      · rw [if_pos e, if_pos e]
      · rw [if_neg e, if_neg e, if_neg (by omega)]
    rw [e]
    have e2 : swp G 0 (N + 1) (N + 1) = G 0 := by unfold swp; simp
    rw [e2]
    exact (List.perm_append_comm (l₁ := [G 0])).trans (List.Perm.refl _)
end
end Go.Proofs.Yteclmjknmdlopaa
