/-
Routes: the places of a shortest one, told by how long the shortest ones are. No memory.
Routes: the places of a shortest one, back from its end. No memory.
-/
import Derived.Test.YteclmjknmdlopaaRlg
import Derived.Test.YteclmjknmdlopaaRch
namespace Go.Proofs.Yteclmjknmdlopaa
/-- How many places have a shorter route than v. -/
def cnl (f : Nat → Int) (v : Int) (n : Nat) : Nat := sumWb (fun j => if 0 ≤ f j ∧ f j < v then 1 else 0) n
theorem sumWb_mono {f g : Nat → Nat} : ∀ {n : Nat}, (∀ j, j < n → f j ≤ g j) → sumWb f n ≤ sumWb g n := by
  intro n
  induction n with
  | zero => intro _; exact Nat.le_refl _
  | succ n ih => intro h; have := ih (fun j hj => h j (by omega)); have := h n (by omega); unfold sumWb; omega
theorem sumWb_lt {f g : Nat → Nat} {p : Nat} : ∀ {n : Nat}, p < n → (∀ j, j < n → f j ≤ g j) → f p < g p → sumWb f n < sumWb g n := by
  intro n
  induction n with
  | zero => intro h; omega
  | succ n ih =>
    intro hp h hl
    have h1 := h n (by omega)
    unfold sumWb
    by_cases e : p = n
    · subst e
      have := sumWb_mono (f := f) (g := g) (n := p) (fun j hj => h j (by omega))
      omega
    · have := ih (by omega) (fun j hj => h j (by omega)) hl
      omega
theorem cnl_le (f : Nat → Int) (v : Int) (n : Nat) : cnl f v n ≤ n := by
  have := sumWb_le (f := fun j => if 0 ≤ f j ∧ f j < v then 1 else 0) (c := 1) (n := n) (fun j _ => by split <;> omega)
  unfold cnl; omega
theorem Web.Longs.bound {W : Web} (ho : W.ok) {s : Nat} {f : Nat → Int} (h : W.Longs s f) : ∀ (k p : Nat), p < W.n → f p = (k : Int) → f p ≤ 1000000 * (cnl f (f p) W.n : Int) := by
  intro k
  induction k using Nat.strongRecOn with
  | ind k ih =>
    intro p hp hk
    by_cases hs : p = s
    · subst hs; rw [h.start]; omega
    · obtain ⟨q, l, hr, h0, hq⟩ := h.back p hp hs (by omega)
      obtain ⟨q1, _, l1, l2⟩ := W.road_lt ho hr
      have := ih (f q).toNat (by omega) q q1 (by omega)
      have hlt : cnl f (f q) W.n < cnl f (f p) W.n := by
        unfold cnl
        refine sumWb_lt q1 (fun j _ => ?_) ?_
        · by_cases e : 0 ≤ f j ∧ f j < f q
          · rw [if_pos e, if_pos (by omega)]; exact Nat.le_refl _
          · rw [if_neg e]; exact Nat.zero_le _
        · rw [if_neg (by omega), if_pos (by omega)]; exact Nat.zero_lt_one
      omega
theorem Web.Longs.le {W : Web} (ho : W.ok) {s : Nat} {f : Nat → Int} (h : W.Longs s f) {p : Nat} (hp : p < W.n) : f p ≤ 64000000 := by
  by_cases h0 : 0 ≤ f p
  · have := h.bound ho (f p).toNat p hp (by omega)
    have := cnl_le f (f p) W.n
    have := ho.n64
    omega
  · omega
/-- Road i leads between p and q and is part of a shortest route to p. -/
def Web.lead (W : Web) (f : Nat → Int) (p i q : Nat) : Prop := ((W.A i = p ∧ W.B i = q) ∨ (W.A i ≠ p ∧ W.B i = p ∧ W.A i = q)) ∧ f q + W.lg i = f p
/-- The least place ahead of p among the first k roads; n is none. -/
def Web.least (W : Web) (f : Nat → Int) (p : Nat) : Nat → Nat
  | 0 => W.n
  | k + 1 => if W.A k = p then (if f (W.B k) + W.lg k = f p then min (W.least f p k) (W.B k) else W.least f p k) else if W.B k = p then (if f (W.A k) + W.lg k = f p then min (W.least f p k) (W.A k) else W.least f p k) else W.least f p k
theorem Web.least_le {W : Web} (f : Nat → Int) (p : Nat) : ∀ k, W.least f p k ≤ W.n := by
  intro k
  induction k with
  | zero => exact Nat.le_refl _
  | succ k ih =>
    rw [Web.least]
    split
    · split <;> omega
    · split
      · split <;> omega
      · omega
theorem Web.least_lt {W : Web} (ho : W.ok) {f : Nat → Int} {p : Nat} : ∀ {k i q : Nat}, k ≤ W.m → i < k → ((W.A i = p ∧ W.B i = q) ∨ (W.A i = q ∧ W.B i = p)) → f q + W.lg i = f p → W.least f p k ≤ q := by
  intro k
  induction k with
  | zero => intro i q _ h; omega
  | succ k ih =>
    intro i q hk hi hr hl
    by_cases e : i = k
    · subst e
      have hne := ho.ne i (by omega)
      unfold Web.least
      rcases hr with ⟨h1, h2⟩ | ⟨h1, h2⟩
      · rw [if_pos h1, if_pos (by rw [h2]; exact hl), h2]; omega
      · rw [if_neg (by omega), if_pos h2, if_pos (by rw [h1]; exact hl), h1]; omega
    · have := ih (i := i) (q := q) (by omega) (by omega) hr hl
      unfold Web.least
      repeat' split
      all_goals omega
theorem Web.least_is {W : Web} {f : Nat → Int} {p : Nat} : ∀ {k : Nat}, W.least f p k < W.n → ∃ i, i < k ∧ ((W.A i = p ∧ W.B i = W.least f p k) ∨ (W.A i = W.least f p k ∧ W.B i = p)) ∧ f (W.least f p k) + W.lg i = f p := by
  intro k
  induction k with
  | zero => intro h; simp [Web.least] at h
  | succ k ih =>
    intro h
    have old : W.least f p (k + 1) = W.least f p k → ∃ i, i < k + 1 ∧ ((W.A i = p ∧ W.B i = W.least f p (k + 1)) ∨ (W.A i = W.least f p (k + 1) ∧ W.B i = p)) ∧ f (W.least f p (k + 1)) + W.lg i = f p := by
      intro e
      rw [e] at h ⊢
      obtain ⟨i, hi, h1, h2⟩ := ih h
      exact ⟨i, by omega, h1, h2⟩
    by_cases ha : W.A k = p
    · by_cases hl : f (W.B k) + W.lg k = f p
      · have e : W.least f p (k + 1) = min (W.least f p k) (W.B k) := by rw [Web.least, if_pos ha, if_pos hl]
        by_cases hm : W.least f p k ≤ W.B k
        · exact old (by omega)
        · have e2 : W.least f p (k + 1) = W.B k := by omega
          exact ⟨k, by omega, .inl ⟨ha, e2.symm⟩, by rw [e2]; exact hl⟩
      · exact old (by rw [Web.least, if_pos ha, if_neg hl])
    · by_cases hb : W.B k = p
      · by_cases hl : f (W.A k) + W.lg k = f p
        · have e : W.least f p (k + 1) = min (W.least f p k) (W.A k) := by rw [Web.least, if_neg ha, if_pos hb, if_pos hl]
          by_cases hm : W.least f p k ≤ W.A k
          · exact old (by omega)
          · have e2 : W.least f p (k + 1) = W.A k := by omega
            exact ⟨k, by omega, .inr ⟨e2.symm, hb⟩, by rw [e2]; exact hl⟩
        · exact old (by rw [Web.least, if_neg ha, if_pos hb, if_neg hl])
      · exact old (by rw [Web.least, if_neg ha, if_neg hb])
/-- One step back on a shortest route. -/
theorem Web.Longs.step {W : Web} (ho : W.ok) {s : Nat} {f : Nat → Int} (h : W.Longs s f) {p : Nat} (hp : p < W.n) (hne : p ≠ s) (h0 : 0 ≤ f p) : W.least f p W.m < W.n ∧ 0 ≤ f (W.least f p W.m) ∧ f (W.least f p W.m) < f p := by
  obtain ⟨q, l, ⟨i, hi, hl, hr⟩, hq0, hq⟩ := h.back p hp hne h0
  have hq1 : q < W.n := by
    have ha := ho.a i hi
    have hb := ho.b i hi
    rcases hr with ⟨h1, h2⟩ | ⟨h1, h2⟩ <;> omega
  have hle := W.least_lt ho (f := f) (p := p) (k := W.m) (i := i) (q := q) (Nat.le_refl _) hi hr.symm (by rw [hl]; exact hq)
  have hlt : W.least f p W.m < W.n := by omega
  obtain ⟨j, hj, hr2, hl2⟩ := W.least_is hlt
  have hroad : W.road p (W.least f p W.m) (W.lg j) := ⟨j, hj, rfl, hr2⟩
  obtain ⟨_, _, l1, _⟩ := W.road_lt ho hroad
  have := (h.near _ _ _ hroad h0).1
  exact ⟨hlt, this, by omega⟩
end Go.Proofs.Yteclmjknmdlopaa
namespace Go.Proofs.Yteclmjknmdlopaa
open Go Go.RowKit
theorem Web.Longs.congr {W : Web} (ho : W.ok) {s : Nat} (hs : s < W.n) {f g : Nat → Int} (h : W.Longs s f) (e : ∀ j, j < W.n → f j = g j) : W.Longs s g := by
  refine ⟨by rw [← e s hs]; exact h.start, fun p hp => by rw [← e p hp]; exact h.low p hp, ?_, ?_⟩
  · intro p q l hr h0
    obtain ⟨hp, hq, _, _⟩ := W.road_lt ho hr
    rw [← e p hp] at h0 ⊢
    rw [← e q hq]
    exact h.near p q l hr h0
  · intro p hp hne h0
    rw [← e p hp] at h0 ⊢
    obtain ⟨q, l, hr, h1, h2⟩ := h.back p hp hne h0
    have hq := (W.road_lt ho hr).1
    exact ⟨q, l, hr, by rw [← e q hq]; exact h1, by rw [← e q hq]; exact h2⟩
/-- The j-th place back from t. -/
def Web.pl (W : Web) (f : Nat → Int) (t : Nat) : Nat → Nat
  | 0 => t
  | k + 1 => W.least f (W.pl f t k) W.m
theorem Web.pl_shift (W : Web) (f : Nat → Int) (t : Nat) : ∀ k, W.pl f t (k + 1) = W.pl f (W.least f t W.m) k := by
  intro k
  induction k with
  | zero => rfl
  | succ k ih => rw [Web.pl, ih]; rfl
/-- A route back: at its K-th place it comes where it began. -/
structure Pth (W : Web) (f : Nat → Int) (s t K : Nat) : Prop where
  last : W.pl f t K = s
  lt : ∀ j, j ≤ K → W.pl f t j < W.n
  ge : ∀ j, j ≤ K → 0 ≤ f (W.pl f t j)
  ne : ∀ j, j < K → W.pl f t j ≠ s
theorem cnl_lt {f : Nat → Int} {q p n : Nat} (hq : q < n) (h0 : 0 ≤ f q) (h : f q < f p) : cnl f (f q) n < cnl f (f p) n := by
  unfold cnl
  refine sumWb_lt hq (fun j _ => ?_) ?_
  · by_cases e : 0 ≤ f j ∧ f j < f q
    · rw [if_pos e, if_pos (by omega)]; exact Nat.le_refl _
    · rw [if_neg e]; exact Nat.zero_le _
  · rw [if_neg (by omega), if_pos (by omega)]; exact Nat.zero_lt_one
theorem Pth.ex {W : Web} (ho : W.ok) {s : Nat} {f : Nat → Int} (h : W.Longs s f) : ∀ (c t : Nat), t < W.n → 0 ≤ f t → cnl f (f t) W.n ≤ c → ∃ K, K ≤ c ∧ Pth W f s t K := by
  intro c
  induction c with
  | zero =>
    intro t ht h0 hc
    by_cases hts : t = s
    · exact ⟨0, Nat.le_refl _, hts, fun j hj => by rw [Nat.le_zero.1 hj]; exact ht, fun j hj => by rw [Nat.le_zero.1 hj]; exact h0, fun j hj => absurd hj (Nat.not_lt_zero j)⟩
    · obtain ⟨h1, h2, h3⟩ := h.step ho ht hts h0
      have := cnl_lt h1 h2 h3
      omega
  | succ c ih =>
    intro t ht h0 hc
    by_cases hts : t = s
    · exact ⟨0, Nat.zero_le _, hts, fun j hj => by rw [Nat.le_zero.1 hj]; exact ht, fun j hj => by rw [Nat.le_zero.1 hj]; exact h0, fun j hj => absurd hj (Nat.not_lt_zero j)⟩
    · obtain ⟨h1, h2, h3⟩ := h.step ho ht hts h0
      have hlt := cnl_lt h1 h2 h3
      obtain ⟨K, hK, hp⟩ := ih _ h1 h2 (by omega)
      refine ⟨K + 1, by omega, by rw [W.pl_shift]; exact hp.last, fun j hj => ?_, fun j hj => ?_, fun j hj => ?_⟩
      · cases j with
        | zero => exact ht
        | succ j => rw [W.pl_shift]; exact hp.lt j (by omega)
      · cases j with
        | zero => exact h0
        | succ j => rw [W.pl_shift]; exact hp.ge j (by omega)
      · cases j with
        | zero => exact hts
        | succ j => rw [W.pl_shift]; exact hp.ne j (by omega)
theorem Pth.exists {W : Web} (ho : W.ok) {s t : Nat} {f : Nat → Int} (h : W.Longs s f) (ht : t < W.n) (h0 : 0 ≤ f t) : ∃ K, K ≤ 64 ∧ Pth W f s t K := by
  obtain ⟨K, hK, hp⟩ := Pth.ex ho h W.n t ht h0 (cnl_le _ _ _)
  exact ⟨K, Nat.le_trans hK ho.n64, hp⟩
/-- The places back, as numbers. -/
def bk (W : Web) (f : Nat → Int) (t : Nat) (j : Nat) : Int := (W.pl f t j : Int)
/-- What a list of numbers says. -/
def fF (F : List Int) (j : Nat) : Int := F.getD j 0
theorem il_eq {n : Nat} {f : Nat → Int} {F : List Int} (h : il n f = ils F) : ∀ j, j < n → f j = fF F j := by
  intro j hj
  have h1 := il_at (f := f) hj
  have hl : n = F.length := by have := congrArg List.length h; rw [il_len] at this; simpa [ils] using this
  rw [h] at h1
  unfold ils at h1
  rw [List.getElem?_map, List.getElem?_eq_getElem (by omega)] at h1
  simp at h1
  unfold fF
  simp [List.getD, List.getElem?_eq_getElem (show j < F.length by omega), h1]
/-- The least place so far, as the model tells it: -1 is none. -/
def nx (W : Web) (f : Nat → Int) (p k : Nat) : Int := if W.least f p k < W.n then (W.least f p k : Int) else -1
theorem nx_zero (W : Web) (f : Nat → Int) (p : Nat) : nx W f p 0 = -1 := by
  unfold nx
  rw [if_neg (by simp [Web.least])]
theorem least_stay {W : Web} {f : Nat → Int} {p k o : Nat} (ho : (W.A k = p ∧ W.B k = o) ∨ (W.A k ≠ p ∧ W.B k = p ∧ W.A k = o)) (h : ¬ f o + W.lg k = f p) : W.least f p (k + 1) = W.least f p k := by
  rw [Web.least]
  rcases ho with ⟨h1, h2⟩ | ⟨h1, h2, h3⟩
  · rw [if_pos h1, h2, if_neg h]
  · rw [if_neg h1, if_pos h2, h3, if_neg h]
theorem least_min {W : Web} {f : Nat → Int} {p k o : Nat} (ho : (W.A k = p ∧ W.B k = o) ∨ (W.A k ≠ p ∧ W.B k = p ∧ W.A k = o)) (h : f o + W.lg k = f p) : W.least f p (k + 1) = min (W.least f p k) o := by
  rw [Web.least]
  rcases ho with ⟨h1, h2⟩ | ⟨h1, h2, h3⟩
  · rw [if_pos h1, h2, if_pos h]
  · rw [if_neg h1, if_pos h2, h3, if_pos h]
theorem least_none {W : Web} {f : Nat → Int} {p k : Nat} (h1 : W.A k ≠ p) (h2 : W.B k ≠ p) : W.least f p (k + 1) = W.least f p k := by
  rw [Web.least, if_neg h1, if_neg h2]
/-- 'returns a new list of these values, a number and this' -/
def RPy (T : TypeId) (ok : Bool) (x : Int) (vs : List Value) (w : World) (e : Ending) (w' : World) : Prop := (∃ v, e = .returned (.tuple #[v, .int .i64 x, .bool ok]) ∧ w'.ownsRow w.heap.size T 1 v vs.length vs) ∧ Below w.heap.size w w'
theorem RPy.nil {T : TypeId} {w w' : World} (b : Below w.heap.size w w') : RPy T false 0 (ils []) w (.returned (.tuple #[.slice none 0 0, .int .i64 0, .bool false])) w' := ⟨⟨_, rfl, World.ownsRow_nil _ _ _ _⟩, b⟩
/-- The route, forwards. -/
def rte (W : Web) (f : Nat → Int) (t K : Nat) : List Int := (List.range (K + 1)).map fun j => bk W f t (K - j)
theorem rte_len (W : Web) (f : Nat → Int) (t K : Nat) : (rte W f t K).length = K + 1 := by simp [rte]
theorem rte_il (W : Web) (f : Nat → Int) (t K : Nat) : ils (rte W f t K) = il (K + 1) (fun j => bk W f t (K - j)) := by
  unfold ils rte il
  rw [List.map_map]
  rfl
end Go.Proofs.Yteclmjknmdlopaa
