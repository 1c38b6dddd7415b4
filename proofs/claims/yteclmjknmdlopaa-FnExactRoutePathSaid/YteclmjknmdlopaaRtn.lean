/-
  Routes: how long the shortest ones are, told by what two searches keep. No memory.
-/
import Derived.Test.YteclmjknmdlopaaCn
namespace Go.Proofs.Yteclmjknmdlopaa
/-- Roads of places below n: road i leads between A i and B i, lg i long. -/
structure Web where
  n : Nat
  m : Nat
  A : Nat → Nat
  B : Nat → Nat
  lg : Nat → Int
def Web.road (W : Web) (p q : Nat) (l : Int) : Prop := ∃ i, i < W.m ∧ W.lg i = l ∧ ((W.A i = p ∧ W.B i = q) ∨ (W.A i = q ∧ W.B i = p))
structure Web.ok (W : Web) : Prop where
  n64 : W.n ≤ 64
  a : ∀ i, i < W.m → W.A i < W.n
  b : ∀ i, i < W.m → W.B i < W.n
  ne : ∀ i, i < W.m → W.A i ≠ W.B i
  l : ∀ i, i < W.m → 1 ≤ W.lg i ∧ W.lg i ≤ 1000000
theorem Web.road_symm {W : Web} {p q : Nat} {l : Int} (h : W.road p q l) : W.road q p l := by
  obtain ⟨i, hi, hl, h⟩ := h
  exact ⟨i, hi, hl, h.symm⟩
theorem Web.road_lt {W : Web} (ho : W.ok) {p q : Nat} {l : Int} (h : W.road p q l) : p < W.n ∧ q < W.n ∧ 1 ≤ l ∧ l ≤ 1000000 := by
  obtain ⟨i, hi, hl, h⟩ := h
  have := ho.l i hi
  have ha := ho.a i hi
  have hb := ho.b i hi
  rcases h with ⟨h1, h2⟩ | ⟨h1, h2⟩
  · subst h1; subst h2; omega
  · subst h1; subst h2; omega
/-- How long the shortest routes from s are. -/
structure Web.Longs (W : Web) (s : Nat) (f : Nat → Int) : Prop where
  start : f s = 0
  low : ∀ p, p < W.n → -1 ≤ f p
  near : ∀ p q l, W.road p q l → 0 ≤ f p → 0 ≤ f q ∧ f q ≤ f p + l
  back : ∀ p, p < W.n → p ≠ s → 0 ≤ f p → ∃ q l, W.road q p l ∧ 0 ≤ f q ∧ f q + l = f p
theorem Web.le_of {W : Web} (ho : W.ok) {s : Nat} {f g : Nat → Int} (hf : W.Longs s f) (hg : W.Longs s g) : ∀ (k p : Nat), p < W.n → f p = (k : Int) → 0 ≤ g p ∧ g p ≤ f p := by
  intro k
  induction k using Nat.strongRecOn with
  | ind k ih =>
    intro p hp hk
    by_cases hs : p = s
    · subst hs; rw [hf.start, hg.start]; omega
    · obtain ⟨q, l, hr, h0, hq⟩ := hf.back p hp hs (by omega)
      obtain ⟨q1, _, l1, _⟩ := W.road_lt ho hr
      obtain ⟨a, b⟩ := ih (f q).toNat (by omega) q q1 (by omega)
      obtain ⟨c, d⟩ := hg.near q p l hr a
      omega
theorem Web.unique {W : Web} (ho : W.ok) {s : Nat} {f g : Nat → Int} (hf : W.Longs s f) (hg : W.Longs s g) {p : Nat} (hp : p < W.n) : f p = g p := by
  have h1 := hf.low p hp
  have h2 := hg.low p hp
  by_cases a : 0 ≤ f p
  · have x := W.le_of ho hf hg (f p).toNat p hp (by omega)
    have y := W.le_of ho hg hf (g p).toNat p hp (by omega)
    omega
  · by_cases b : 0 ≤ g p
    · have y := W.le_of ho hg hf (g p).toNat p hp (by omega)
      omega
    · omega
/-! ## Sums -/
def sumWb (f : Nat → Nat) : Nat → Nat
  | 0 => 0
  | n + 1 => sumWb f n + f n
def upd {α : Type} (f : Nat → α) (p : Nat) (v : α) : Nat → α := fun j => if j = p then v else f j
theorem upd_at {α : Type} (f : Nat → α) (p : Nat) (v : α) : upd f p v p = v := by simp [upd]
theorem upd_ne {α : Type} {f : Nat → α} {p j : Nat} {v : α} (h : j ≠ p) : upd f p v j = f j := by simp [upd, h]
theorem sumWb_congr {f g : Nat → Nat} : ∀ {n : Nat}, (∀ j, j < n → f j = g j) → sumWb f n = sumWb g n := by
  intro n
  induction n with
  | zero => intro _; rfl
  | succ n ih => intro h; unfold sumWb; rw [ih (fun j hj => h j (by omega)), h n (by omega)]
theorem sumWb_upd {f : Nat → Nat} {p v : Nat} : ∀ {n : Nat}, p < n → sumWb (upd f p v) n + f p = sumWb f n + v := by
  intro n
  induction n with
  | zero => intro h; omega
  | succ n ih =>
    intro h
    unfold sumWb
    by_cases hp : p = n
    · subst hp
      rw [upd_at, sumWb_congr (g := f) (fun j hj => upd_ne (by omega))]
      omega
    · rw [upd_ne (by omega : n ≠ p)]
      have := ih (by omega)
      omega
theorem sumWb_le {f : Nat → Nat} {c : Nat} : ∀ {n : Nat}, (∀ j, j < n → f j ≤ c) → sumWb f n ≤ n * c := by
  intro n
  induction n with
  | zero => intro _; simp [sumWb]
  | succ n ih =>
    intro h
    have h1 := ih (fun j hj => h j (by omega))
    have h2 := h n (by omega)
    unfold sumWb
    rw [Nat.succ_mul]; omega
/-! ## The model's search -/
def rea (v : Int) : Nat := if v < 0 then 0 else 1
def cst (v : Int) : Nat := if v < 0 then 100000000 else v.toNat
def cnt (n : Nat) (f : Nat → Int) : Nat := sumWb (fun j => rea (f j)) n
def tot (n : Nat) (f : Nat → Int) : Nat := sumWb (fun j => cst (f j)) n
structure Web.Mid (W : Web) (s : Nat) (f : Nat → Int) : Prop where
  start : f s = 0
  low : ∀ p, p < W.n → -1 ≤ f p
  high : ∀ p, p < W.n → f p ≤ 1000000 * (cnt W.n f : Int)
  back : ∀ p, p < W.n → p ≠ s → 0 ≤ f p → ∃ q l, W.road q p l ∧ 0 ≤ f q ∧ f q + l ≤ f p
theorem cnt_le {n : Nat} (f : Nat → Int) : cnt n f ≤ n := by
  have := sumWb_le (f := fun j => rea (f j)) (c := 1) (n := n) (fun j _ => by unfold rea; split <;> omega)
  unfold cnt; omega
theorem cnt_upd {n p : Nat} {f : Nat → Int} {v : Int} (hp : p < n) : cnt n (upd f p v) + rea (f p) = cnt n f + rea v := by
  unfold cnt
  have h := sumWb_upd (f := fun j => rea (f j)) (p := p) (v := rea v) hp
  rw [← h]
  congr 1
  apply sumWb_congr
  intro j _
  by_cases hj : j = p
  · subst hj; rw [upd_at, upd_at]
  · rw [upd_ne hj, upd_ne hj]
theorem tot_upd {n p : Nat} {f : Nat → Int} {v : Int} (hp : p < n) : tot n (upd f p v) + cst (f p) = tot n f + cst v := by
  unfold tot
  have h := sumWb_upd (f := fun j => cst (f j)) (p := p) (v := cst v) hp
  rw [← h]
  congr 1
  apply sumWb_congr
  intro j _
  by_cases hj : j = p
  · subst hj; rw [upd_at, upd_at]
  · rw [upd_ne hj, upd_ne hj]
theorem Web.Mid.first {W : Web} {s : Nat} : W.Mid s (upd (fun _ => (-1 : Int)) s 0) where
  start := upd_at _ _ _
  low p _ := by unfold upd; split <;> simp
  high p _ := by
    have h : upd (fun _ => (-1 : Int)) s 0 p ≤ 0 := by unfold upd; split <;> simp
    have : (0 : Int) ≤ (cnt W.n (upd (fun _ => (-1 : Int)) s 0) : Int) := by omega
    omega
  back p hp hne h := by rw [upd_ne hne] at h; simp at h
/-- A place that is told anew from one that is told. -/
theorem Web.Mid.relax {W : Web} (ho : W.ok) {s : Nat} {f : Nat → Int} (h : W.Mid s f) {p q : Nat} {l : Int} (hr : W.road p q l) (hp : 0 ≤ f p) (hq : f q < 0 ∨ f p + l < f q) : W.Mid s (upd f q (f p + l)) ∧ tot W.n (upd f q (f p + l)) < tot W.n f ∧ f p + l ≤ 65000000 := by
  have hn := ho.n64
  obtain ⟨p1, q1, l1, l2⟩ := W.road_lt ho hr
  have hc := cnt_le (n := W.n) f
  have hh := h.high p p1
  have hqs : q ≠ s := by
    intro e
    subst e
    rw [h.start] at hq
    omega
  have hpq : p ≠ q := by
    intro e
    subst e
    omega
  have hbig : f p + l ≤ 65000000 := by omega
  have hcu := cnt_upd (f := f) (v := f p + l) q1
  have htu := tot_upd (f := f) (v := f p + l) q1
  have e1 : rea (f p + l) = 1 := by unfold rea; rw [if_neg (by omega)]
  have e2 : cst (f p + l) = (f p + l).toNat := by unfold cst; rw [if_neg (by omega)]
  rw [e1] at hcu
  rw [e2] at htu
  have e3 : rea (f q) ≤ 1 := by unfold rea; split <;> omega
  refine ⟨⟨?_, ?_, ?_, ?_⟩, ?_, by omega⟩
  · rw [upd_ne (Ne.symm hqs)]; exact h.start
  · intro r hr'
    by_cases e : r = q
    · subst e; rw [upd_at]; omega
    · rw [upd_ne e]; exact h.low r hr'
  · intro r hr'
    by_cases e : r = q
    · subst e
      rw [upd_at]
      by_cases hneg : f r < 0
      · have e4 : rea (f r) = 0 := by unfold rea; rw [if_pos hneg]
        omega
      · have := h.high r hr'
        have e4 : rea (f r) = 1 := by unfold rea; rw [if_neg hneg]
        omega
    · rw [upd_ne e]
      have := h.high r hr'
      omega
  · intro r hr' hrs h0
    by_cases e : r = q
    · subst e
      rw [upd_at]
      exact ⟨p, l, hr, by rw [upd_ne hpq]; exact hp, by rw [upd_ne hpq]; omega⟩
    · rw [upd_ne e] at h0 ⊢
      obtain ⟨t, k, h1, h2, h3⟩ := h.back r hr' hrs h0
      refine ⟨t, k, h1, ?_⟩
      by_cases e' : t = q
      · subst e'
        rw [upd_at]
        omega
      · rw [upd_ne e']; exact ⟨h2, h3⟩
  · by_cases hneg : f q < 0
    · have e4 : cst (f q) = 100000000 := by unfold cst; rw [if_pos hneg]
      omega
    · have e4 : cst (f q) = (f q).toNat := by unfold cst; rw [if_neg hneg]
      omega
/-- No road makes a route shorter. -/
def Web.still (W : Web) (f : Nat → Int) (k : Nat) : Prop := ∀ i, i < k → (0 ≤ f (W.A i) → 0 ≤ f (W.B i) ∧ f (W.B i) ≤ f (W.A i) + W.lg i) ∧ (0 ≤ f (W.B i) → 0 ≤ f (W.A i) ∧ f (W.A i) ≤ f (W.B i) + W.lg i)
theorem Web.Mid.longs {W : Web} {s : Nat} {f : Nat → Int} (h : W.Mid s f) (hs : W.still f W.m) : W.Longs s f := by
  have near : ∀ p q l, W.road p q l → 0 ≤ f p → 0 ≤ f q ∧ f q ≤ f p + l := by
    intro p q l ⟨i, hi, hl, hr⟩ hp
    obtain ⟨x, y⟩ := hs i hi
    rcases hr with ⟨h1, h2⟩ | ⟨h1, h2⟩
    · subst h1; subst h2; subst hl; exact x hp
    · subst h1; subst h2; subst hl; exact y hp
  refine ⟨h.start, h.low, near, ?_⟩
  intro p hp hne h0
  obtain ⟨q, l, hr, h1, h2⟩ := h.back p hp hne h0
  have := near q p l hr h1
  exact ⟨q, l, hr, h1, by omega⟩

/-! ## The program's search -/
structure Web.Dij (W : Web) (s : Nat) (f : Nat → Int) (H : List (Int × Nat)) (t : Int) (c k : Nat) : Prop where
  low : ∀ p, p < W.n → -1 ≤ f p
  top : ∀ p, p < W.n → f p ≤ t
  high : ∀ p, p < W.n → f p ≤ 1000000 * (cnt W.n f : Int)
  inn : ∀ x, x ∈ H → t ≤ x.1 ∧ x.2 < W.n ∧ 0 ≤ x.1
  start : f s = 0 ∨ (H = [(0, s)] ∧ ∀ p, p < W.n → f p = -1)
  src : ∀ x, x ∈ H → x = (0, s) ∨ ∃ q l, W.road q x.2 l ∧ 0 ≤ f q ∧ f q + l = x.1
  push : ∀ i, i < W.m → ∀ p q, ((W.A i = p ∧ W.B i = q) ∨ (W.A i = q ∧ W.B i = p)) → (p ≠ c ∨ i < k) → 0 ≤ f p → (0 ≤ f q ∧ f q ≤ f p + W.lg i) ∨ (f p + W.lg i, q) ∈ H
  back : ∀ p, p < W.n → p ≠ s → 0 ≤ f p → ∃ q l, W.road q p l ∧ 0 ≤ f q ∧ f q + l = f p
theorem cnt_neg {n : Nat} {f : Nat → Int} (h : ∀ p, p < n → f p = -1) : cnt n f = 0 := by
  unfold cnt
  have h1 := sumWb_le (f := fun j => rea (f j)) (c := 0) (n := n) (fun j hj => by rw [h j hj]; decide)
  omega
theorem Web.Dij.first {W : Web} {s : Nat} (hs : s < W.n) (c k : Nat) : W.Dij s (fun _ => -1) [(0, s)] 0 c k where
  low _ _ := by simp
  top _ _ := by simp
  high p _ := by show (-1 : Int) ≤ _; omega
  inn x hx := by simp at hx; subst hx; exact ⟨by simp, hs, by simp⟩
  start := .inr ⟨rfl, fun _ _ => rfl⟩
  src x hx := by simp at hx; exact .inl hx
  push _ _ _ _ _ _ h := by simp at h
  back _ _ _ h := by simp at h
theorem Web.Dij.perm {W : Web} {s : Nat} {f : Nat → Int} {H G : List (Int × Nat)} {t : Int} {c k : Nat} (h : W.Dij s f H t c k) (hp : H.Perm G) : W.Dij s f G t c k where
  low := h.low
  top := h.top
  high := h.high
  inn x hx := h.inn x (hp.mem_iff.2 hx)
  start := h.start.imp id fun ⟨e, g⟩ => ⟨by rw [e] at hp; exact (List.perm_singleton.1 hp.symm), g⟩
  src x hx := h.src x (hp.mem_iff.2 hx)
  push i hi p q a b d := (h.push i hi p q a b d).imp id hp.mem_iff.1
  back := h.back
/-- The bound of what is on the way. -/
theorem Web.Dij.bound {W : Web} (ho : W.ok) {s : Nat} {f : Nat → Int} {H : List (Int × Nat)} {t : Int} {c k : Nat} (h : W.Dij s f H t c k) {x : Int × Nat} (hx : x ∈ H) : x.1 ≤ 1000000 * (cnt W.n f : Int) + 1000000 := by
  rcases h.src x hx with e | ⟨q, l, hr, h1, h2⟩
  · rw [e]; simp; omega
  · obtain ⟨q1, _, _, l2⟩ := W.road_lt ho hr
    have := h.high q q1
    omega
theorem Web.Dij.skip {W : Web} {s : Nat} {f : Nat → Int} {H : List (Int × Nat)} {x : Int × Nat} {t : Int} {c c' : Nat} (h : W.Dij s f (x :: H) t c W.m) (hmin : ∀ y, y ∈ H → x.1 ≤ y.1) (hx : 0 ≤ f x.2) : W.Dij s f H x.1 c' W.m := by
  obtain ⟨t1, x1, x0⟩ := h.inn x (by simp)
  refine ⟨h.low, fun p hp => Int.le_trans (h.top p hp) t1, h.high, fun y hy => ⟨hmin y hy, (h.inn y (by simp [hy])).2⟩, ?_, fun y hy => h.src y (by simp [hy]), ?_, h.back⟩
  · rcases h.start with e | ⟨_, g⟩
    · exact .inl e
    · rw [g _ x1] at hx; simp at hx
  · intro i hi p q a b d
    rcases h.push i hi p q a (.inr hi) d with r | r
    · exact .inl r
    · rcases List.mem_cons.1 r with r | r
      · left
        have e1 : x.1 = f p + W.lg i := by rw [← r]
        have e2 : x.2 = q := by rw [← r]
        have := h.top x.2 x1
        rw [e2] at hx this
        omega
      · exact .inr r
theorem Web.Dij.settle {W : Web} (ho : W.ok) {s : Nat} {f : Nat → Int} {H : List (Int × Nat)} {x : Int × Nat} {t : Int} {c : Nat} (h : W.Dij s f (x :: H) t c W.m) (hmin : ∀ y, y ∈ H → x.1 ≤ y.1) (hx : f x.2 < 0) : W.Dij s (upd f x.2 x.1) H x.1 x.2 0 ∧ cnt W.n (upd f x.2 x.1) = cnt W.n f + 1 := by
  obtain ⟨t1, x1, x0⟩ := h.inn x (by simp)
  have hb := h.bound ho (x := x) (by simp)
  have hcu := cnt_upd (f := f) (v := x.1) x1
  have e1 : rea x.1 = 1 := by unfold rea; rw [if_neg (by omega)]
  have e2 : rea (f x.2) = 0 := by unfold rea; rw [if_pos hx]
  rw [e1, e2] at hcu
  refine ⟨⟨?_, ?_, ?_, fun y hy => ⟨hmin y hy, (h.inn y (by simp [hy])).2⟩, ?_, ?_, ?_, ?_⟩, by omega⟩
  · intro p hp
    by_cases e : p = x.2
    · rw [e, upd_at]; omega
    · rw [upd_ne e]; exact h.low p hp
  · intro p hp
    by_cases e : p = x.2
    · rw [e, upd_at]; omega
    · rw [upd_ne e]; exact Int.le_trans (h.top p hp) t1
  · intro p hp
    by_cases e : p = x.2
    · rw [e, upd_at]; omega
    · rw [upd_ne e]; have := h.high p hp; omega
  · left
    rcases h.start with e | ⟨e, g⟩
    · rw [upd_ne (by intro e'; rw [← e', e] at hx; omega)]; exact e
    · have e3 : x = (0, s) := by simp at e; exact e.1
      rw [e3]; simp [upd]
  · intro y hy
    rcases h.src y (by simp [hy]) with e | ⟨q, l, hr, h1, h2⟩
    · exact .inl e
    · right
      have hq : q ≠ x.2 := by intro e; rw [e] at h1; omega
      exact ⟨q, l, hr, by rw [upd_ne hq]; exact h1, by rw [upd_ne hq]; exact h2⟩
  · intro i hi p q a b d
    have hpc : p ≠ x.2 := by
      rcases b with b | b
      · exact b
      · omega
    rw [upd_ne hpc] at d ⊢
    rcases h.push i hi p q a (.inr hi) d with r | r
    · left
      have hq : q ≠ x.2 := by intro e; rw [e] at r; omega
      rw [upd_ne hq]; exact r
    · rcases List.mem_cons.1 r with r | r
      · left
        have e4 : x.1 = f p + W.lg i := by rw [← r]
        have e5 : x.2 = q := by rw [← r]
        rw [← e5, upd_at]
        omega
      · exact .inr r
  · intro p hp hne h0
    by_cases e : p = x.2
    · subst e
      rw [upd_at]
      rcases h.src x (by simp) with e | ⟨q, l, hr, h1, h2⟩
      · rw [e] at hne; exact absurd rfl hne
      · have hq : q ≠ x.2 := by intro e; rw [e] at h1; omega
        exact ⟨q, l, hr, by rw [upd_ne hq]; exact h1, by rw [upd_ne hq]; exact h2⟩
    · rw [upd_ne e] at h0 ⊢
      obtain ⟨q, l, hr, h1, h2⟩ := h.back p hp hne h0
      have hq : q ≠ x.2 := by intro e; rw [e] at h1; omega
      exact ⟨q, l, hr, by rw [upd_ne hq]; exact h1, by rw [upd_ne hq]; exact h2⟩
/-- A road that does not lead from the place. -/
theorem Web.Dij.pass {W : Web} {s : Nat} {f : Nat → Int} {H : List (Int × Nat)} {t : Int} {c k : Nat} (h : W.Dij s f H t c k) (ha : W.A k ≠ c) (hb : W.B k ≠ c) : W.Dij s f H t c (k + 1) :=
  ⟨h.low, h.top, h.high, h.inn, h.start, h.src, fun i hi p q a b d => h.push i hi p q a (by
    rcases b with b | b
    · exact .inl b
    · by_cases e : i = k
      · subst e
        left
        rcases a with ⟨a1, _⟩ | ⟨_, a2⟩
        · rw [← a1]; exact ha
        · rw [← a2]; exact hb
      · right; omega) d, h.back⟩
/-- A road that leads from the place, to q. -/
theorem Web.Dij.add {W : Web} (ho : W.ok) {s : Nat} {f : Nat → Int} {H : List (Int × Nat)} {t : Int} {c k : Nat} (h : W.Dij s f H t c k) (hk : k < W.m) (h0 : f s = 0) (hc : f c = t) (ht : 0 ≤ t) {q : Nat} (hq : (W.A k = c ∧ W.B k = q) ∨ (W.A k = q ∧ W.B k = c)) : W.Dij s f ((f c + W.lg k, q) :: H) t c (k + 1) := by
  have hr : W.road c q (W.lg k) := ⟨k, hk, rfl, hq⟩
  obtain ⟨c1, q1, l1, l2⟩ := W.road_lt ho hr
  refine ⟨h.low, h.top, h.high, ?_, .inl h0, ?_, ?_, h.back⟩
  · intro x hx
    rcases List.mem_cons.1 hx with hx | hx
    · subst hx; exact ⟨by simp; omega, q1, by simp; omega⟩
    · exact h.inn x hx
  · intro x hx
    rcases List.mem_cons.1 hx with hx | hx
    · subst hx; exact .inr ⟨c, W.lg k, hr, by omega, rfl⟩
    · exact h.src x hx
  · intro i hi p q' a b d
    by_cases e : p = c ∧ i = k
    · obtain ⟨e1, e2⟩ := e
      subst e1; subst e2
      right
      have hne := ho.ne i hi
      have : q' = q := by
        rcases a with ⟨a1, a2⟩ | ⟨a1, a2⟩ <;> rcases hq with ⟨b1, b2⟩ | ⟨b1, b2⟩ <;> omega
      rw [this]; simp
    · rcases h.push i hi p q' a (by
        rcases b with b | b
        · exact .inl b
        · by_cases e' : i = k
          · left; intro e2; exact e ⟨e2, e'⟩
          · right; omega) d with r | r
      · exact .inl r
      · exact .inr (by simp [r])
theorem Web.Dij.longs {W : Web} {s : Nat} {f : Nat → Int} {t : Int} {c : Nat} (h : W.Dij s f [] t c W.m) : W.Longs s f := by
  refine ⟨?_, h.low, ?_, h.back⟩
  · rcases h.start with e | ⟨e, _⟩
    · exact e
    · simp at e
  · intro p q l ⟨i, hi, hl, hr⟩ hp
    rcases h.push i hi p q hr (.inr hi) hp with r | r
    · subst hl; exact r
    · simp at r
end Go.Proofs.Yteclmjknmdlopaa
