/-
  FillPits: the search, as numbers. No walk. No premise beyond those named.
-/
import Derived.Test.YtcgmffpddahgoabNei
import Derived.Test.YtcgmffpddahgoabSinM
namespace Go.Proofs.Ytcgmffpddahgoab
open Go Go.RowKit
set_option maxRecDepth 100000

/-- the first one with the least level of the first m places that are open -/
def bst (L : Nat → Nat) (o : Nat → Bool) : Nat → Int
  | 0 => -1
  | m + 1 => if o m && (decide (bst L o m < 0) || fcmp .lss .f32 (L m) (L (bst L o m).toNat)) then (m : Int) else bst L o m
theorem bst_yes {L : Nat → Nat} {o : Nat → Bool} {m : Nat} (h : o m = true) (h2 : (decide (bst L o m < 0) || fcmp .lss .f32 (L m) (L (bst L o m).toNat)) = true) : bst L o (m + 1) = (m : Int) := by
  show (if _ then _ else _) = _
  rw [h, h2]
  rfl
theorem bst_no {L : Nat → Nat} {o : Nat → Bool} {m : Nat} (h : o m = false) : bst L o (m + 1) = bst L o m := by
  show (if _ then _ else _) = _
  rw [h]
  rfl
theorem bst_no2 {L : Nat → Nat} {o : Nat → Bool} {m : Nat} (h2 : (decide (bst L o m < 0) || fcmp .lss .f32 (L m) (L (bst L o m).toNat)) = false) : bst L o (m + 1) = bst L o m := by
  show (if _ then _ else _) = _
  rw [h2, Bool.and_false]
  rfl
theorem bst_in {L : Nat → Nat} {o : Nat → Bool} : ∀ m, -1 ≤ bst L o m ∧ bst L o m < (m : Int) := by
  intro m
  induction m with
  | zero => exact ⟨Int.le_refl _, by show (-1 : Int) < 0; omega⟩
  | succ m ih =>
    cases h : o m
    · rw [bst_no h]; omega
    · cases h2 : (decide (bst L o m < 0) || fcmp .lss .f32 (L m) (L (bst L o m).toNat))
      · rw [bst_no2 h2]; omega
      · rw [bst_yes h h2]; omega
theorem bst_of {L : Nat → Nat} {o : Nat → Bool} {n : Nat} (hf : ∀ j, j < n → fin .f32 (L j) = true) : ∀ m, m ≤ n → (bst L o m < 0 → ∀ j, j < m → o j = false) ∧ (0 ≤ bst L o m → o (bst L o m).toNat = true ∧ ∀ j, j < m → o j = true → sv .f32 (L (bst L o m).toNat) ≤ sv .f32 (L j)) := by
  intro m
  induction m with
  | zero => intro _; exact ⟨fun _ j hj => absurd hj (Nat.not_lt_zero j), fun h => absurd h (by show ¬ (0 : Int) ≤ -1; omega)⟩
  | succ m ih =>
    intro hm
    obtain ⟨i1, i2⟩ := ih (by omega)
    have hin := bst_in (L := L) (o := o) m
    cases h : o m
    · rw [bst_no h]
      refine ⟨fun hb j hj => ?_, fun hb => ⟨(i2 hb).1, fun j hj ho => ?_⟩⟩
      · by_cases e : j = m
        · subst e; exact h
        · exact i1 hb j (by omega)
      · by_cases e : j = m
        · subst e; rw [h] at ho; cases ho
        · exact (i2 hb).2 j (by omega) ho
    · cases h2 : (decide (bst L o m < 0) || fcmp .lss .f32 (L m) (L (bst L o m).toNat))
      · rw [bst_no2 h2]
        rw [Bool.or_eq_false_iff, decide_eq_false_iff_not] at h2
        obtain ⟨g1, g2⟩ := h2
        rw [(fcmp_fin (hf m (by omega)) (hf _ (by omega))).1, decide_eq_false_iff_not] at g2
        refine ⟨fun hb => absurd hb g1, fun hb => ⟨(i2 hb).1, fun j hj ho => ?_⟩⟩
        by_cases e : j = m
        · subst e; omega
        · exact (i2 hb).2 j (by omega) ho
      · rw [bst_yes h h2, Int.toNat_natCast]
        refine ⟨fun hb => absurd hb (by omega), fun _ => ⟨h, fun j hj ho => ?_⟩⟩
        by_cases e : j = m
        · subst e; exact Int.le_refl _
        · rw [Bool.or_eq_true, decide_eq_true_iff] at h2
          rcases h2 with g | g
          · have := i1 g j (by omega); rw [this] at ho; cases ho
          · by_cases hb : bst L o m < 0
            · have := i1 hb j (by omega); rw [this] at ho; cases ho
            · rw [(fcmp_fin (hf m (by omega)) (hf _ (by omega))).1, decide_eq_true_iff] at g
              have := (i2 (by omega)).2 j (by omega) ho
              omega
/-- levels, which are known, and which are settled -/
structure FS where
  L : Nat → Nat
  K : Nat → Bool
  D : Nat → Bool
def FS.op (s : FS) (i : Nat) : Bool := s.K i && !s.D i
/-- the level to which a place is filled that one reaches at the level a -/
def lvl (f : Nat → Nat) (a k : Nat) : Nat := if fcmp .gtr .f32 a (f k) then a else f k
def FS.tell (s : FS) (f : Nat → Nat) (a k : Nat) : FS := if s.K k then s else ⟨fun j => if j = k then lvl f a k else s.L j, fun j => if j = k then true else s.K j, s.D⟩
def FS.settle (s : FS) (i : Nat) : FS := ⟨s.L, s.K, fun j => if j = i then true else s.D j⟩
def FS.around (s : FS) (f : Nat → Nat) (a : Nat) (l : List Int) : FS := l.foldl (fun s k => s.tell f a k.toNat) s
def FS.best (s : FS) (n : Nat) : Int := bst s.L s.op n
def FS.next (s : FS) (f : Nat → Nat) (W Hh n : Nat) : FS := if s.best n < 0 then s else (s.settle (s.best n).toNat).around f (s.L (s.best n).toNat) (nbs W Hh (s.best n).toNat)
def edgeB (W Hh i : Nat) : Bool := decide (i % W = 0 ∨ i / W = 0 ∨ i % W + 1 = W ∨ i / W + 1 = Hh)
def fsAt (f : Nat → Nat) (W Hh n : Nat) : Nat → FS
  | 0 => ⟨f, edgeB W Hh, fun _ => false⟩
  | t + 1 => (fsAt f W Hh n t).next f W Hh n
theorem tell_yes {s : FS} {f : Nat → Nat} {a k : Nat} (h : s.K k = true) : s.tell f a k = s := by unfold FS.tell; rw [if_pos h]
theorem tell_no {s : FS} {f : Nat → Nat} {a k : Nat} (h : s.K k = false) : s.tell f a k = ⟨fun j => if j = k then lvl f a k else s.L j, fun j => if j = k then true else s.K j, s.D⟩ := by unfold FS.tell; rw [if_neg (by rw [h]; decide)]
theorem tell_D {s : FS} {f : Nat → Nat} {a k : Nat} : (s.tell f a k).D = s.D := by
  cases h : s.K k
  · rw [tell_no h]
  · rw [tell_yes h]
theorem tell_K {s : FS} {f : Nat → Nat} {a k j : Nat} (h : s.K j = true) : (s.tell f a k).K j = true ∧ (s.tell f a k).L j = s.L j := by
  cases hk : s.K k
  · rw [tell_no hk]
    have hne : ¬ j = k := by rintro rfl; rw [h] at hk; cases hk
    dsimp only
    rw [if_neg hne, if_neg hne]
    exact ⟨h, rfl⟩
  · rw [tell_yes hk]; exact ⟨h, rfl⟩
theorem tell_at {s : FS} {f : Nat → Nat} {a k : Nat} : (s.tell f a k).K k = true := by
  cases h : s.K k
  · rw [tell_no h]; dsimp only; rw [if_pos rfl]
  · rw [tell_yes h]; exact h
theorem around_D {f : Nat → Nat} {a : Nat} (l : List Int) (s : FS) : (s.around f a l).D = s.D := by
  induction l generalizing s with
  | nil => rfl
  | cons k l ih =>
    show ((s.tell f a k.toNat).around f a l).D = _
    rw [ih, tell_D]
theorem around_K {f : Nat → Nat} {a j : Nat} (l : List Int) {s : FS} (h : s.K j = true) : (s.around f a l).K j = true ∧ (s.around f a l).L j = s.L j := by
  induction l generalizing s with
  | nil => exact ⟨h, rfl⟩
  | cons k l ih =>
    obtain ⟨h1, h2⟩ := tell_K (f := f) (a := a) (k := k.toNat) h
    obtain ⟨h3, h4⟩ := ih (s := s.tell f a k.toNat) h1
    exact ⟨h3, h4.trans h2⟩
theorem around_in {f : Nat → Nat} {a : Nat} {k : Int} (l : List Int) (s : FS) (h : k ∈ l) : (s.around f a l).K k.toNat = true := by
  induction l generalizing s with
  | nil => cases h
  | cons x l ih =>
    rcases List.mem_cons.1 h with rfl | h
    · exact (around_K l tell_at).1
    · exact ih _ h
theorem around_take {f : Nat → Nat} {a c : Nat} {l : List Int} {s : FS} (h : c < l.length) : s.around f a (l.take (c + 1)) = (s.around f a (l.take c)).tell f a (l.getD c 0).toNat := by
  unfold FS.around
  rw [List.take_succ_eq_append_getElem h, List.foldl_append, List.getD, List.getElem?_eq_getElem h]
  rfl
theorem lvl_of {f : Nat → Nat} {a k : Nat} (hf : fin .f32 (f k) = true) (ha : fin .f32 a = true) : fin .f32 (lvl f a k) = true ∧ sv .f32 a ≤ sv .f32 (lvl f a k) ∧ sv .f32 (f k) ≤ sv .f32 (lvl f a k) ∧ (sv .f32 (lvl f a k) ≤ sv .f32 (f k) ∨ sv .f32 (lvl f a k) ≤ sv .f32 a) := by
  unfold lvl
  cases h : fcmp .gtr .f32 a (f k)
  · rw [if_neg (by decide)]
    rw [(fcmp_fin ha hf).2.2.1, decide_eq_false_iff_not] at h
    exact ⟨hf, by omega, Int.le_refl _, .inl (Int.le_refl _)⟩
  · rw [if_pos rfl]
    rw [(fcmp_fin ha hf).2.2.1, decide_eq_true_iff] at h
    exact ⟨ha, Int.le_refl _, by omega, .inr (Int.le_refl _)⟩
/-- what stands while one is at the level m -/
structure Iv (f : Nat → Nat) (n : Nat) (s : FS) (m : Int) : Prop where
  fl : ∀ j, j < n → fin .f32 (s.L j) = true
  op : ∀ j, j < n → s.K j = true → s.D j = false → m ≤ sv .f32 (s.L j)
  up : ∀ j, j < n → s.K j = true → sv .f32 (s.L j) ≤ sv .f32 (f j) ∨ sv .f32 (s.L j) ≤ m
  un : ∀ j, j < n → s.K j = false → s.L j = f j
  kd : ∀ j, s.D j = true → s.K j = true
theorem Iv.tell {f : Nat → Nat} {n a k : Nat} {s : FS} (h : Iv f n s (sv .f32 a)) (hf : ∀ j, j < n → fin .f32 (f j) = true) (ha : fin .f32 a = true) (hk : k < n) : Iv f n (s.tell f a k) (sv .f32 a) := by
  cases hK : s.K k
  · obtain ⟨l1, l2, l3, l4⟩ := lvl_of (hf k hk) ha
    rw [tell_no hK]
    refine ⟨fun j hj => ?_, fun j hj h1 h2 => ?_, fun j hj h1 => ?_, fun j hj h1 => ?_, fun j h1 => ?_⟩
    all_goals dsimp only at *
    all_goals by_cases e : j = k
    · rw [if_pos e]; exact l1
    · rw [if_neg e]; exact h.fl j hj
    · rw [if_pos e]; exact l2
    · rw [if_neg e] at h1; rw [if_neg e]; exact h.op j hj h1 h2
    · rw [if_pos e, e]; exact l4
    · rw [if_neg e] at h1; rw [if_neg e]; exact h.up j hj h1
    · rw [if_pos e] at h1; cases h1
    · rw [if_neg e] at h1; rw [if_neg e]; exact h.un j hj h1
    · rw [if_pos e]
    · rw [if_neg e]; exact h.kd j h1
  · rw [tell_yes hK]; exact h
/-- one who comes later reaches no less -/
theorem Iv.not {f : Nat → Nat} {n a k : Nat} {s : FS} (h : Iv f n s (sv .f32 a)) (hf : ∀ j, j < n → fin .f32 (f j) = true) (ha : fin .f32 a = true) (hk : k < n) (hK : s.K k = true) : fcmp .lss .f32 (lvl f a k) (s.L k) = false := by
  obtain ⟨l1, l2, l3, l4⟩ := lvl_of (hf k hk) ha
  rw [(fcmp_fin l1 (h.fl k hk)).1, decide_eq_false_iff_not]
  rcases h.up k hk hK with g | g <;> omega
theorem Iv.around {f : Nat → Nat} {n a : Nat} (l : List Int) (hl : ∀ k ∈ l, k.toNat < n) {s : FS} (h : Iv f n s (sv .f32 a)) (hf : ∀ j, j < n → fin .f32 (f j) = true) (ha : fin .f32 a = true) : Iv f n (s.around f a l) (sv .f32 a) := by
  induction l generalizing s with
  | nil => exact h
  | cons k l ih => exact ih (fun x hx => hl x (List.mem_cons_of_mem _ hx)) (h.tell hf ha (hl k List.mem_cons_self))
theorem best_in (s : FS) (n : Nat) : -1 ≤ s.best n ∧ s.best n < (n : Int) := bst_in n
theorem Iv.best {f : Nat → Nat} {n : Nat} {s : FS} {m : Int} (h : Iv f n s m) {i : Nat} (hi : s.best n = (i : Int)) : i < n ∧ s.K i = true ∧ s.D i = false ∧ Iv f n (s.settle i) (sv .f32 (s.L i)) := by
  have hin := best_in s n
  have h1 := (bst_of (o := s.op) h.fl n (Nat.le_refl _)).2 (by show 0 ≤ s.best n; omega)
  have e : (bst s.L s.op n).toNat = i := by have : bst s.L s.op n = (i : Int) := hi; rw [this, Int.toNat_natCast]
  rw [e] at h1
  obtain ⟨ho, hb⟩ := h1
  have hin' : i < n := by omega
  unfold FS.op at ho
  rw [Bool.and_eq_true, Bool.not_eq_true'] at ho
  refine ⟨hin', ho.1, ho.2, h.fl, fun j hj h1 h2 => ?_, fun j hj h1 => ?_, h.un, fun j h1 => ?_⟩
  · unfold FS.settle at h2
    dsimp only at h2
    by_cases e : j = i
    · rw [if_pos e] at h2; cases h2
    · rw [if_neg e] at h2
      refine hb j hj ?_
      unfold FS.op
      rw [Bool.and_eq_true, Bool.not_eq_true']
      exact ⟨h1, h2⟩
  · rcases h.up j hj h1 with g | g
    · exact .inl g
    · right
      have := h.op i hin' ho.1 ho.2
      show sv .f32 (s.L j) ≤ _
      omega
  · unfold FS.settle at h1 ⊢
    dsimp only at h1 ⊢
    by_cases e : j = i
    · rw [e]; exact ho.1
    · rw [if_neg e] at h1; exact h.kd j h1
theorem Iv.start {f : Nat → Nat} {W Hh n : Nat} (hf : ∀ j, j < n → fin .f32 (f j) = true) : ∃ m, Iv f n (fsAt f W Hh n 0) m := by
  obtain ⟨m, hm⟩ : ∃ m : Int, ∀ j, j < n → m ≤ sv .f32 (f j) := by
    clear hf
    induction n with
    | zero => exact ⟨0, fun j hj => absurd hj (Nat.not_lt_zero j)⟩
    | succ n ih =>
      obtain ⟨m, hm⟩ := ih
      by_cases h : m ≤ sv .f32 (f n)
      · refine ⟨m, fun j hj => ?_⟩
        by_cases e : j = n
        · rw [e]; exact h
        · exact hm j (by omega)
      · refine ⟨sv .f32 (f n), fun j hj => ?_⟩
        by_cases e : j = n
        · rw [e]; exact Int.le_refl _
        · have := hm j (by omega); omega
  exact ⟨m, hf, fun j hj _ _ => hm j hj, fun j hj _ => .inl (Int.le_refl _), fun _ _ _ => rfl, fun j h => by cases h⟩
/-! ## Which neighbours there are -/
theorem nbX_in {W Hh : Nat} {i qx y : Int} {c : Nat} (h : nbIn W Hh i (qx - 1 + (c : Int)) y = true) : ∀ {m}, c < m → y * (W : Int) + (qx - 1 + (c : Int)) ∈ nbX W Hh i qx y m := by
  intro m
  induction m with
  | zero => intro h; cases h
  | succ m ih =>
    intro hc
    show _ ∈ nbX W Hh i qx y m ++ _
    by_cases e : c = m
    · subst e
      rw [if_pos h]
      exact List.mem_append_right _ List.mem_cons_self
    · exact List.mem_append_left _ (ih (by omega))
theorem nbY_in {W Hh : Nat} {i qx qy v : Int} {r : Nat} (h : v ∈ nbX W Hh i qx (qy - 1 + (r : Int)) 3) : ∀ {m}, r < m → v ∈ nbY W Hh i qx qy m := by
  intro m
  induction m with
  | zero => intro h; cases h
  | succ m ih =>
    intro hc
    show _ ∈ nbY W Hh i qx qy m ++ _
    by_cases e : r = m
    · subst e; exact List.mem_append_right _ h
    · exact List.mem_append_left _ (ih (by omega))
/-- the place on the right is a neighbour -/
theorem nbs_right {W Hh i n : Nat} (hn : n = W * Hh) (hi : i + 1 < n) (hx : i % W + 1 < W) : ((i + 1 : Nat) : Int) ∈ nbs W Hh i := by
  have hy : i / W < Hh := Nat.div_lt_of_lt_mul (by omega)
  have e := Nat.div_add_mod i W
  rw [Nat.mul_comm] at e
  have e2 : ((i / W : Nat) : Int) * (W : Int) + ((i % W : Nat) : Int) = (i : Int) := by rw [← Int.natCast_mul, ← Int.natCast_add, e]
  unfold nbs
  clear e
  generalize i % W = qx at *
  generalize i / W = qy at *
  have e3 : ((qy : Int) - 1 + ((1 : Nat) : Int)) = (qy : Int) := by omega
  refine nbY_in (r := 1) ?_ (by omega)
  have hb : nbIn W Hh (i : Int) ((qx : Int) - 1 + ((2 : Nat) : Int)) ((qy : Int) - 1 + ((1 : Nat) : Int)) = true := by
    unfold nbIn
    rw [decide_eq_true_iff, e3]
    refine ⟨by omega, by omega, by omega, by omega, by omega⟩
  have := nbX_in hb (m := 3) (by omega)
  rw [e3] at this ⊢
  have e4 : (qy : Int) * (W : Int) + ((qx : Int) - 1 + ((2 : Nat) : Int)) = ((i + 1 : Nat) : Int) := by omega
  rw [e4] at this
  exact this
theorem nbX_one {W Hh : Nat} {i qx y : Int} {c : Nat} : (nbX W Hh i qx y (c + 1)).length = (nbX W Hh i qx y c).length + (nbIn W Hh i (qx - 1 + (c : Int)) y).toNat := by
  cases h : nbIn W Hh i (qx - 1 + (c : Int)) y
  · rw [nbX_no h]; rfl
  · rw [nbX_yes h]; simp
theorem nbX_3 {W Hh : Nat} {i qx y : Int} : (nbX W Hh i qx y 3).length = (nbIn W Hh i (qx - 1 + ((0 : Nat) : Int)) y).toNat + (nbIn W Hh i (qx - 1 + ((1 : Nat) : Int)) y).toNat + (nbIn W Hh i (qx - 1 + ((2 : Nat) : Int)) y).toNat := by
  rw [nbX_one, nbX_one, nbX_one]
  show 0 + _ + _ + _ = _
  omega
theorem nbY_3 {W Hh : Nat} {i qx qy : Int} : (nbY W Hh i qx qy 3).length = (nbX W Hh i qx (qy - 1 + ((0 : Nat) : Int)) 3).length + (nbX W Hh i qx (qy - 1 + ((1 : Nat) : Int)) 3).length + (nbX W Hh i qx (qy - 1 + ((2 : Nat) : Int)) 3).length := by
  show (((([] ++ _) ++ _) ++ _ : List Int)).length = _
  simp only [List.length_append, List.length_nil]
  omega
theorem toN1 (b : Bool) : b.toNat ≤ 1 := by cases b <;> decide
/-- a place at the edge has less than eight neighbours -/
theorem nbs_edge {W Hh i n : Nat} (hn : n = W * Hh) (hw : 2 ≤ W) (hi : i < n) : decide (((nbs W Hh i).length : Int) < 8) = edgeB W Hh i := by
  have hy : i / W < Hh := Nat.div_lt_of_lt_mul (by omega)
  have hx : i % W < W := Nat.mod_lt _ (by omega)
  have e := Nat.div_add_mod i W
  rw [Nat.mul_comm] at e
  have e2 : ((i / W : Nat) : Int) * (W : Int) + ((i % W : Nat) : Int) = (i : Int) := by rw [← Int.natCast_mul]; omega
  unfold nbs edgeB
  rw [nbY_3, nbX_3, nbX_3, nbX_3]
  generalize hqx : i % W = qx at *
  generalize hqy : i / W = qy at *
  have t := fun (c r : Nat) => toN1 (nbIn W Hh (i : Int) ((qx : Int) - 1 + (c : Int)) ((qy : Int) - 1 + (r : Int)))
  have t00 := t 0 0
  have t10 := t 1 0
  have t20 := t 2 0
  have t01 := t 0 1
  have t11 := t 1 1
  have t21 := t 2 1
  have t02 := t 0 2
  have t12 := t 1 2
  have t22 := t 2 2
  have hmid : (nbIn W Hh (i : Int) ((qx : Int) - 1 + ((1 : Nat) : Int)) ((qy : Int) - 1 + ((1 : Nat) : Int))).toNat = 0 := by
    have : nbIn W Hh (i : Int) ((qx : Int) - 1 + ((1 : Nat) : Int)) ((qy : Int) - 1 + ((1 : Nat) : Int)) = false := by
      unfold nbIn
      rw [decide_eq_false_iff_not]
      have e3 : ((qy : Int) - 1 + ((1 : Nat) : Int)) = (qy : Int) := by omega
      rw [e3]
      omega
    rw [this]; rfl
  by_cases he : qx = 0 ∨ qy = 0 ∨ qx + 1 = W ∨ qy + 1 = Hh
  · rw [decide_eq_true he, decide_eq_true_iff]
    have hz : ∀ (c r : Nat), ((qx : Int) - 1 + (c : Int) < 0 ∨ (W : Int) - 1 < (qx : Int) - 1 + (c : Int) ∨ (qy : Int) - 1 + (r : Int) < 0 ∨ (Hh : Int) - 1 < (qy : Int) - 1 + (r : Int)) → (nbIn W Hh (i : Int) ((qx : Int) - 1 + (c : Int)) ((qy : Int) - 1 + (r : Int))).toNat = 0 := by
      intro c r h
      have : nbIn W Hh (i : Int) ((qx : Int) - 1 + (c : Int)) ((qy : Int) - 1 + (r : Int)) = false := by
        unfold nbIn
        rw [decide_eq_false_iff_not]
        omega
      rw [this]; rfl
    rcases he with h | h | h | h
    · have z0 := hz 0 0 (by omega)
      have z1 := hz 0 1 (by omega)
      have z2 := hz 0 2 (by omega)
      omega
    · have z0 := hz 0 0 (by omega)
      have z1 := hz 1 0 (by omega)
      have z2 := hz 2 0 (by omega)
      omega
    · have z0 := hz 2 0 (by omega)
      have z1 := hz 2 1 (by omega)
      have z2 := hz 2 2 (by omega)
      omega
    · have z0 := hz 0 2 (by omega)
      have z1 := hz 1 2 (by omega)
      have z2 := hz 2 2 (by omega)
      omega
  · rw [decide_eq_false he, decide_eq_false_iff_not]
    have hz : ∀ (c r : Nat), c < 3 → r < 3 → (c ≠ 1 ∨ r ≠ 1) → (nbIn W Hh (i : Int) ((qx : Int) - 1 + (c : Int)) ((qy : Int) - 1 + (r : Int))).toNat = 1 := by
      intro c r h1 h2 h3
      have : nbIn W Hh (i : Int) ((qx : Int) - 1 + (c : Int)) ((qy : Int) - 1 + (r : Int)) = true := by
        unfold nbIn
        rw [decide_eq_true_iff]
        refine ⟨by omega, by omega, by omega, by omega, ?_⟩
        rw [← e2, Int.add_mul, Int.sub_mul, Int.one_mul]
        have hr : r = 0 ∨ r = 1 ∨ r = 2 := by omega
        rcases hr with rfl | rfl | rfl
        · simp only [Int.natCast_zero, Int.zero_mul]; omega
        · simp only [Int.natCast_one, Int.one_mul]; omega
        · rw [show ((2 : Nat) : Int) * (W : Int) = 2 * (W : Int) from rfl]; omega
      rw [this]; rfl
    have z0 := hz 0 0 (by omega) (by omega) (by omega)
    have z1 := hz 1 0 (by omega) (by omega) (by omega)
    have z2 := hz 2 0 (by omega) (by omega) (by omega)
    have z3 := hz 0 1 (by omega) (by omega) (by omega)
    have z4 := hz 2 1 (by omega) (by omega) (by omega)
    have z5 := hz 0 2 (by omega) (by omega) (by omega)
    have z6 := hz 1 2 (by omega) (by omega) (by omega)
    have z7 := hz 2 2 (by omega) (by omega) (by omega)
    omega
/-! ## The whole search -/
def cntD (D : Nat → Bool) (n : Nat) : Nat := (List.range n).countP D
theorem cntD_le (D : Nat → Bool) (n : Nat) : cntD D n ≤ n := by
  have := List.countP_le_length (p := D) (l := List.range n)
  rw [List.length_range] at this
  exact this
theorem cntD_set {D : Nat → Bool} {i : Nat} : ∀ {n}, i < n → D i = false → cntD (fun j => if j = i then true else D j) n = cntD D n + 1 := by
  intro n
  induction n with
  | zero => intro h; cases h
  | succ n ih =>
    intro hi hd
    unfold cntD at *
    rw [List.range_succ, List.countP_append, List.countP_append]
    by_cases e : i = n
    · subst e
      have h1 : (List.range i).countP (fun j => if j = i then true else D j) = (List.range i).countP D := by
        refine List.countP_congr (fun x hx => ?_)
        have := List.mem_range.1 hx
        rw [if_neg (by omega)]
      rw [h1, List.countP_singleton, List.countP_singleton, if_pos (by rw [if_pos rfl]), if_neg (by rw [hd]; decide)]
    · have := ih (by omega) hd
      rw [this, List.countP_singleton, List.countP_singleton]
      rw [if_neg (show ¬ n = i by omega)]
      omega
/-- what stands of the search at its head -/
structure Hd (f : Nat → Nat) (W Hh n t : Nat) : Prop where
  iv : ∃ m, Iv f n (fsAt f W Hh n t) m
  ct : cntD (fsAt f W Hh n t).D n = t
  cl : ∀ j, j < n → (fsAt f W Hh n t).D j = true → ∀ k ∈ nbs W Hh j, (fsAt f W Hh n t).K k.toNat = true
  ed : ∀ j, edgeB W Hh j = true → (fsAt f W Hh n t).K j = true
theorem Hd.le {f : Nat → Nat} {W Hh n t : Nat} (h : Hd f W Hh n t) : t ≤ n := by rw [← h.ct]; exact cntD_le _ _
theorem Hd.zero {f : Nat → Nat} {W Hh n : Nat} (hf : ∀ j, j < n → fin .f32 (f j) = true) : Hd f W Hh n 0 :=
  ⟨Iv.start hf, by unfold cntD; exact List.countP_eq_zero.2 (fun _ _ => by show ¬ (false = true); decide), fun _ _ h => (by cases h), fun j h => h⟩
theorem next_at {f : Nat → Nat} {W Hh n t i : Nat} (hi : (fsAt f W Hh n t).best n = (i : Int)) : fsAt f W Hh n (t + 1) = ((fsAt f W Hh n t).settle i).around f ((fsAt f W Hh n t).L i) (nbs W Hh i) := by
  show FS.next _ f W Hh n = _
  unfold FS.next
  rw [hi, if_neg (by omega), Int.toNat_natCast]
theorem next_end {f : Nat → Nat} {W Hh n t : Nat} (hi : (fsAt f W Hh n t).best n < 0) : ∀ u, fsAt f W Hh n (t + u) = fsAt f W Hh n t := by
  intro u
  induction u with
  | zero => rfl
  | succ u ih =>
    show FS.next (fsAt f W Hh n (t + u)) f W Hh n = _
    rw [ih]
    unfold FS.next
    rw [if_pos hi]
theorem Hd.next {f : Nat → Nat} {W Hh n t i : Nat} (hn : n = W * Hh) (h0 : 0 < W) (hf : ∀ j, j < n → fin .f32 (f j) = true) (h : Hd f W Hh n t) (hi : (fsAt f W Hh n t).best n = (i : Int)) : Hd f W Hh n (t + 1) ∧ t < n := by
  obtain ⟨m, iv⟩ := h.iv
  obtain ⟨h1, h2, h3, h4⟩ := iv.best hi
  have ha := iv.fl i h1
  have hl : ∀ k ∈ nbs W Hh i, k.toNat < n := by
    intro k hk
    obtain ⟨j, rfl, hj, _⟩ := nbs_mem hn h0 hk
    rw [Int.toNat_natCast]; exact hj
  have hE := next_at hi
  have hct : cntD (fsAt f W Hh n (t + 1)).D n = t + 1 := by
    rw [hE, around_D]
    show cntD (fun j => if j = i then true else (fsAt f W Hh n t).D j) n = _
    rw [cntD_set h1 h3, h.ct]
  refine ⟨⟨⟨_, by rw [hE]; exact h4.around _ hl hf ha⟩, hct, ?_, ?_⟩, by have := cntD_le (fsAt f W Hh n (t + 1)).D n; omega⟩
  · intro j hj hd k hk
    rw [hE] at hd ⊢
    rw [around_D] at hd
    by_cases e : j = i
    · subst e; exact around_in _ _ hk
    · refine (around_K _ ?_).1
      show (fsAt f W Hh n t).K k.toNat = true
      refine h.cl j hj ?_ k hk
      unfold FS.settle at hd
      dsimp only at hd
      rw [if_neg e] at hd
      exact hd
  · intro j hj
    rw [hE]
    exact (around_K (s := (fsAt f W Hh n t).settle i) _ (h.ed j hj)).1
/-- at the end all levels are known -/
theorem Hd.all {f : Nat → Nat} {W Hh n t : Nat} (hn : n = W * Hh) (h0 : 0 < W) (h : Hd f W Hh n t) (hi : (fsAt f W Hh n t).best n < 0) : ∀ j, j < n → (fsAt f W Hh n t).K j = true := by
  obtain ⟨m, iv⟩ := h.iv
  have ho := (bst_of (o := (fsAt f W Hh n t).op) iv.fl n (Nat.le_refl _)).1 hi
  have key : ∀ c, ∀ j, j < n → j % W = c → (fsAt f W Hh n t).K j = true := by
    intro c
    induction c with
    | zero => intro j hj e; exact h.ed j (by unfold edgeB; rw [decide_eq_true_iff]; exact .inl e)
    | succ c ih =>
      intro j hj e
      obtain ⟨p, rfl⟩ : ∃ p, j = p + 1 := ⟨j - 1, by have := Nat.mod_le j W; omega⟩
      have hx : (p + 1) % W < W := Nat.mod_lt _ h0
      have e1 := Nat.div_add_mod (p + 1) W
      have e2 : p = W * ((p + 1) / W) + c := by omega
      have e3 : p % W = c := by rw [e2, Nat.mul_add_mod, Nat.mod_eq_of_lt (by omega)]
      have hK := ih p (by omega) e3
      have hD : (fsAt f W Hh n t).D p = true := by
        have := ho p (by omega)
        unfold FS.op at this
        rw [hK] at this
        simpa using this
      have := h.cl p (by omega) hD _ (nbs_right hn hj (by omega))
      rwa [Int.toNat_natCast] at this
  exact fun j hj => key _ j hj rfl
/-! ## All levels are words -/
theorem tell_fl {s : FS} {f : Nat → Nat} {a k : Nat} (hf : ∀ j, Fl .f32 (f j) (f j)) (ha : Fl .f32 a a) (h : ∀ j, Fl .f32 (s.L j) (s.L j)) : ∀ j, Fl .f32 ((s.tell f a k).L j) ((s.tell f a k).L j) := by
  cases hK : s.K k
  · rw [tell_no hK]
    intro j
    dsimp only
    by_cases e : j = k
    · rw [if_pos e]
      unfold lvl
      cases fcmp .gtr .f32 a (f k)
      · exact hf k
      · exact ha
    · rw [if_neg e]; exact h j
  · rw [tell_yes hK]; exact h
theorem around_fl {f : Nat → Nat} {a : Nat} (hf : ∀ j, Fl .f32 (f j) (f j)) (ha : Fl .f32 a a) (l : List Int) {s : FS} (h : ∀ j, Fl .f32 (s.L j) (s.L j)) : ∀ j, Fl .f32 ((s.around f a l).L j) ((s.around f a l).L j) := by
  induction l generalizing s with
  | nil => exact h
  | cons k l ih => exact ih (tell_fl hf ha h)
theorem at_fl {f : Nat → Nat} {W Hh n : Nat} (hf : ∀ j, Fl .f32 (f j) (f j)) : ∀ t j, Fl .f32 ((fsAt f W Hh n t).L j) ((fsAt f W Hh n t).L j) := by
  intro t
  induction t with
  | zero => exact hf
  | succ t ih =>
    rw [show fsAt f W Hh n (t + 1) = FS.next (fsAt f W Hh n t) f W Hh n from rfl]
    unfold FS.next
    by_cases h : (fsAt f W Hh n t).best n < 0
    · rw [if_pos h]; exact ih
    · rw [if_neg h]
      exact around_fl hf (ih _) _ (s := FS.settle _ _) ih
/-- the filled heights -/
def flL (f : Nat → Nat) (W Hh n : Nat) : Nat → Nat := (fsAt f W Hh n n).L
theorem Hd.done {f : Nat → Nat} {W Hh n t : Nat} (h : Hd f W Hh n t) (hi : (fsAt f W Hh n t).best n < 0) : (fsAt f W Hh n t).L = flL f W Hh n := by
  have hl := h.le
  have := next_end hi (n - t)
  rw [show t + (n - t) = n by omega] at this
  unfold flL
  rw [this]
/-- how many of the first m places are higher -/
def hiC (f L : Nat → Nat) (m : Nat) : Nat := (List.range m).countP (fun j => fcmp .gtr .f32 (L j) (f j))
theorem hiC_succ {f L : Nat → Nat} {m : Nat} : hiC f L (m + 1) = hiC f L m + (fcmp .gtr .f32 (L m) (f m)).toNat := by
  unfold hiC
  rw [List.range_succ, List.countP_append, List.countP_singleton]
  cases fcmp .gtr .f32 (L m) (f m) <;> rfl
theorem hiC_le {f L : Nat → Nat} {m : Nat} : hiC f L m ≤ m := by
  have := List.countP_le_length (p := fun j => fcmp .gtr .f32 (L j) (f j)) (l := List.range m)
  rw [List.length_range] at this
  exact this
end Go.Proofs.Ytcgmffpddahgoab
