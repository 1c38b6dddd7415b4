/-
The program's search for routes: what its heap of stops tells. No memory.
-/
import Derived.Test.YteclmjknmdlopaaTak
namespace Go.Proofs.Yteclmjknmdlopaa
def toI (x : Int × Nat) : Int × Int := (x.1, (x.2 : Int))
theorem perm_map_cons {a : Int × Int} {L : List (Int × Int)} {H : List (Int × Nat)} (h : (a :: L).Perm (H.map toI)) : ∃ x H', a = toI x ∧ H.Perm (x :: H') ∧ L.Perm (H'.map toI) := by
  have ha : a ∈ H.map toI := h.mem_iff.1 (by simp)
  obtain ⟨x, hx, rfl⟩ := List.mem_map.1 ha
  have hp := List.perm_cons_erase hx
  refine ⟨x, H.erase x, rfl, hp, ?_⟩
  have h2 : (toI x :: L).Perm (toI x :: (H.erase x).map toI) := h.trans (hp.map toI)
  exact h2.cons_inv
/-- What the outer loop keeps. -/
structure Srch (W : Web) (s N : Nat) (G : Nat → Int × Int) (f : Nat → Int) (t : Int) (c : Nat) : Prop where
  heap : Heap bef N G
  ex : ∃ H, (lst N G).Perm (H.map toI) ∧ W.Dij s f H t c W.m
  len : N ≤ 1 + 64 * cnt W.n f
/-- What the inner loop keeps. -/
structure Inn (W : Web) (s N : Nat) (G : Nat → Int × Int) (f : Nat → Int) (t : Int) (c k : Nat) : Prop where
  heap : Heap bef N G
  ex : ∃ H, (lst N G).Perm (H.map toI) ∧ W.Dij s f H t c k
  len : N + 64 ≤ 1 + 64 * cnt W.n f + k
  st : f s = 0
  at' : f c = t
  pos : 0 ≤ t
  lt : c < W.n
  big : t ≤ 65000000
theorem Srch.first {W : Web} {s : Nat} {G : Nat → Int × Int} (hs : s < W.n) (hh : Heap bef 1 G) (hp : (lst 1 G).Perm [((0 : Int), (s : Int))]) : Srch W s 1 G (fun _ => -1) 0 0 :=
  ⟨hh, ⟨[(0, s)], hp, Web.Dij.first hs 0 W.m⟩, by omega⟩
theorem Srch.cnt0 {W : Web} {s N : Nat} {G : Nat → Int × Int} {f : Nat → Int} {t : Int} {c : Nat} (h : Srch W s N G f t c) : N ≤ 1 + 64 * W.n := by
  have := h.len
  have := cnt_le (n := W.n) f
  omega
theorem Srch.longs {W : Web} {s : Nat} {G : Nat → Int × Int} {f : Nat → Int} {t : Int} {c : Nat} (h : Srch W s 0 G f t c) : W.Longs s f := by
  obtain ⟨H, hp, hd⟩ := h.ex
  have h0 : H = [] := by
    have : (H.map toI) = [] := List.Perm.eq_nil (l := H.map toI) (by simpa [lst] using hp.symm)
    simpa using this
  subst h0
  exact hd.longs
theorem bef_min {x y : Int × Int} (h : ¬ bef y x) : x.1 ≤ y.1 := by unfold bef at h; omega
theorem Srch.take {W : Web} (ho : W.ok) {s N : Nat} {G G' : Nat → Int × Int} {f : Nat → Int} {t : Int} {c : Nat} (h : Srch W s (N + 1) G f t c) (hp : (G 0 :: lst N G').Perm (lst (N + 1) G)) (hh : Heap bef N G') :
    ∃ (q : Nat) (t' : Int), G 0 = (t', (q : Int)) ∧ q < W.n ∧ 0 ≤ t' ∧ t' ≤ 65000000 ∧ (0 ≤ f q → Srch W s N G' f t' c) ∧ (f q < 0 → Inn W s N G' (upd f q t') t' q 0 ∧ cnt W.n (upd f q t') = cnt W.n f + 1) := by
  obtain ⟨H, h1, hd⟩ := h.ex
  obtain ⟨⟨t', q⟩, H', e, h2, h3⟩ := perm_map_cons (hp.trans h1)
  have hd2 := hd.perm h2
  have hmin : ∀ y, y ∈ H' → t' ≤ y.1 := by
    intro y hy
    have a1 : toI y ∈ lst N G' := h3.mem_iff.2 (List.mem_map.2 ⟨y, hy, rfl⟩)
    have a2 : toI y ∈ lst (N + 1) G := hp.mem_iff.1 (by simp [a1])
    obtain ⟨j, hj, hj2⟩ := lst_mem.1 a2
    have := bef_min (h.heap.min bef_ordr j hj)
    rw [hj2, e] at this
    exact this
  obtain ⟨i1, i2, i3⟩ := hd2.inn (t', q) (by simp)
  have hb := hd2.bound ho (x := (t', q)) (by simp)
  have hn := ho.n64
  have hc := cnt_le (n := W.n) f
  have hl := h.len
  refine ⟨q, t', e, i2, i3, by simp only at hb; omega, fun hq => ?_, fun hq => ?_⟩
  · exact ⟨hh, ⟨H', h3, hd2.skip hmin hq⟩, by omega⟩
  · obtain ⟨hd3, hcn⟩ := hd2.settle ho hmin hq
    have hcn2 : cnt W.n (upd f q t') = cnt W.n f + 1 := hcn
    have hd3 : W.Dij s (upd f q t') H' t' q 0 := hd3
    clear hcn
    refine ⟨⟨hh, ⟨H', h3, hd3⟩, by omega, ?_, upd_at _ _ _, i3, i2, by simp only at hb; omega⟩, hcn2⟩
    rcases hd3.start with e0 | ⟨_, g⟩
    · exact e0
    · have := g q i2
      rw [upd_at] at this
      omega
theorem Inn.pass {W : Web} {s N : Nat} {G : Nat → Int × Int} {f : Nat → Int} {t : Int} {c k : Nat} (h : Inn W s N G f t c k) (ha : W.A k ≠ c) (hb : W.B k ≠ c) : Inn W s N G f t c (k + 1) := by
  obtain ⟨H, h1, hd⟩ := h.ex
  exact ⟨h.heap, ⟨H, h1, hd.pass ha hb⟩, by have := h.len; omega, h.st, h.at', h.pos, h.lt, h.big⟩
theorem Inn.add {W : Web} (ho : W.ok) {s N : Nat} {G G' : Nat → Int × Int} {f : Nat → Int} {t : Int} {c k : Nat} (h : Inn W s N G f t c k) (hk : k < W.m) {q : Nat} (hq : (W.A k = c ∧ W.B k = q) ∨ (W.A k = q ∧ W.B k = c)) (hh : Heap bef (N + 1) G') (hp : (lst (N + 1) G').Perm ((t + W.lg k, (q : Int)) :: lst N G)) : Inn W s (N + 1) G' f t c (k + 1) := by
  obtain ⟨H, h1, hd⟩ := h.ex
  refine ⟨hh, ⟨(f c + W.lg k, q) :: H, ?_, hd.add ho hk h.st h.at' h.pos hq⟩, by have := h.len; omega, h.st, h.at', h.pos, h.lt, h.big⟩
  refine hp.trans ?_
  rw [List.map_cons]
  have e : toI (f c + W.lg k, q) = (t + W.lg k, (q : Int)) := by unfold toI; rw [h.at']
  rw [e]
  exact h1.cons _
theorem Inn.done {W : Web} (hm : W.m ≤ 64) {s N : Nat} {G : Nat → Int × Int} {f : Nat → Int} {t : Int} {c : Nat} (h : Inn W s N G f t c W.m) : Srch W s N G f t c :=
  ⟨h.heap, h.ex, by have := h.len; omega⟩
theorem cnt_congr {n : Nat} {f g : Nat → Int} (h : ∀ j, j < n → f j = g j) : cnt n f = cnt n g := sumWb_congr fun j hj => by rw [h j hj]
end Go.Proofs.Yteclmjknmdlopaa
