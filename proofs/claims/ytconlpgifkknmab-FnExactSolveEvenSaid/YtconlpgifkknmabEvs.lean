/-
  SolveEven, of the model: the numbers that it returns. No premise beyond those named.
-/
import Derived.Test.YtconlpgifkknmabEvn
import Derived.Test.YtconlpgifkknmabRow
import Derived.IntWalk
namespace Go.Proofs.Ytconlpgifkknmab
open Go Go.RowKit
set_option maxRecDepth 100000

theorem fopA (P : Program) {op : BinOp} (ha : arithOp op = true) (t : TypeId) {cx cy x y : Nat} (hx : Fl .f32 cx x) (hy : Fl .f32 cy y) :
    ∃ R N : World → Nat, (∀ w, (binOp op t (.float .f32 x) (.float .f32 y)).run P w = .ok (.float .f32 (R w)) (w.drewN (N w))) ∧ ∀ w, Fl .f32 (fop op .f32 cx cy) (R w) := by
  have h : ∀ w : World, ∃ rn : Nat × Nat, (binOp op t (.float .f32 x) (.float .f32 y)).run P w = .ok (.float .f32 rn.1) (w.drewN rn.2) ∧ Fl .f32 (fop op .f32 cx cy) rn.1 := by
    intro w
    obtain ⟨r, n, h1, h2⟩ := fop_run (P := P) w ha t hx hy
    exact ⟨(r, n), h1, h2⟩
  exact ⟨fun w => (Classical.choose (h w)).1, fun w => (Classical.choose (h w)).2, fun w => (Classical.choose_spec (h w)).1, fun w => (Classical.choose_spec (h w)).2⟩
theorem fopA2 (P : Program) {op : BinOp} (ha : arithOp op = true) (t : TypeId) {cx cy x : Nat} {Y : World → Nat} (hx : Fl .f32 cx x) (hy : ∀ w, Fl .f32 cy (Y w)) :
    ∃ R N : World → World → Nat, (∀ w1 w, (binOp op t (.float .f32 x) (.float .f32 (Y w1))).run P w = .ok (.float .f32 (R w1 w)) (w.drewN (N w1 w))) ∧ ∀ w1 w, Fl .f32 (fop op .f32 cx cy) (R w1 w) := by
  have h := fun w1 => fopA P ha t hx (hy w1)
  exact ⟨fun w1 => Classical.choose (h w1), fun w1 => Classical.choose (Classical.choose_spec (h w1)), fun w1 => (Classical.choose_spec (Classical.choose_spec (h w1))).1, fun w1 => (Classical.choose_spec (Classical.choose_spec (h w1))).2⟩
def sqF (xs : List Nat) (n a c : Nat) : Nat := nrm .f32 (xs.getD (a * n + c) 0)
theorem mades {N : Nat} : (madeCells (Value.float .f32 0).cells (N * 1)).toList = fls (List.replicate N 0) := by
  apply List.ext_getElem
  · simp [madeCells, fls]
  · intro i h1 h2
    simp [madeCells, fls, Value.cells, Nat.mod_one]
/-- m floats that are told, from a place on -/
def Told (w : World) (g : Nat) (m : Nat) (f : Nat → Nat) : Prop := ∀ j, j < m → ∃ r, w.cell? ⟨g, j, none⟩ = some (.float .f32 r) ∧ Fl .f32 (f j) r
theorem Told.below {w w' : World} {g m : Nat} {f : Nat → Nat} (h : Told w g m f) (b : Below w.heap.size w w') : Told w' g m f := fun j hj => by
  obtain ⟨r, hc, hf⟩ := h j hj
  exact ⟨r, Below.keep b hc, hf⟩
theorem Told.drew {w : World} {g m : Nat} {f : Nat → Nat} (h : Told w g m f) (q : Nat) : Told (w.drewN q) g m f := h
theorem Own.told {w : World} {base : Nat} {T : TypeId} {g cap m : Nat} {f : Nat → Nat} (h : Own w base T g cap m f) : Told w g m f := fun _ hj => h.cell hj
theorem Told.of {w : World} {g : Nat} {xs : List Nat} (h : FRow w (some ⟨g, 0, none⟩) xs) (hw : Wf xs) : Told w g xs.length (fun j => nrm .f32 (xs.getD j 0)) := fun _ hj => h.told hw hj
def finB (m : Nat) (f : Nat → Nat) : Bool := decide (∀ j, j < m → fin .f32 (f j) = true)
theorem finB_no {m j : Nat} {f : Nat → Nat} (hj : j < m) (h : fin .f32 (f j) = false) : finB m f = false := by
  unfold finB
  rw [decide_eq_false_iff_not]
  intro k
  rw [k j hj] at h
  cases h
theorem finB_yes {m : Nat} {f : Nat → Nat} (h : ∀ j, j < m → fin .f32 (f j) = true) : finB m f = true := by unfold finB; rw [decide_eq_true_iff]; exact h
theorem l02Fin_any {g m k : Nat} {f : Nat → Nat} (w : World) (h : Told w g m f) (hl : m ≤ 1048576) : Calls Try.prog 54 #[.slice (some ⟨g, 0, none⟩) m k] w (RB (finB m f) w) := by
  have H := Hf.mk h
  clear h
  go_enter Try.func54, Try.ntmps54
  go_wp2
  go_loopw [3] (fun i wr => ∃ d : Nat, d ≤ m ∧ i = .int .i64 d ∧ Hf (∀ j, j < d → fin .f32 (f j) = true) ∧ Drew w wr) (fun i _ => m - (intOf i).toNat)
  case atStart => exact ⟨0, by omega, rfl, ⟨fun j hj => absurd hj (Nat.not_lt_zero j)⟩, (by repeat (first | exact Drew.refl _ | refine Drew.more ?_))⟩
  case round =>
    obtain ⟨d, hd, rfl, ha, q, rfl⟩ := hrel
    by_cases hlt : d < m
    · obtain ⟨r, hc, hf⟩ := H.out d hlt
      cases hv : fin .f32 (f d)
      · have KR := Hf.mk (finB_no hlt hv)
        have HV := Hf.mk hv
        clear hv
        go_wp2_with (first | (go_at_call 50; refine (l01Finite_any hf _).mono ?_; rw [HV.out]; rintro e w' ⟨rfl, n1, rfl⟩))
        go_ret
        rw [KR.out]
        exact RB.any rfl (by repeat (first | exact Drew.refl _ | refine Drew.more ?_))
      · have KS := Hf.mk (show ∀ j, j < d + 1 → fin .f32 (f j) = true from fun j hj => by
          by_cases he : j = d
          · rw [he]; exact hv
          · exact ha.out j (by omega))
        have HV := Hf.mk hv
        clear hv
        go_wp2_with (first | (go_at_call 50; refine (l01Finite_any hf _).mono ?_; rw [HV.out]; rintro e w' ⟨rfl, n1, rfl⟩))
        go_roundw
        case rel => exact ⟨d + 1, by omega, i_ext2 (by omega), KS, (by repeat (first | exact Drew.refl _ | refine Drew.more ?_))⟩
        case measure => simp [intOf]; omega
    · obtain rfl : d = m := by omega
      have KR := Hf.mk (finB_yes ha.out)
      go_wp2
      go_ret
      rw [KR.out]
      exact RB.any rfl (by repeat (first | exact Drew.refl _ | refine Drew.more ?_))
theorem Own.gb {w w' : World} {base : Nat} {T : TypeId} {g cap m : Nat} {f : Nat → Nat} {row : Option Nat} (h : Own w base T g cap m f) (hg : w.grownBy w' row) (hne : some g ≠ row) : Own w' base T g cap m f := by
  obtain ⟨ys, ho, hf⟩ := h
  exact ⟨ys, ho.kept hg (.inr (by simp only [Value.ownBlock]; exact hne)), hf⟩
theorem l01Rt_any {c x : Nat} (hx : Fl .f32 c x) (w : World) : Calls Try.prog 68 #[.float .f32 x] w (RF .f32 (rootC c) w) := by
  have hf := root_fits hx.self.lt32
  go_enter Try.func68, Try.ntmps68
  go_wp2_with (first | (refine wpList_fcv rfl rfl rfl (by kernel_rfl) Try.underlying46 (by decide) (by first | (with_reducible assumption) | (with_reducible exact Fl.ofInt _ _) | exact Fl.not (by decide +kernel) (by decide +kernel)) (fits_wide _) ?_; intro r n hr; simp only [Act.put, List.setIfInBounds_toArray, List.set_cons_succ, List.set_cons_zero]) | (go_at_call 72; refine (sqrt_any (by assumption) _).mono ?_; rintro e w' ⟨r, n, rfl, hr, rfl⟩) | (go_at_call 71; refine (l01Narrow_any hr hf _).mono ?_; rintro e w' ⟨r, n, rfl, hr, rfl⟩))
  go_ret
  exact RF.any hr (by repeat (first | exact Drew.refl _ | refine Drew.more ?_))
theorem own_dra {w : World} {base : Nat} {e : TypeId} {size : Nat} {v : Value} {n : Nat} {xs : List Value} (h : w.ownsRow base e size v n xs) (q : Nat) (o : Obj) : ((w.drewN q).alloc o).ownsRow base e size v n xs :=
  h.kept (row := none) (w' := (w.drewN q).alloc o) ⟨rfl, rfl, rfl, by simp, fun k hk _ => Below.heap_alloc _ _ _ (by simpa using hk)⟩ (by cases v.ownBlock; exact .inl rfl; exact .inr (by simp))
theorem Own.dra {w : World} {base : Nat} {T : TypeId} {g cap m : Nat} {f : Nat → Nat} (h : Own w base T g cap m f) (q : Nat) (o : Obj) : Own ((w.drewN q).alloc o) base T g cap m f := by
  obtain ⟨ys, ho, hf⟩ := h
  exact ⟨ys, own_dra ho q o, hf⟩
theorem Own.other {w : World} {base : Nat} {T : TypeId} {g cap m : Nat} {f : Nat → Nat} (h : Own w base T g cap m f) {a : Addr} (ha : g ≠ a.block) (u : Value) : Own (w.setCell a u) base T g cap m f :=
  h.gb (row := some a.block) ⟨rfl, rfl, rfl, by simp, fun k _ hk => Below.heap_setCell _ _ _ _ (fun e => hk (by rw [e]))⟩ (fun e => ha (by injection e))
theorem Own.mono {w : World} {base base' : Nat} {T : TypeId} {g cap m : Nat} {f f' : Nat → Nat} (h : Own w base T g cap m f) (hb : base' ≤ base) (hf : ∀ j, j < m → f j = f' j) : Own w base' T g cap m f' := by
  obtain ⟨ys, ho, hf2⟩ := h
  refine ⟨ys, ⟨ho.1, ?_⟩, fun j hj => by rw [← hf j hj]; exact hf2 j hj⟩
  rcases ho.2 with h | ⟨g', cap', cur, hv, hg, hr⟩
  · exact .inl h
  · exact .inr ⟨g', cap', cur, hv, by omega, hr⟩
theorem Own.app {w : World} {base : Nat} {T : TypeId} {g cap m : Nat} {f : Nat → Nat} {ys : List Nat} {r : Nat} (ho : w.ownsRow base T 1 (.slice (some ⟨g, 0, none⟩) (m + 1) cap) (m + 1) (fls ys ++ [.float .f32 r])) (hl : ys.length = m) (hf : ∀ j, j < m → Fl .f32 (f j) (ys.getD j 0)) (hr : Fl .f32 (f m) r) : Own w base T g cap (m + 1) f := by
  refine ⟨ys ++ [r], by simpa [fls] using ho, fun j hj => ?_⟩
  by_cases he : j = m
  · subst he
    simp [List.getD, ← hl]
    rw [hl]
    exact hr
  · have := hf j (by omega)
    simp only [List.getD, List.getElem?_append_left (show j < ys.length by omega)]
    exact this
theorem Own.nil {w : World} {base : Nat} {T : TypeId} {f : Nat → Nat} (hb : base ≤ w.heap.size) : Own (w.alloc (.cells #[] T)) base T w.heap.size 0 0 f :=
  ⟨[], World.ownsRow_made _ _ _ hb (by decide) rfl, fun j hj => absurd hj (Nat.not_lt_zero j)⟩
theorem cell_one (w : World) (a : Value) (t : TypeId) : ∀ j u, [a][j]? = some u → (w.alloc (.cells #[a] t)).cell? ((⟨w.heap.size, 0, none⟩ : Addr).add j) = some u := by
  intro j u hj
  match j, hj with
  | 0, hj => simp at hj; subst hj; simp [Addr.add]
  | j + 1, hj => simp at hj
theorem flt_one {r : Nat} : ∀ u ∈ [Value.float .f32 r], u.oneCell' = true := by
  intro u hu
  simp at hu
  subst hu
  rfl
theorem lpF_step {f g : Nat → Nat} {s e k : Nat} (h : e + 1 ≤ k) : fop .sub .f32 (lpF (fun d => f (e + 1 + d)) (fun d => g (e + 1 + d)) s (k - (e + 1))) (fop .mul .f32 (f k) (g k)) = lpF (fun d => f (e + 1 + d)) (fun d => g (e + 1 + d)) s (k + 1 - (e + 1)) := by
  rw [show k + 1 - (e + 1) = (k - (e + 1)) + 1 by omega]
  show _ = fop .sub .f32 _ (fop .mul .f32 (f (e + 1 + (k - (e + 1)))) (g (e + 1 + (k - (e + 1)))))
  rw [show e + 1 + (k - (e + 1)) = k by omega]
theorem finB_congr {m : Nat} {f g : Nat → Nat} (h : ∀ j, j < m → f j = g j) : finB m f = finB m g := by
  unfold finB
  rw [Bool.eq_iff_iff, decide_eq_true_iff, decide_eq_true_iff]
  constructor
  · intro k j hj; rw [← h j hj]; exact k j hj
  · intro k j hj; rw [h j hj]; exact k j hj
theorem own_shf {w : World} {base : Nat} {e : TypeId} {size : Nat} {v : Value} {n : Nat} {xs : List Value} (h : w.ownsRow base e size v n xs) (h0 : 0 < n) : ∃ g cap, v = .slice (some ⟨g, 0, none⟩) n cap ∧ base ≤ g ∧ g < w.heap.size := by
  obtain ⟨_, h2⟩ := h
  rcases h2 with ⟨_, hz⟩ | ⟨g, cap, cur, hv, hg, hh, hn, hc, _⟩
  · omega
  · exact ⟨g, cap, hv, hg, (Array.getElem?_eq_some_iff.1 hh).1⟩
def goodB (sq M : Nat → Nat → Nat) (n : Nat) : Bool := decide (∀ a, a < n → fcmp .gtr .f32 (pivF sq M a) 0 = true)
theorem goodB_no {sq M : Nat → Nat → Nat} {n a : Nat} (ha : a < n) (h : fcmp .gtr .f32 (pivF sq M a) 0 = false) : goodB sq M n = false := by
  unfold goodB
  rw [decide_eq_false_iff_not]
  intro k
  rw [k a ha] at h
  cases h
theorem goodB_yes {sq M : Nat → Nat → Nat} {n : Nat} (h : ∀ a, a < n → fcmp .gtr .f32 (pivF sq M a) 0 = true) : goodB sq M n = true := by unfold goodB; rw [decide_eq_true_iff]; exact h
/-- 'returns a new list of n floats that are told and true, or nothing and false' -/
def RE (T : TypeId) (ok : Bool) (n : Nat) (X : Nat → Nat) (w : World) (e : Ending) (w' : World) : Prop :=
  (ok = true ∧ (∃ g cap, e = .returned (.tuple #[.slice (some ⟨g, 0, none⟩) n cap, .bool true]) ∧ Own w' w.heap.size T g cap n X) ∧ Below w.heap.size w w') ∨ (ok = false ∧ e = .returned (.tuple #[.slice none 0 0, .bool false]) ∧ Below w.heap.size w w')
theorem below_dr {w w' : World} {q : Nat} (h : Below (w.drewN q).heap.size (w.drewN q) w') : Below w.heap.size w w' := Below.on (Below.drews (Below.refl _ _)) h (Nat.le_refl _)
theorem RE.t {T : TypeId} {n : Nat} {X : Nat → Nat} {w w' : World} {e : Ending} (h : RE T true n X w e w') : (∃ g cap, e = .returned (.tuple #[.slice (some ⟨g, 0, none⟩) n cap, .bool true]) ∧ Own w' w.heap.size T g cap n X) ∧ Below w.heap.size w w' := by
  rcases h with ⟨_, h1, h2⟩ | ⟨h, _⟩
  · exact ⟨h1, h2⟩
  · cases h
theorem RE.f {T : TypeId} {n : Nat} {X : Nat → Nat} {w w' : World} {e : Ending} (h : RE T false n X w e w') : e = .returned (.tuple #[.slice none 0 0, .bool false]) ∧ Below w.heap.size w w' := by
  rcases h with ⟨h, _⟩ | ⟨_, h1, h2⟩
  · cases h
  · exact ⟨h1, h2⟩
theorem RE.no {T : TypeId} {ok : Bool} {n : Nat} {X : Nat → Nat} {w w' : World} (h : ok = false) (b : Below w.heap.size w w') : RE T ok n X w (.returned (.tuple #[.slice none 0 0, .bool false])) w' := .inr ⟨h, rfl, b⟩
set_option maxHeartbeats 4000000 in
theorem l05Even_any {ga gb n N k1 k2 : Nat} {xs bs : List Nat} (w : World) (hr : FRow w (some ⟨ga, 0, none⟩) xs) (hw : Wf xs) (hb : FRow w (some ⟨gb, 0, none⟩) bs) (hwb : Wf bs) (hN : N = n * n) (hx : xs.length = N) (hbl : bs.length = n) (h1 : 1 ≤ n) (h10 : n ≤ 10)
    {M : Nat → Nat → Nat} (hM : Rt (sqF xs n) n M)
    {Y X : Nat → Nat} (hY : ∀ i, i < n → Y i = fop .quo .f32 (lpF (M i) Y (nrm .f32 (bs.getD i 0)) i) (M i i)) (hX : ∀ i, i < n → X i = fop .quo .f32 (lpF (fun d => M (i + 1 + d) i) (fun d => X (i + 1 + d)) (Y i) (n - 1 - i)) (M i i)) : Calls Try.prog 55 #[.slice (some ⟨ga, 0, none⟩) N k1, .slice (some ⟨gb, 0, none⟩) n k2] w (RE 41 (goodB (sqF xs n) M n && finB n X) n X w) := by
  obtain ⟨i0, hi, hz0, hz1, hz2⟩ := info_parts (P := Try.prog) (e := 41) (z := .float .f32 0) (size := 1) (bytes := 4) (by kernel_rfl)
  have HX := Hf.mk (fun j hj => hr.told hw (j := j) hj)
  have HRr := Hf.mk hr
  have HL := Hf.mk hx
  have HBL := Hf.mk hbl
  have HM := Hf.mk hM
  have hNN : N ≤ 100 := by rw [hN]; exact Nat.mul_le_mul h10 h10
  have HN := Hf.mk hN
  have hnI : (n : Int) * (n : Int) = (N : Int) := by rw [hN]; simp
  have HYe := Hf.mk hY
  have HXe := Hf.mk hX
  have HB := Hf.mk (fun j hj => hb.told hwb (j := j) hj)
  clear hr hw hb hwb hN hx hbl hM hY hX
  go_enter Try.func55, Try.ntmps55
  go_wp2_with (at_make; refine wpList_make_full _ rfl _ _ 40 rfl w.heap.size 41 i0 _ 1 Try.underlying40 hi hz0 hz1 .i64 .i64 _ _ N rfl rfl rfl rfl (by rw [hz2]; omega) (by unfold maxLen; omega) (Nat.le_refl _) ?_; intro w0 hown0 hgrow0)
  have hO0 : Own w0 w.heap.size 41 w.heap.size N N (fun j => nrm .f32 ((List.replicate N 0).getD j 0)) := by
    rw [mades] at hown0
    exact Own.of hown0 (fun x hx => by rw [List.eq_of_mem_replicate hx]; decide +kernel)
  have B00 : Below w.heap.size w w0 := (Below.refl _ _).grown hgrow0 (Nat.le_refl _) (fun k h => by cases h)
  have HO0 := Hf.mk hO0
  clear hO0 hown0 hgrow0
  go_loopw [8] (fun i wr => ∃ a : Nat, a ≤ n ∧ i = .int .i64 a ∧ Hf (∃ f, Own wr w.heap.size 41 w.heap.size N N f ∧ ∀ x y, x < a → y ≤ x → f (x * n + y) = M x y) ∧ Hf (∀ x, x < a → fcmp .gtr .f32 (pivF (sqF xs n) M x) 0 = true) ∧ Hf (Below w.heap.size w wr)) (fun i _ => n - (intOf i).toNat)
  case atStart => exact ⟨0, by omega, rfl, ⟨⟨_, HO0.out, fun x y h => absurd h (Nat.not_lt_zero x)⟩⟩, ⟨fun x h => absurd h (Nat.not_lt_zero x)⟩, ⟨B00⟩⟩
  case round =>
    obtain ⟨a, ha, rfl, hf1, hg1, hb1⟩ := hrel
    obtain ⟨W1, hW1⟩ : ∃ W1, W1 = wr := ⟨_, rfl⟩
    subst hW1
    by_cases hlt : a < n
    · obtain ⟨p, hp⟩ : ∃ p : Nat, p = a * n := ⟨_, rfl⟩
      have hpI : (a : Int) * (n : Int) = (p : Int) := by rw [hp]; simp
      have hpN : p + n ≤ N := by rw [HN.out, hp]; have := Nat.mul_le_mul_right n (show a + 1 ≤ n from hlt); rw [Nat.add_mul, Nat.one_mul] at this; exact this
      have HP := Hf.mk hp
      clear hp
      go_wp2
      go_loopw [9] (fun k wr => ∃ c : Nat, c ≤ a + 1 ∧ k = .int .i64 c ∧ Hf (∃ f, Own wr w.heap.size 41 w.heap.size N N f ∧ (∀ x y, x < a → y ≤ x → f (x * n + y) = M x y) ∧ ∀ y, y < c → f (p + y) = M a y) ∧ Hf (a < c → fcmp .gtr .f32 (pivF (sqF xs n) M a) 0 = true) ∧ Hf (Below w.heap.size w wr)) (fun k _ => a + 1 - (intOf k).toNat)
      case atStart => exact ⟨0, by omega, rfl, ⟨by obtain ⟨f, ho, hf⟩ := hf1.out; exact ⟨f, ho, hf, fun y h => absurd h (Nat.not_lt_zero y)⟩⟩, ⟨fun h => absurd h (by omega)⟩, hb1⟩
      case round =>
        obtain ⟨c, hc, rfl, hf2, hg2, hb2⟩ := hrel
        obtain ⟨W2, hW2⟩ : ∃ W2, W2 = wr := ⟨_, rfl⟩
        subst hW2
        by_cases hca : c ≤ a
        · obtain ⟨q, hq⟩ : ∃ q : Nat, q = c * n := ⟨_, rfl⟩
          have hqI : (c : Int) * (n : Int) = (q : Int) := by rw [hq]; simp
          have hqN : q + n ≤ N := by rw [HN.out, hq]; have := Nat.mul_le_mul_right n (show c + 1 ≤ n by omega); rw [Nat.add_mul, Nat.one_mul] at this; exact this
          have HQ := Hf.mk hq
          clear hq
          obtain ⟨f, hO, hF1, hF2⟩ := hf2.out
          have HO := Hf.mk hO
          have HF1 := Hf.mk hF1
          have HF2 := Hf.mk hF2
          clear hO hF1 hF2
          obtain ⟨rs, cs, fs⟩ := HX.out (p + c) (by rw [HL.out]; omega)
          have cs2 := Below.keep hb2.out cs
          have FS := Hf.mk (show Fl .f32 (sqF xs n a c) rs by unfold sqF; rw [← HP.out]; exact fs)
          clear cs fs
          have hT : ((p : Int) + (c : Int)).toNat = p + c := by omega
          go_wp2
          go_loopw [11, 10] (fun j s wr => ∃ (d x : Nat), d ≤ c ∧ j = .int .i64 d ∧ s = .float .f32 x ∧ Fl .f32 (lpF (M a) (M c) (sqF xs n a c) d) x ∧ Drew W2 wr) (fun j _ _ => c - (intOf j).toNat)
          case atStart => exact ⟨0, _, by omega, rfl, rfl, FS.out, (by repeat (first | exact Drew.refl _ | refine Drew.more ?_))⟩
          case round =>
            obtain ⟨d, x, hd, rfl, rfl, hs, z, rfl⟩ := hrel
            by_cases hdc : d < c
            · obtain ⟨r1, k1, g1⟩ := HO.out.cell (show p + d < N by omega)
              obtain ⟨r2, k2, g2⟩ := HO.out.cell (show q + d < N by omega)
              rw [HF2.out d (by omega)] at g1
              rw [show f (q + d) = M c d by
                by_cases he : c = a
                · have : q = p := by rw [HQ.out, HP.out, he]
                  rw [this, he]; exact HF2.out d (by omega)
                · rw [HQ.out]; exact HF1.out c d (by omega) (by omega)] at g2
              have hT1 : ((p : Int) + (d : Int)).toNat = p + d := by omega
              have hT2 : ((q : Int) + (d : Int)).toNat = q + d := by omega
              have hD1 : ∀ (W : World) (x : Addr), W.drew.cell? x = W.cell? x := fun _ _ => rfl
              have hD2 : ∀ (W : World) (n : Nat) (x : Addr), (W.drewN n).cell? x = W.cell? x := fun _ _ _ => rfl
              obtain ⟨R1, N1, hm1, hf1⟩ := fopA Try.prog (op := .mul) rfl 41 g1 g2
              obtain ⟨R2, N2, hm2, hf2⟩ := fopA2 Try.prog (op := .sub) rfl 41 hs hf1
              have HF := Hf.mk hf2
              clear hf1 hf2
              go_wp2
              go_region
              all_goals go_wp2
              all_goals go_roundw
              all_goals first | exact ⟨d + 1, _, by omega, i_ext2 (by omega), rfl, HF.out _ _, ⟨_, rfl⟩⟩ | (simp [intOf]; omega)
            · have hdc2 : d = c := by omega
              subst hdc2
              obtain ⟨ro, ko, _⟩ := HO.out.cell (show p + d < N by omega)
              have zo := HO.out.free (p + d)
              have lo := HO.out.lt.2
              have NP := Hf.mk (fun x y (hx : x < a) (hy : y ≤ x) (he : x * n + y = p + d) => by
                have := idx_inj (n := n) (a := x) (c := y) (i := a) (k := d) (by omega) (by omega) (by rw [← HP.out]; exact he)
                omega : ∀ x y, x < a → y ≤ x → x * n + y ≠ p + d)
              by_cases hda : d < a
              · obtain ⟨r3, k3, g3⟩ := HO.out.cell (show q + d < N by omega)
                rw [show f (q + d) = M d d by rw [HQ.out]; exact HF1.out d d hda (Nat.le_refl _)] at g3
                have HME := Hf.mk (HM.out.off a d hlt hda)
                have NE := Hf.mk (show ¬ (d = a) by omega)
                have hT3 : ((q : Int) + (d : Int)).toNat = q + d := by omega
                go_wp2_with (refine wpList_fop rfl rfl rfl rfl rfl (by first | (with_reducible assumption) | (with_reducible exact Fl.ofInt _ _) | exact Fl.not (by decide +kernel) (by decide +kernel)) (by first | (with_reducible assumption) | (with_reducible exact Fl.ofInt _ _) | exact Fl.not (by decide +kernel) (by decide +kernel)) ?_; intro r n hr; simp only [Act.put, List.setIfInBounds_toArray, List.set_cons_succ, List.set_cons_zero])
                go_roundw
                case rel =>
                  refine ⟨d + 1, by omega, i_ext2 (by omega), ⟨⟨_, (HO.out.drews _).set (show p + d < N by omega) hr, fun x y hx hy => ?_, fun y hy => ?_⟩⟩, ⟨fun h => absurd h (by omega)⟩, ⟨Below.setCell (p := ⟨w.heap.size, p + d, none⟩) (Below.drews hb2.out) (Nat.le_refl _) _⟩⟩
                  · rw [if_neg (NP.out x y hx hy)]; exact HF1.out x y hx hy
                  · by_cases he : y = d
                    · rw [if_pos (by omega), he, HME.out]
                    · exact (if_neg (show ¬ (p + y = p + d) by omega)).trans (HF2.out y (by omega))
                case measure => simp [intOf]; omega
              · have hda2 : d = a := by omega
                subst hda2
                have hqp : p = q := by rw [HQ.out, HP.out]
                subst hqp
                cases hg : fcmp .gtr .f32 (pivF (sqF xs n) M d) 0
                · have KG := Hf.mk (goodB_no hlt hg)
                  unfold pivF at hg
                  go_wp2_with (first | (refine wpList_fcmp rfl rfl rfl rfl rfl (by first | (with_reducible assumption) | (with_reducible exact Fl.ofInt _ _) | exact Fl.not (by decide +kernel) (by decide +kernel)) (by first | (with_reducible assumption) | (with_reducible exact Fl.ofInt _ _) | exact Fl.not (by decide +kernel) (by decide +kernel)) ?_; simp only [Act.put, List.setIfInBounds_toArray, List.set_cons_succ, List.set_cons_zero, hg]))
                  go_ret2
                  exact RE.no (by rw [KG.out]; rfl) (Below.drews hb2.out)
                · have HME := Hf.mk (HM.out.dia d hlt)
                  have KG := Hf.mk hg
                  unfold pivF at hg
                  go_wp2_with (first | (refine wpList_fcmp rfl rfl rfl rfl rfl (by first | (with_reducible assumption) | (with_reducible exact Fl.ofInt _ _) | exact Fl.not (by decide +kernel) (by decide +kernel)) (by first | (with_reducible assumption) | (with_reducible exact Fl.ofInt _ _) | exact Fl.not (by decide +kernel) (by decide +kernel)) ?_; simp only [Act.put, List.setIfInBounds_toArray, List.set_cons_succ, List.set_cons_zero, hg]) | (go_at_call 68; refine (l01Rt_any hs _).mono ?_; rintro e w' ⟨r, n, rfl, hr, rfl⟩))
                  go_roundw
                  case rel =>
                    refine ⟨d + 1, by omega, i_ext2 (by omega), ⟨⟨_, (HO.out.drews _).set (show p + d < N by omega) hr, fun x y hx hy => ?_, fun y hy => ?_⟩⟩, ⟨fun _ => KG.out⟩, ⟨Below.setCell (p := ⟨w.heap.size, p + d, none⟩) (Below.drews hb2.out) (Nat.le_refl _) _⟩⟩
                    · rw [if_neg (NP.out x y hx hy)]; exact HF1.out x y hx hy
                    · by_cases he : y = d
                      · rw [if_pos (by omega), he, HME.out]
                      · exact (if_neg (show ¬ (p + y = p + d) by omega)).trans (HF2.out y (by omega))
                  case measure =>
                    simp [intOf]
                    try omega
        · obtain rfl : c = a + 1 := by omega
          go_wp2
          go_roundw
          case rel =>
            refine ⟨a + 1, by omega, i_ext2 (by omega), ⟨?_⟩, ⟨fun x hx => ?_⟩, hb2⟩
            · obtain ⟨f, ho, hf1', hf2'⟩ := hf2.out
              refine ⟨f, ho, fun x y hx hy => ?_⟩
              by_cases he : x = a
              · rw [he, ← HP.out]; exact hf2' y (by omega)
              · exact hf1' x y (by omega) hy
            · by_cases he : x = a
              · rw [he]; exact hg2.out (by omega)
              · exact hg1.out x (by omega)
          case measure => simp [intOf]; omega
    · obtain rfl : a = n := by omega
      have KG := Hf.mk (goodB_yes hg1.out)
      obtain ⟨f, hO, hF1⟩ := hf1.out
      have HO := Hf.mk hO
      have HF1 := Hf.mk hF1
      have sW := hb1.out.size
      have lO := hO.lt.2
      clear hO hF1
      go_wp2
      go_loopw [13, 12] (fun i xv wr => ∃ (c gx cap : Nat), c ≤ a ∧ i = .int .i64 c ∧ xv = .slice (some ⟨gx, 0, none⟩) c cap ∧ Hf (Own wr (w.heap.size + 1) 41 gx cap c Y) ∧ Hf (Own wr w.heap.size 41 w.heap.size N N f) ∧ Hf (Below w.heap.size w wr)) (fun i _ _ => a - (intOf i).toNat)
      case atStart => exact ⟨0, _, _, by omega, rfl, rfl, ⟨Own.nil (by omega)⟩, ⟨HO.out.dra 0 _⟩, ⟨Below.alloc hb1.out sW _⟩⟩
      case round =>
        obtain ⟨c, gx, cap, hc, rfl, rfl, hx2, ho2, hb2⟩ := hrel
        obtain ⟨W2, hW2⟩ : ∃ W2, W2 = wr := ⟨_, rfl⟩
        subst hW2
        by_cases hca : c < a
        · obtain ⟨p, hp⟩ : ∃ p : Nat, p = c * a := ⟨_, rfl⟩
          have hpI : (c : Int) * (a : Int) = (p : Int) := by rw [hp]; simp
          have hpN : p + a ≤ N := by rw [HN.out, hp]; have := Nat.mul_le_mul_right a (show c + 1 ≤ a from hca); rw [Nat.add_mul, Nat.one_mul] at this; exact this
          have HP := Hf.mk hp
          clear hp
          obtain ⟨rb, cb, fb⟩ := HB.out c (by rw [HBL.out]; exact hca)
          have cb2 := Below.keep hb2.out cb
          have FB := Hf.mk fb
          clear cb fb
          have hT : ((p : Int) + (c : Int)).toNat = p + c := by omega
          go_wp2
          go_loopw [15, 14] (fun j s wr => ∃ (d x : Nat), d ≤ c ∧ j = .int .i64 d ∧ s = .float .f32 x ∧ Fl .f32 (lpF (M c) Y (nrm .f32 (bs.getD c 0)) d) x ∧ Drew W2 wr) (fun j _ _ => c - (intOf j).toNat)
          case atStart => exact ⟨0, _, by omega, rfl, rfl, FB.out, (by repeat (first | exact Drew.refl _ | refine Drew.more ?_))⟩
          case round =>
            obtain ⟨d, x, hd, rfl, rfl, hs, z, rfl⟩ := hrel
            by_cases hdc : d < c
            · obtain ⟨r1, k1, g1⟩ := ho2.out.cell (show p + d < N by omega)
              obtain ⟨r2, k2, g2⟩ := hx2.out.cell hdc
              rw [show f (p + d) = M c d by rw [HP.out]; exact HF1.out c d hca (by omega)] at g1
              have hT1 : ((p : Int) + (d : Int)).toNat = p + d := by omega
              have hD1 : ∀ (W : World) (x : Addr), W.drew.cell? x = W.cell? x := fun _ _ => rfl
              have hD2 : ∀ (W : World) (n : Nat) (x : Addr), (W.drewN n).cell? x = W.cell? x := fun _ _ _ => rfl
              obtain ⟨R1, N1, hm1, hf1⟩ := fopA Try.prog (op := .mul) rfl 41 g1 g2
              obtain ⟨R2, N2, hm2, hf2⟩ := fopA2 Try.prog (op := .sub) rfl 41 hs hf1
              have HF := Hf.mk hf2
              clear hf1 hf2
              go_wp2
              go_region
              all_goals go_wp2
              all_goals go_roundw
              all_goals first | exact ⟨d + 1, _, by omega, i_ext2 (by omega), rfl, HF.out _ _, ⟨_, rfl⟩⟩ | (simp [intOf]; omega)
            · have hdc2 : d = c := by omega
              subst hdc2
              obtain ⟨r3, k3, g3⟩ := ho2.out.cell (show p + d < N by omega)
              rw [show f (p + d) = M d d by rw [HP.out]; exact HF1.out d d hca (Nat.le_refl _)] at g3
              have HME := Hf.mk (HYe.out d hca)
              obtain ⟨ys, oy, fy⟩ := hx2.out
              have ly := Own.len oy
              have OY := Hf.mk oy
              have FY := Hf.mk fy
              have LY := Hf.mk ly
              have sz2 := hb2.out.size
              have lgx := (oy.lt gx rfl).1
              clear oy fy ly
              go_wp2_with (first | (refine wpList_fop rfl rfl rfl rfl rfl (by first | (with_reducible assumption) | (with_reducible exact Fl.ofInt _ _) | exact Fl.not (by decide +kernel) (by decide +kernel)) (by first | (with_reducible assumption) | (with_reducible exact Fl.ofInt _ _) | exact Fl.not (by decide +kernel) (by decide +kernel)) ?_; intro r zz hr; simp only [Act.put, List.setIfInBounds_toArray, List.set_cons_succ, List.set_cons_zero]) | (at_builtin; refine wpList_append_own _ rfl _ _ 40 rfl (w.heap.size + 1) 41 i0 (.float .f32 0) 1 4 Try.underlying40 hi hz0 hz1 hz2 rfl (by decide) _ d (fls ys) rfl (own_dra OY.out _ _) ⟨W2.heap.size, 0, none⟩ 1 1 [.float .f32 r] rfl rfl (cell_one _ _ _) flt_one (by unfold maxLen; omega) (by omega) (by simp; omega) ?_; intro v' w3 o3 hgrow3 hnil3; have B3 := Hf.mk (Below.grown (Below.alloc (Below.drews hb2.out) (by simp; omega) _) hgrow3 (by simp; omega) (fun k h => by cases h; show w.heap.size ≤ gx; omega) : Below w.heap.size w w3); have R3 := Hf.mk ((ho2.out.dra _ _).gb hgrow3 (show some w.heap.size ≠ some gx from fun e => absurd (Option.some.inj e) (by omega))); clear hgrow3 hnil3; obtain ⟨g3, cap3, rfl, hg3, _⟩ := own_shf o3 (by omega); have O3 := Hf.mk (Own.app o3 LY.out FY.out (by rw [HME.out]; exact hr)); clear o3))
              go_roundw
              case rel => exact ⟨d + 1, g3, cap3, by omega, i_ext2 (by omega), rfl, O3, R3, B3⟩
              case measure => simp [intOf]; omega
        · have hca2 : c = a := by omega
          subst hca2
          have sz2 := hb2.out.size
          go_wp2
          go_loopw [16] (fun i wr => ∃ (t : Nat) (e : Int), t ≤ c ∧ i = .int .i64 e ∧ e = (c : Int) - 1 - (t : Int) ∧ Hf (∃ h, Own wr (w.heap.size + 1) 41 gx cap c h ∧ (∀ j, j < c - t → h j = Y j) ∧ ∀ j, c - t ≤ j → j < c → h j = X j) ∧ Hf (Own wr w.heap.size 41 w.heap.size N N f) ∧ Hf (Below w.heap.size w wr)) (fun i _ => (intOf i + 1).toNat)
          case atStart => exact ⟨0, _, by omega, rfl, by omega, ⟨⟨Y, hx2.out, fun _ _ => rfl, fun j h1 h2 => by omega⟩⟩, ho2, hb2⟩
          case round =>
            obtain ⟨t, e', ht, rfl, he', hx3, ho3, hb3⟩ := hrel
            obtain ⟨W3, hW3⟩ : ∃ W3, W3 = wr := ⟨_, rfl⟩
            subst hW3
            by_cases htc : t < c
            · obtain ⟨e, he⟩ : ∃ e : Nat, e + t + 1 = c := ⟨c - 1 - t, by omega⟩
              obtain rfl : e' = (e : Int) := by omega
              have he1 : e + t + 1 ≤ c := by omega
              have he2 : c ≤ e + t + 1 := by omega
              clear he' he
              obtain ⟨h, hOx, hY1, hX1⟩ := hx3.out
              have OX := Hf.mk hOx
              have HY1 := Hf.mk hY1
              have HX1 := Hf.mk hX1
              clear hOx hY1 hX1
              obtain ⟨ry, cy, fy⟩ := OX.out.cell (show e < c by omega)
              rw [HY1.out e (by omega)] at fy
              have FY := Hf.mk fy
              clear fy
              have lgx := OX.out.lt
              go_wp2
              go_loopw [18, 17] (fun k s wr => ∃ (k' x : Nat), e + 1 ≤ k' ∧ k' ≤ c ∧ k = .int .i64 k' ∧ s = .float .f32 x ∧ Fl .f32 (lpF (fun d => M (e + 1 + d) e) (fun d => X (e + 1 + d)) (Y e) (k' - (e + 1))) x ∧ Drew W3 wr) (fun k _ _ => c - (intOf k).toNat)
              case atStart => exact ⟨e + 1, _, by omega, by omega, i_ext2 (by omega), rfl, by rw [Nat.sub_self]; exact FY.out, (by repeat (first | exact Drew.refl _ | refine Drew.more ?_))⟩
              case round =>
                obtain ⟨d, x, hd1, hd2, rfl, rfl, hs, z, rfl⟩ := hrel
                by_cases hdc : d < c
                · obtain ⟨p, hp⟩ : ∃ p : Nat, p = d * c := ⟨_, rfl⟩
                  have hpI : (d : Int) * (c : Int) = (p : Int) := by rw [hp]; simp
                  have hpN : p + c ≤ N := by rw [HN.out, hp]; have := Nat.mul_le_mul_right c (show d + 1 ≤ c from hdc); rw [Nat.add_mul, Nat.one_mul] at this; exact this
                  obtain ⟨r1, k1, g1⟩ := ho3.out.cell (show p + e < N by omega)
                  obtain ⟨r2, k2, g2⟩ := OX.out.cell hdc
                  rw [show f (p + e) = M d e by rw [hp]; exact HF1.out d e hdc (by omega)] at g1
                  rw [HX1.out d (by omega) hdc] at g2
                  have HP := Hf.mk hp
                  clear hp
                  have hT1 : ((p : Int) + (e : Int)).toNat = p + e := by omega
                  have hD1 : ∀ (W : World) (x : Addr), W.drew.cell? x = W.cell? x := fun _ _ => rfl
                  have hD2 : ∀ (W : World) (n : Nat) (x : Addr), (W.drewN n).cell? x = W.cell? x := fun _ _ _ => rfl
                  obtain ⟨R1, N1, hm1, hf1⟩ := fopA Try.prog (op := .mul) rfl 41 g1 g2
                  obtain ⟨R2, N2, hm2, hf2⟩ := fopA2 Try.prog (op := .sub) rfl 41 hs hf1
                  have HF := Hf.mk (show ∀ w1 w, Fl .f32 (lpF (fun d => M (e + 1 + d) e) (fun d => X (e + 1 + d)) (Y e) (d + 1 - (e + 1))) (R2 w1 w) from fun w1 w => by rw [← lpF_step (f := fun d => M d e) (g := X) hd1]; exact hf2 w1 w)
                  clear hf1 hf2
                  go_wp2
                  go_region
                  all_goals go_wp2
                  all_goals go_roundw
                  all_goals first | exact ⟨d + 1, _, by omega, by omega, i_ext2 (by omega), rfl, HF.out _ _, ⟨_, rfl⟩⟩ | (simp [intOf]; omega)
                · have hdc2 : c = d := by omega
                  have HS := Hf.mk (show Fl .f32 (lpF (fun d => M (e + 1 + d) e) (fun d => X (e + 1 + d)) (Y e) (c - 1 - e)) x by rw [show c - 1 - e = d - (e + 1) by omega]; exact hs)
                  clear hs
                  have hs := HS.out
                  obtain ⟨p, hp⟩ : ∃ p : Nat, p = e * c := ⟨_, rfl⟩
                  have hpI : (e : Int) * (c : Int) = (p : Int) := by rw [hp]; simp
                  have hpN : p + c ≤ N := by rw [HN.out, hp]; have := Nat.mul_le_mul_right c (show e + 1 ≤ c by omega); rw [Nat.add_mul, Nat.one_mul] at this; exact this
                  obtain ⟨r3, k3, g3⟩ := ho3.out.cell (show p + e < N by omega)
                  rw [show f (p + e) = M e e by rw [hp]; exact HF1.out e e (by omega) (Nat.le_refl _)] at g3
                  have HP := Hf.mk hp
                  have HD := Hf.mk hdc2
                  clear hp hdc2
                  have hT3 : ((p : Int) + (e : Int)).toNat = p + e := by omega
                  have HME := Hf.mk (HXe.out e (by omega))
                  have zx := OX.out.free e
                  go_wp2_with (refine wpList_fop rfl rfl rfl rfl rfl (by first | (with_reducible assumption) | (with_reducible exact Fl.ofInt _ _) | exact Fl.not (by decide +kernel) (by decide +kernel)) (by first | (with_reducible assumption) | (with_reducible exact Fl.ofInt _ _) | exact Fl.not (by decide +kernel) (by decide +kernel)) ?_; intro r n hr; simp only [Act.put, List.setIfInBounds_toArray, List.set_cons_succ, List.set_cons_zero])
                  go_roundw
                  case rel =>
                    refine ⟨t + 1, _, by omega, rfl, by omega, ⟨⟨_, (OX.out.drews _).set (show e < c by omega) hr, fun j hj => ?_, fun j hj1 hj2 => ?_⟩⟩, ⟨(ho3.out.drews _).other (a := ⟨gx, e, none⟩) (show w.heap.size ≠ gx by omega) _⟩, ⟨Below.setCell (p := ⟨gx, e, none⟩) (Below.drews hb3.out) (show w.heap.size ≤ gx by omega) _⟩⟩
                    · exact (if_neg (show ¬ (j = e) by omega)).trans (HY1.out j (by omega))
                    · by_cases hje : j = e
                      · exact (if_pos hje).trans (by rw [hje, HME.out])
                      · exact (if_neg hje).trans (HX1.out j (by omega) hj2)
                  case measure =>
                    simp [intOf]
                    try omega
            · obtain rfl : t = c := by omega
              obtain ⟨h, hOx, hY1, hX1⟩ := hx3.out
              have FC := Hf.mk (finB_congr (m := t) (f := h) (g := X) (fun j hj => hX1 j (by omega) hj))
              have OX := Hf.mk (hOx.mono (base' := w.heap.size) (f' := X) (by omega) (fun j hj => hX1 j (by omega) hj))
              have HFN := Hf.mk (fun W (hw : Told W gx t h) => l02Fin_any (k := cap) W hw (by omega))
              have HTo := Hf.mk hOx.told
              clear hOx hY1 hX1
              obtain rfl : e' = -1 := by omega
              clear he'
              cases hfin : finB t X
              · have KO := Hf.mk (show (goodB (sqF xs t) M t && finB t X) = false by rw [hfin, Bool.and_false])
                rw [FC.out, hfin] at HFN
                clear hfin
                go_wp2_with (first | (go_at_call 54; refine (HFN.out _ HTo.out).mono ?_; rintro ex w' ⟨rfl, n1, rfl⟩))
                go_ret2
                exact RE.no KO.out (Below.drews hb3.out)
              · have KO := Hf.mk (show (goodB (sqF xs t) M t && finB t X) = true by rw [hfin, KG.out]; rfl)
                rw [FC.out, hfin] at HFN
                clear hfin
                go_wp2_with (first | (go_at_call 54; refine (HFN.out _ HTo.out).mono ?_; rintro ex w' ⟨rfl, n1, rfl⟩))
                go_ret2
                exact .inl ⟨KO.out, ⟨gx, cap, rfl, OX.out.drews _⟩, Below.drews hb3.out⟩
def okIn (xs bs : List Nat) : Bool := decide (1 ≤ bs.length ∧ bs.length ≤ 10 ∧ xs.length = bs.length * bs.length) && (finB xs.length (fun j => nrm .f32 (xs.getD j 0)) && finB bs.length (fun j => nrm .f32 (bs.getD j 0)))
theorem sSolve_no {ga gb n m k1 k2 : Nat} {xs bs : List Nat} (w : World) (hr : FRow w (some ⟨ga, 0, none⟩) xs) (hw : Wf xs) (hb : FRow w (some ⟨gb, 0, none⟩) bs) (hwb : Wf bs) (hm : xs.length = m) (hn : bs.length = n) (hlm : m ≤ 1048576) (hln : n ≤ 1048576) (hno : okIn xs bs = false) : Calls Try.prog 31 #[.slice (some ⟨ga, 0, none⟩) m k1, .slice (some ⟨gb, 0, none⟩) n k2] w (RT (.tuple #[.slice none 0 0, .bool false]) w) := by
  subst hm
  subst hn
  have TX := Hf.mk (Told.of hr hw)
  have TB := Hf.mk (Told.of hb hwb)
  clear hr hw hb hwb
  by_cases h1 : bs.length < 1
  · clear hno
    go_enter Try.func31, Try.ntmps31
    go_wp2
    go_ret2
    exact RT.any (by repeat (first | exact Drew.refl _ | refine Drew.more ?_))
  · by_cases h2 : 10 < bs.length
    · clear hno
      go_enter Try.func31, Try.ntmps31
      go_wp2
      go_ret2
      exact RT.any (by repeat (first | exact Drew.refl _ | refine Drew.more ?_))
    · obtain ⟨p, hp⟩ : ∃ p : Nat, p = bs.length * bs.length := ⟨_, rfl⟩
      have hpI : (bs.length : Int) * (bs.length : Int) = (p : Int) := by rw [hp]; simp
      have hp1 : p ≤ 100 := by rw [hp]; exact Nat.mul_le_mul (show bs.length ≤ 10 by omega) (show bs.length ≤ 10 by omega)
      by_cases h3 : xs.length = p
      · have hno2 : finB xs.length (fun j => nrm .f32 (xs.getD j 0)) = false ∨ (finB xs.length (fun j => nrm .f32 (xs.getD j 0)) = true ∧ finB bs.length (fun j => nrm .f32 (bs.getD j 0)) = false) := by
          unfold okIn at hno
          rw [decide_eq_true (by omega), Bool.true_and] at hno
          cases hq : finB xs.length (fun j => nrm .f32 (xs.getD j 0))
          · exact .inl rfl
          · rw [hq, Bool.true_and] at hno; exact .inr ⟨rfl, hno⟩
        clear hno hp
        have H3 : ((xs.length : Int) == (p : Int)) = true := by simp [h3]
        have H3' : ((xs.length : Int) != (p : Int)) = false := by simp [h3]
        have H4 := Hf.mk h3
        clear h3
        rcases hno2 with hf | ⟨hf, hf2⟩
        · have HF := Hf.mk (fun W hw => l02Fin_any (k := k1) (g := ga) (m := xs.length) (f := fun j => nrm .f32 (xs.getD j 0)) W hw hlm)
          rw [hf] at HF
          clear hf
          go_enter Try.func31, Try.ntmps31
          go_wp2_with (first | (go_at_call 54; refine (HF.out _ TX.out).mono ?_; rintro e w' ⟨rfl, n1, rfl⟩))
          go_ret2
          exact RT.any (by repeat (first | exact Drew.refl _ | refine Drew.more ?_))
        · have HF := Hf.mk (fun W hw => l02Fin_any (k := k1) (g := ga) (m := xs.length) (f := fun j => nrm .f32 (xs.getD j 0)) W hw hlm)
          have HF2 := Hf.mk (fun W hw => l02Fin_any (k := k2) (g := gb) (m := bs.length) (f := fun j => nrm .f32 (bs.getD j 0)) W hw hln)
          rw [hf] at HF
          rw [hf2] at HF2
          clear hf hf2
          have tk_a : True := trivial; have tk_b : True := trivial
          go_enter Try.func31, Try.ntmps31
          go_wp2_with (first | (go_at_call 54; clear tk_a; refine (HF.out _ TX.out).mono ?_; rintro e w' ⟨rfl, n1, rfl⟩) | (go_at_call 54; clear tk_b; refine (HF2.out _ (TB.out.drew _)).mono ?_; rintro e w' ⟨rfl, n2, rfl⟩))
          go_ret2
          exact RT.any (by repeat (first | exact Drew.refl _ | refine Drew.more ?_))
      · have H3 : ((xs.length : Int) == (p : Int)) = false := by rw [beq_eq_false_iff_ne]; omega
        have H3' : ((xs.length : Int) != (p : Int)) = true := by rw [bne_iff_ne]; omega
        clear hno hp
        go_enter Try.func31, Try.ntmps31
        go_wp2
        go_ret2
        exact RT.any (by repeat (first | exact Drew.refl _ | refine Drew.more ?_))
theorem sSolve_yes {ga gb n m k1 k2 : Nat} {xs bs : List Nat} (w : World) (hr : FRow w (some ⟨ga, 0, none⟩) xs) (hw : Wf xs) (hb : FRow w (some ⟨gb, 0, none⟩) bs) (hwb : Wf bs) (hm : xs.length = m) (hn : bs.length = n) (hyes : okIn xs bs = true)
    {M : Nat → Nat → Nat} (hM : Rt (sqF xs n) n M) {Y X : Nat → Nat} (hY : ∀ i, i < n → Y i = fop .quo .f32 (lpF (M i) Y (nrm .f32 (bs.getD i 0)) i) (M i i)) (hX : ∀ i, i < n → X i = fop .quo .f32 (lpF (fun d => M (i + 1 + d) i) (fun d => X (i + 1 + d)) (Y i) (n - 1 - i)) (M i i)) : Calls Try.prog 31 #[.slice (some ⟨ga, 0, none⟩) m k1, .slice (some ⟨gb, 0, none⟩) n k2] w (RE 41 (goodB (sqF xs n) M n && finB n X) n X w) := by
  subst hm
  subst hn
  have hy := hyes
  unfold okIn at hy
  rw [Bool.and_eq_true, Bool.and_eq_true, decide_eq_true_iff] at hy
  obtain ⟨⟨h1, h10, hN⟩, hf, hf2⟩ := hy
  have hN100 : xs.length ≤ 100 := by rw [hN]; exact Nat.mul_le_mul h10 h10
  have TX := Hf.mk (Told.of hr hw)
  have TB := Hf.mk (Told.of hb hwb)
  have HE := Hf.mk (fun W (hrW : FRow W (some ⟨ga, 0, none⟩) xs) (hbW : FRow W (some ⟨gb, 0, none⟩) bs) => l05Even_any (k1 := k1) (k2 := k2) W hrW hw hbW hwb hN rfl rfl h1 h10 hM hY hX)
  have HR := Hf.mk hr
  have HB := Hf.mk hb
  have HF := Hf.mk (fun W hw => l02Fin_any (k := k1) (g := ga) (m := xs.length) (f := fun j => nrm .f32 (xs.getD j 0)) W hw (by omega))
  have HF2 := Hf.mk (fun W hw => l02Fin_any (k := k2) (g := gb) (m := bs.length) (f := fun j => nrm .f32 (bs.getD j 0)) W hw (by omega))
  rw [hf] at HF
  rw [hf2] at HF2
  have hpI : (bs.length : Int) * (bs.length : Int) = (xs.length : Int) := by rw [hN]; simp
  clear hf hf2 hr hb hM hY hX hyes hN
  cases hok : goodB (sqF xs bs.length) M bs.length && finB bs.length X
  · rw [hok] at HE
    clear hok
    have tk_a : True := trivial; have tk_b : True := trivial
    go_enter Try.func31, Try.ntmps31
    go_wp2_with (first | (go_at_call 54; clear tk_a; refine (HF.out _ TX.out).mono ?_; rintro e w' ⟨rfl, n1, rfl⟩) | (go_at_call 54; clear tk_b; refine (HF2.out _ (TB.out.drew _)).mono ?_; rintro e w' ⟨rfl, n2, rfl⟩) | (go_at_call 55; refine (HE.out _ (HR.out.drew _) (HB.out.drew _)).mono ?_; intro e w1 hre; obtain ⟨rfl, b1⟩ := hre.f; have B1 := Hb.mk b1; clear hre b1))
    go_ret2
    exact .inr ⟨rfl, rfl, below_dr B1.out⟩
  · rw [hok] at HE
    clear hok
    have tk_a : True := trivial; have tk_b : True := trivial
    go_enter Try.func31, Try.ntmps31
    go_wp2_with (first | (go_at_call 54; clear tk_a; refine (HF.out _ TX.out).mono ?_; rintro e w' ⟨rfl, n1, rfl⟩) | (go_at_call 54; clear tk_b; refine (HF2.out _ (TB.out.drew _)).mono ?_; rintro e w' ⟨rfl, n2, rfl⟩) | (go_at_call 55; refine (HE.out _ (HR.out.drew _) (HB.out.drew _)).mono ?_; intro e w1 hre; obtain ⟨⟨g, cap, rfl, o1⟩, b1⟩ := hre.t; have B1 := Hb.mk b1; have O1 := Hb.mk o1; clear hre b1 o1))
    go_ret2
    exact .inl ⟨rfl, ⟨g, cap, rfl, O1.out⟩, below_dr B1.out⟩
end Go.Proofs.Ytconlpgifkknmab
