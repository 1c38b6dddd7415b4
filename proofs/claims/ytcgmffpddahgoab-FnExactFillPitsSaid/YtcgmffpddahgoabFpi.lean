/-
  FillPits, of the program. No premise beyond those named.
-/
import Derived.Test.YtcgmffpddahgoabNst
import Derived.Test.YtcgmffpddahgoabFps
namespace Go.Proofs.Ytcgmffpddahgoab
open Go Go.RowKit
set_option maxRecDepth 100000

theorem isAtEdge_any {g k W Hh i n : Nat} (hn : n = W * Hh) (hw : 2 ≤ W) (hw2 : W ≤ 16) (hh : 2 ≤ Hh) (hh2 : Hh ≤ 16) (hi : i < n) (w : World) : Calls Try.prog 92 #[gd W Hh (sl g n k), .int .i64 i] w (RS (.bool (edgeB W Hh i)) w) := by
  have KV := Keep.mk (nbs_edge hn hw hi)
  have HN := Hf.mk hn
  have B0 := Hb.mk (Below.refl w.heap.size w)
  clear hn
  go_enter Try.func92, Try.ntmps92
  go_wp2_with (first | (go_at_call 95; refine (neigh_any (g := g) (k := k) _ HN.out hw hw2 hh hh2 hi).mono ?_; rintro e w1 ⟨⟨v, rfl, o⟩, b1⟩; obtain ⟨a2, k2, rfl, hl2, _⟩ := irow_vown o; have B1 := Hb.mk (Below.on (B := w.heap.size) (a := w) (by repeat (first | exact B0.out | refine Below.drews ?_ | refine Below.drew ?_ | refine Below.alloc ?_ (by have hq_ := B0.out.size; first | omega | (simp <;> omega)) _ | refine Below.setCell ?_ (by have hq_ := B0.out.size; first | omega | (simp <;> omega)) _)) b1 (by have hq_ := B0.out.size; first | omega | (simp <;> omega))); clear o b1))
  go_ret
  exact ⟨ret_b KV.out, (by repeat (first | with_reducible refine Below.setCell ?_ (by first | omega | (simp <;> omega)) _ | with_reducible refine Below.drews ?_ | with_reducible refine Below.drew ?_ | with_reducible refine Below.alloc ?_ (by first | omega | (simp <;> omega)) _ | with_reducible exact B1.out | with_reducible exact Below.refl _ _))⟩
/-- the cells of a search variable -/
structure S4 (w : World) (p : Nat) (x y z u : Value) : Prop where
  x0 : At w ⟨p, 0, none⟩ x
  x1 : At w ⟨p, 1, none⟩ y
  x2 : At w ⟨p, 2, none⟩ z
  x3 : At w ⟨p, 3, none⟩ u
theorem Kp4.s4 {a b c d g : Nat} {w w1 : World} {x y z u : Value} (h : Kp4 a b c d w w1) (hv : S4 w g x y z u) (h1 : g ≠ a) (h2 : g ≠ b) (h3 : g ≠ c) (h4 : g ≠ d) : S4 w1 g x y z u :=
  ⟨h.at' hv.x0 h1 h2 h3 h4, h.at' hv.x1 h1 h2 h3 h4, h.at' hv.x2 h1 h2 h3 h4, h.at' hv.x3 h1 h2 h3 h4⟩
/-- the numbers of a search: those that are told -/
def nvL (s : FS) (j : Nat) : Nat := if s.K j then s.L j else 0
theorem nvL_yes {s : FS} {j : Nat} (h : s.K j = true) : nvL s j = s.L j := if_pos h
theorem nvL_fl {s : FS} {n : Nat} (h : ∀ j, Fl .f32 (s.L j) (s.L j)) : ∀ j, j < n → Fl .f32 (nvL s j) (nvL s j) := by
  intro j _
  unfold nvL
  cases s.K j
  · exact zero32
  · exact h j
theorem bst_op {L : Nat → Nat} {o : Nat → Bool} : ∀ m, 0 ≤ bst L o m → o (bst L o m).toNat = true := by
  intro m
  induction m with
  | zero => intro h; exact absurd h (by show ¬ (0 : Int) ≤ -1; omega)
  | succ m ih =>
    cases h : o m
    · rw [bst_no h]; exact ih
    · cases h2 : (decide (bst L o m < 0) || fcmp .lss .f32 (L m) (L (bst L o m).toNat))
      · rw [bst_no2 h2]; exact ih
      · rw [bst_yes h h2, Int.toNat_natCast]; exact fun _ => h
theorem bst_congr {L L' : Nat → Nat} {o : Nat → Bool} (h : ∀ j, o j = true → L j = L' j) : ∀ m, bst L o m = bst L' o m := by
  intro m
  induction m with
  | zero => rfl
  | succ m ih =>
    cases ho : o m
    · rw [bst_no ho, bst_no ho, ih]
    · show (if o m && (decide (bst L o m < 0) || fcmp .lss .f32 (L m) (L (bst L o m).toNat)) then (m : Int) else bst L o m) = (if o m && (decide (bst L' o m < 0) || fcmp .lss .f32 (L' m) (L' (bst L' o m).toNat)) then (m : Int) else bst L' o m)
      rw [ih, h m ho]
      by_cases hb : bst L' o m < 0
      · rw [decide_eq_true hb, Bool.true_or, Bool.true_or]
      · rw [h _ (bst_op m (by omega))]
theorem best_nv {f : Nat → Nat} {n : Nat} {s : FS} (_h : ∃ m, Iv f n s m) : bst (nvL s) (fun j => s.K j && !s.D j) n = s.best n := by
  refine bst_congr (fun j hj => nvL_yes ?_) n
  rw [Bool.and_eq_true] at hj
  exact hj.1
theorem upd_fv {j v n : Nat} {s s' : FS} (h : ∀ x, x < n → nvL s' x = if x = j then v else nvL s x) : ∀ x, x < n → (if x = j then Value.float .f32 v else fv (nvL s) x) = fv (nvL s') x := by
  intro x hx
  unfold fv
  rw [h x hx]
  by_cases e : x = j
  · rw [if_pos e, if_pos e]
  · rw [if_neg e, if_neg e]
theorem tell_nv {s : FS} {f : Nat → Nat} {a j n : Nat} (hk : s.K j = false) : ∀ x, x < n → nvL (s.tell f a j) x = if x = j then lvl f a j else nvL s x := by
  intro x _
  rw [tell_no hk]
  unfold nvL
  by_cases e : x = j
  · simp [e]
  · simp [e]
theorem edge_x {f : Nat → Nat} {W Hh m : Nat} (he : edgeB W Hh m = true) (n : Nat) : ∀ j, j < n → (if j = m then Value.float .f32 (f m) else if j < m ∧ edgeB W Hh j = true then fv f j else .float .f32 0) = if j < m + 1 ∧ edgeB W Hh j = true then fv f j else .float .f32 0 := by
  intro j _
  by_cases e : j = m
  · subst e; rw [if_pos rfl, if_pos ⟨by omega, he⟩]; rfl
  · rw [if_neg e]
    by_cases h : j < m ∧ edgeB W Hh j = true
    · rw [if_pos h, if_pos ⟨by omega, h.2⟩]
    · rw [if_neg h, if_neg (fun k => h ⟨by omega, k.2⟩)]
theorem edge_x0 {f : Nat → Nat} {W Hh m : Nat} (he : edgeB W Hh m = false) (n : Nat) : ∀ j, j < n → (if j < m ∧ edgeB W Hh j = true then fv f j else .float .f32 0) = if j < m + 1 ∧ edgeB W Hh j = true then fv f j else .float .f32 0 := by
  intro j _
  by_cases h : j < m ∧ edgeB W Hh j = true
  · rw [if_pos h, if_pos ⟨by omega, h.2⟩]
  · rw [if_neg h, if_neg (fun k => h ⟨by
      have : j ≠ m := by rintro rfl; rw [he] at k; exact absurd k.2 (by decide)
      omega, k.2⟩)]
theorem edge_k {W Hh m : Nat} (he : edgeB W Hh m = true) (n : Nat) : ∀ j, j < n → bv (fun i => if i = m then true else decide (i < m) && edgeB W Hh i) j = bv (fun i => decide (i < m + 1) && edgeB W Hh i) j := by
  intro j _
  unfold bv
  dsimp only
  by_cases e : j = m
  · subst e
    rw [if_pos rfl, decide_eq_true (by omega : j < j + 1), he]
    rfl
  · rw [if_neg e, show decide (j < m) = decide (j < m + 1) by rw [decide_eq_decide]; omega]
theorem edge_k0 {W Hh m : Nat} (he : edgeB W Hh m = false) (n : Nat) : ∀ j, j < n → bv (fun i => decide (i < m) && edgeB W Hh i) j = bv (fun i => decide (i < m + 1) && edgeB W Hh i) j := by
  intro j _
  unfold bv
  dsimp only
  by_cases e : j = m
  · subst e
    rw [he, Bool.and_false, Bool.and_false]
  · rw [show decide (j < m) = decide (j < m + 1) by rw [decide_eq_decide]; omega]
theorem start_x {f : Nat → Nat} {W Hh n : Nat} : ∀ j, j < n → (if j < n ∧ edgeB W Hh j = true then fv f j else .float .f32 0) = fv (nvL (fsAt f W Hh n 0)) j := by
  intro j hj
  show _ = Value.float .f32 (if edgeB W Hh j = true then f j else 0)
  by_cases h : edgeB W Hh j = true
  · rw [if_pos ⟨hj, h⟩, if_pos h]; rfl
  · rw [if_neg (fun k => h k.2), if_neg h]
theorem start_k {f : Nat → Nat} {W Hh n : Nat} : ∀ j, j < n → bv (fun i => decide (i < n) && edgeB W Hh i) j = bv (fsAt f W Hh n 0).K j := by
  intro j hj
  show Value.bool (decide (j < n) && edgeB W Hh j) = Value.bool (edgeB W Hh j)
  rw [decide_eq_true hj, Bool.true_and]
theorem cnt_head {f : Nat → Nat} {W Hh n t i : Nat} (h : Hd f W Hh n t) (hi : (fsAt f W Hh n t).best n = (i : Int)) : cntD (fun j => if (j : Int) = (fsAt f W Hh n t).best n then true else (fsAt f W Hh n t).D j) n = t + 1 := by
  obtain ⟨m, iv⟩ := h.iv
  obtain ⟨h1, _, h3, _⟩ := iv.best hi
  rw [show (fun j : Nat => if (j : Int) = (fsAt f W Hh n t).best n then true else (fsAt f W Hh n t).D j) = fun j => if j = i then true else (fsAt f W Hh n t).D j by
    funext j
    rw [hi]
    by_cases e : j = i
    · rw [if_pos e, if_pos (by omega)]
    · rw [if_neg e, if_neg (by omega)]]
  rw [cntD_set h1 h3, h.ct]
theorem settle_nv {i : Nat} {s : FS} {B : Int} (hB : B = (i : Int)) (n : Nat) : ∀ j, j < n → bv (fun j => if (j : Int) = B then true else s.D j) j = bv (s.settle i).D j := by
  intro j _
  unfold bv FS.settle
  dsimp only
  rw [hB]
  by_cases e : j = i
  · rw [if_pos e, if_pos (by omega)]
  · rw [if_neg e, if_neg (by omega)]
set_option maxHeartbeats 1000000 in
theorem iFill_no {g n k : Nat} {wd hg : Int} {f : Nat → Nat} (w : World) (h : Told w g n f) (hl : n ≤ 1048576) (hb : gridB wd hg n f = false) : Calls Try.prog 48 #[gd wd hg (sl g n k)] w (RGx 25 false 0 0 n f #[.int .i64 0] w) := by
  have H := Hf.mk h
  have H1 := Hf.mk hb
  have B0 := Hb.mk (Below.refl w.heap.size w)
  clear h hb
  go_enter Try.func48, Try.ntmps48
  go_wp2_with (first | (go_at_call 60; refine (iValid_any _ (H.out.below (by repeat (first | exact Below.refl _ _ | with_reducible assumption | refine Below.drews ?_ | refine Below.drew ?_ | refine Below.alloc ?_ (by simp <;> omega) _ | refine Below.setCell ?_ (by simp <;> omega) _))) hl).mono ?_; rw [H1.out]; rintro e w1 ⟨rfl, b1⟩; have B1 := Hb.mk (Below.on (B := w.heap.size) (a := w) (by repeat (first | exact B0.out | refine Below.drews ?_ | refine Below.drew ?_ | refine Below.alloc ?_ (by have hq_ := B0.out.size; first | omega | (simp <;> omega)) _ | refine Below.setCell ?_ (by have hq_ := B0.out.size; first | omega | (simp <;> omega)) _)) b1 (by have hq_ := B0.out.size; first | omega | (simp <;> omega))); have q0 := Hb.mk (At.keep b1 (p := ⟨(w.heap.size + 1), 0, none⟩) (v := .int .i64 0) (by simp [go_sem]) (by simp [go_sem])); obtain ⟨q0c, q0z, q0l⟩ := q0.out; have q1 := Hb.mk (At.keep b1 (p := ⟨(w.heap.size + 1), 1, none⟩) (v := .int .i64 0) (by simp [go_sem]) (by simp [go_sem])); obtain ⟨q1c, q1z, q1l⟩ := q1.out; have q2 := Hb.mk (At.keep b1 (p := ⟨(w.heap.size + 1), 2, none⟩) (v := .slice none 0 0) (by simp [go_sem]) (by simp [go_sem])); obtain ⟨q2c, q2z, q2l⟩ := q2.out; clear b1))
  exact bodyPost_ret (v := .tuple #[gd 0 0 (.slice none 0 0), .int .i64 0, .bool false]) (by simp [results, Try.results48, go_sem, q0c, q1c, q2c]) rfl ⟨rfl, (by repeat (first | with_reducible refine Below.setCell ?_ (by first | omega | (simp <;> omega)) _ | with_reducible refine Below.drews ?_ | with_reducible refine Below.drew ?_ | with_reducible refine Below.alloc ?_ (by first | omega | (simp <;> omega)) _ | with_reducible exact B1.out | with_reducible exact Below.refl _ _))⟩
set_option maxHeartbeats 32000000 in
theorem iFill_yes {g n k W Hh : Nat} {f : Nat → Nat} (hfl : ∀ j, Fl .f32 (f j) (f j)) (w : World) (hT : Told w g n f) (hb : gridB (W : Int) (Hh : Int) n f = true) (hG : Gr (W : Int) (Hh : Int) n f W Hh) : Calls Try.prog 48 #[gd W Hh (sl g n k)] w (RGx 25 true W Hh n (flL f W Hh n) #[.int .i64 (hiC f (flL f W Hh n) n)] w) := by
  have n256 := hG.n256
  have n4 := hG.n4
  have h2 := hG.w2
  have h16 := hG.w16
  have g2 := hG.h2
  have g16 := hG.h16
  have hgl := told_lt hT (show 0 < n by omega)
  have HN := Hf.mk hG.nn
  have H1 := Hf.mk hb
  have HT := Hf.mk hT
  have HX := Hf.mk (hT.exact hG.fin)
  have HF := Hf.mk (fun j (hj : j < n) => fin_at hG.fin hj)
  have B0 := Hb.mk (Below.refl w.heap.size w)
  have HFA := Hf.mk (at_fl (W := W) (Hh := Hh) (n := n) hfl)
  have HFL0 := Hf.mk hfl
  clear hb hG hT hfl
  go_enter Try.func48, Try.ntmps48
  go_wp2_with (first | (go_at_call 60; refine (iValid_any _ (HT.out.below (by repeat (first | exact Below.refl _ _ | with_reducible assumption | refine Below.drews ?_ | refine Below.drew ?_ | refine Below.alloc ?_ (by simp <;> omega) _ | refine Below.setCell ?_ (by simp <;> omega) _))) (by omega)).mono ?_; rw [H1.out]; rintro e w1 ⟨rfl, b1⟩; have B1 := Hb.mk (Below.on (B := w.heap.size) (a := w) (by repeat (first | exact B0.out | refine Below.drews ?_ | refine Below.drew ?_ | refine Below.alloc ?_ (by have hq_ := B0.out.size; first | omega | (simp <;> omega)) _ | refine Below.setCell ?_ (by have hq_ := B0.out.size; first | omega | (simp <;> omega)) _)) b1 (by have hq_ := B0.out.size; first | omega | (simp <;> omega))); have r0 := Hb.mk (At.keep b1 (p := ⟨(w.heap.size), 0, none⟩) (v := .int .i64 W) (by simp [go_sem]) (by simp [go_sem])); obtain ⟨r0c, r0z, r0l⟩ := r0.out; have r1 := Hb.mk (At.keep b1 (p := ⟨(w.heap.size), 1, none⟩) (v := .int .i64 Hh) (by simp [go_sem]) (by simp [go_sem])); obtain ⟨r1c, r1z, r1l⟩ := r1.out; have r2 := Hb.mk (At.keep b1 (p := ⟨(w.heap.size), 2, none⟩) (v := sl g n k) (by simp [go_sem]) (by simp [go_sem])); obtain ⟨r2c, r2z, r2l⟩ := r2.out; have q0 := Hb.mk (At.keep b1 (p := ⟨(w.heap.size + 1), 0, none⟩) (v := .int .i64 0) (by simp [go_sem]) (by simp [go_sem])); obtain ⟨q0c, q0z, q0l⟩ := q0.out; have q1 := Hb.mk (At.keep b1 (p := ⟨(w.heap.size + 1), 1, none⟩) (v := .int .i64 0) (by simp [go_sem]) (by simp [go_sem])); obtain ⟨q1c, q1z, q1l⟩ := q1.out; have q2 := Hb.mk (At.keep b1 (p := ⟨(w.heap.size + 1), 2, none⟩) (v := .slice none 0 0) (by simp [go_sem]) (by simp [go_sem])); obtain ⟨q2c, q2z, q2l⟩ := q2.out; have s1 : w.heap.size + 2 ≤ w1.heap.size := (by have := b1.size; simpa using this); clear b1) | (go_at_call 91; refine (newSearch_any (n := n) (by omega) _).mono ?_; rintro e w2 ⟨a, b, c, d, rfl, sr2, b2⟩; have B2 := Hb.mk (Below.on (B := w.heap.size) (a := w) (by repeat (first | exact B1.out | refine Below.drews ?_ | refine Below.drew ?_ | refine Below.alloc ?_ (by have hq_ := B1.out.size; first | omega | (simp <;> omega)) _ | refine Below.setCell ?_ (by have hq_ := B1.out.size; first | omega | (simp <;> omega)) _)) b2 (by have hq_ := B1.out.size; first | omega | (simp <;> omega))); have r0 := Hb.mk (At.re r0.out b2 (by first | exact r0c | simp [go_sem, r0c, r0l]) (by first | exact r0z | simp [go_sem, r0z, r0l])); obtain ⟨r0c, r0z, r0l⟩ := r0.out; have r1 := Hb.mk (At.re r1.out b2 (by first | exact r1c | simp [go_sem, r1c, r1l]) (by first | exact r1z | simp [go_sem, r1z, r1l])); obtain ⟨r1c, r1z, r1l⟩ := r1.out; have r2 := Hb.mk (At.re r2.out b2 (by first | exact r2c | simp [go_sem, r2c, r2l]) (by first | exact r2z | simp [go_sem, r2z, r2l])); obtain ⟨r2c, r2z, r2l⟩ := r2.out; have q0 := Hb.mk (At.re q0.out b2 (by first | exact q0c | simp [go_sem, q0c, q0l]) (by first | exact q0z | simp [go_sem, q0z, q0l])); obtain ⟨q0c, q0z, q0l⟩ := q0.out; have q1 := Hb.mk (At.re q1.out b2 (by first | exact q1c | simp [go_sem, q1c, q1l]) (by first | exact q1z | simp [go_sem, q1z, q1l])); obtain ⟨q1c, q1z, q1l⟩ := q1.out; have q2 := Hb.mk (At.re q2.out b2 (by first | exact q2c | simp [go_sem, q2c, q2l]) (by first | exact q2z | simp [go_sem, q2z, q2l])); obtain ⟨q2c, q2z, q2l⟩ := q2.out; have SR2 := Hf.mk sr2; clear b2 sr2))
  have l1 := SR2.out.x.lt
  have l2 := SR2.out.y.lt
  have l3 := SR2.out.z.lt
  have l4 := SR2.out.u.lt
  have RC := Hf.mk (Cs.mk r0.out r1.out r2.out)
  have QC := Hf.mk (Cs.mk q0.out q1.out q2.out)
  have X2 := Hf.mk (HX.out.below B2.out)
  clear r0 r1 r2 q0 q1 q2 r0c r1c r2c r0z r1z r2z r0l r1l r2l q0c q1c q2c q0z q1z q2z q0l q1l q2l
  have U3 := Hf.mk (show S4 (w2.alloc (.cells #[sl a n n, sl b n n, sl c n n, sl d n n] 104)) w2.heap.size (sl a n n) (sl b n n) (sl c n n) (sl d n n) from ⟨⟨by simp [go_sem], by simp [go_sem], by simp⟩, ⟨by simp [go_sem], by simp [go_sem], by simp⟩, ⟨by simp [go_sem], by simp [go_sem], by simp⟩, ⟨by simp [go_sem], by simp [go_sem], by simp⟩⟩)
  have SR3 := Hf.mk (SR2.out.below ((Below.refl _ _).alloc (Nat.le_refl _) (.cells #[sl a n n, sl b n n, sl c n n, sl d n n] 104)))
  have RC3 := Hf.mk (RC.out.alloc (.cells #[sl a n n, sl b n n, sl c n n, sl d n n] 104))
  have QC3 := Hf.mk (QC.out.alloc (.cells #[sl a n n, sl b n n, sl c n n, sl d n n] 104))
  have X3 := Hf.mk (X2.out.below ((Below.refl _ _).alloc (Nat.le_refl _) (.cells #[sl a n n, sl b n n, sl c n n, sl d n n] 104)))
  have P3 := Hf.mk (B2.out.alloc B2.out.size (.cells #[sl a n n, sl b n n, sl c n n, sl d n n] 104))
  have s3 : w2.heap.size + 1 = (w2.alloc (.cells #[sl a n n, sl b n n, sl c n n, sl d n n] 104)).heap.size := by simp
  clear SR2 RC QC X2
  generalize (w2.alloc (.cells #[sl a n n, sl b n n, sl c n n, sl d n n] 104)) = w3 at *
  go_loopw [26] (fun iv wr => ∃ (m : Nat) (y : Nat → Value), m ≤ n ∧ iv = .int .i64 m ∧ Hf (Sr wr w1.heap.size a b c d n (fun j => if j < m ∧ edgeB W Hh j = true then fv f j else .float .f32 0) y (bv (fun j => decide (j < m) && edgeB W Hh j)) (bv (fun _ => false))) ∧ Hf (Kp4 a b c d w3 wr)) (fun iv _ => n - (intOf iv).toNat)
  case atStart => exact ⟨0, _, by omega, rfl, ⟨((SR3.out.eqx (fun j _ => (if_neg (fun h => absurd h.1 (Nat.not_lt_zero j))).symm)).eqz (fun j _ => by unfold bv; simp)).equ (fun j _ => rfl)⟩, ⟨Kp4.refl _⟩⟩
  case round =>
    obtain ⟨m, y, hm, rfl, SR, hkp⟩ := hrel
    obtain ⟨W3, hW3⟩ : ∃ W3, W3 = wr := ⟨_, rfl⟩
    subst hW3
    have RC := Hf.mk (hkp.out.cs RC3.out (by omega) (by omega) (by omega) (by omega))
    have d0 := RC.out.x0.cell
    have d1 := RC.out.x1.cell
    have d2 := RC.out.x2.cell
    have U := Hf.mk (hkp.out.s4 U3.out (by omega) (by omega) (by omega) (by omega))
    by_cases hlt : m < n
    · have FM := (X3.out.kp hkp.out (by omega) (by omega) (by omega) (by omega)) m hlt
      cases he : edgeB W Hh m
      · have KED := Hf.mk he
        have EX := Hf.mk (edge_x0 (f := f) he n)
        have EK := Hf.mk (edge_k0 he n)
        clear he
        go_wp2_with (first | (go_at_call 92; refine (isAtEdge_any (g := g) (k := k) HN.out h2 h16 g2 g16 hlt _).mono ?_; rw [KED.out]; rintro e w4 ⟨rfl, b4⟩; have SR4 := Hf.mk (SR.out.below b4); have KP4 := Hf.mk (hkp.out.below b4); have b4s := b4.size; have U4 := Hf.mk ((hkp.out.below b4).s4 U3.out (by omega) (by omega) (by omega) (by omega)); have u0c := U4.out.x0.cell; have u1c := U4.out.x1.cell; have u2c := U4.out.x2.cell; have u3c := U4.out.x3.cell; clear b4))
        go_roundw
        case rel => exact ⟨m + 1, _, by omega, i_ext2 (by omega), ⟨(SR4.out.eqx EX.out).eqz EK.out⟩, KP4⟩
        case measure => simp [intOf]; omega
      · have KED := Hf.mk he
        have EX := Hf.mk (edge_x (f := f) he n)
        have EK := Hf.mk (edge_k he n)
        have KF := Hf.mk (show (decide (m < m) && edgeB W Hh m) = false by rw [decide_eq_false (Nat.lt_irrefl m)]; rfl)
        clear he
        go_wp2_with (first | (go_at_call 92; refine (isAtEdge_any (g := g) (k := k) HN.out h2 h16 g2 g16 hlt _).mono ?_; rw [KED.out]; rintro e w4 ⟨rfl, b4⟩; have SR4 := Hf.mk (SR.out.below b4); have KP4 := Hf.mk (hkp.out.below b4); have b4s := b4.size; have U4 := Hf.mk ((hkp.out.below b4).s4 U3.out (by omega) (by omega) (by omega) (by omega)); have u0c := U4.out.x0.cell; have u1c := U4.out.x1.cell; have u2c := U4.out.x2.cell; have u3c := U4.out.x3.cell; clear b4) | (go_at_call 93; refine (tell_yes_any (base := w1.heap.size) (x := fun j => if j < m ∧ edgeB W Hh j = true then fv f j else .float .f32 0) (y := y) (K := fun j => decide (j < m) && edgeB W Hh j) (u := bv (fun _ => false)) hlt KF.out _ SR4.out).mono ?_; rintro e w6 ⟨rfl, ⟨y6, sr6⟩, _, k6⟩; have SR6 := Hf.mk sr6; have KP6 := Hf.mk (KP4.out.trans k6); clear sr6 k6))
        go_roundw
        case rel => exact ⟨m + 1, _, by omega, i_ext2 (by omega), ⟨(SR6.out.eqx EX.out).eqz EK.out⟩, KP6⟩
        case measure => simp [intOf]; omega
    · obtain rfl : n = m := by omega
      have SRb : Hf (Sr W3 w1.heap.size a b c d n (fv (nvL (fsAt f W Hh n 0))) y (bv (fsAt f W Hh n 0).K) (bv (fsAt f W Hh n 0).D)) := ⟨(SR.out.eqx start_x).eqz start_k⟩
      have HD0 : Hf (Hd f W Hh n 0) := ⟨Hd.zero HF.out⟩
      have u0c := U.out.x0.cell
      have u1c := U.out.x1.cell
      have u2c := U.out.x2.cell
      have u3c := U.out.x3.cell
      clear SR
      go_wp2_with (first | (go_at_call 94; refine (settle_any (base := w1.heap.size) (L := nvL (fsAt f W Hh n 0)) (y := y) (K := (fsAt f W Hh n 0).K) (D := (fsAt f W Hh n 0).D) (by omega) (nvL_fl (HFA.out 0)) _ SRb.out).mono ?_; rw [best_nv HD0.out.iv]; rintro e w6 ⟨rfl, sr6, _, k6⟩; have SR6 := Hf.mk sr6; have KP6 := Hf.mk (hkp.out.trans k6); clear sr6 k6))
      clear u0c u1c u2c u3c d0 d1 d2 RC U SRb hkp SR3
      go_loopw [8] (fun iv wr => ∃ (t : Nat) (y : Nat → Value), iv = .int .i64 ((fsAt f W Hh n t).best n) ∧ Hf (Hd f W Hh n t) ∧ Hf (Sr wr w1.heap.size a b c d n (fv (nvL (fsAt f W Hh n t))) y (bv (fsAt f W Hh n t).K) (bv (fun j => if (j : Int) = (fsAt f W Hh n t).best n then true else (fsAt f W Hh n t).D j))) ∧ Hf (Kp4 a b c d w3 wr)) (fun iv wr => if 0 ≤ intOf iv then n + 1 - cntW wr d n else 0)
      case atStart => exact ⟨0, _, rfl, HD0, SR6, KP6⟩
      case round =>
        clear SR6 KP6
        obtain ⟨t, y, rfl, hHd, SR, hkp⟩ := hrel
        obtain ⟨W3, hW3⟩ : ∃ W3, W3 = wr := ⟨_, rfl⟩
        subst hW3
        have hin := best_in (fsAt f W Hh n t) n
        have KNX := Hf.mk (fun i hi => hHd.out.next (i := i) HN.out (by omega) HF.out hi)
        have KNA := Hf.mk (fun i hi => next_at (f := f) (W := W) (Hh := Hh) (n := n) (t := t) (i := i) hi)
        have KEN := Hf.mk (fun hi => hHd.out.done hi)
        have KAL := Hf.mk (fun hi => hHd.out.all HN.out (by omega) hi)
        have KIV := Hf.mk hHd.out.iv
        have KCT := Hf.mk (fun i hi => (cntW_eq SR.out.u).trans (cnt_head (i := i) hHd.out hi))
        have HFL := Hf.mk (HFA.out t)
        clear hHd
        generalize fsAt f W Hh n t = s at *
        obtain ⟨B, hB⟩ : ∃ B, B = s.best n := ⟨_, rfl⟩
        rw [← hB] at hin SR ⊢
        have RC := Hf.mk (hkp.out.cs RC3.out (by omega) (by omega) (by omega) (by omega))
        have U := Hf.mk (hkp.out.s4 U3.out (by omega) (by omega) (by omega) (by omega))
        have X4 := Hf.mk (X3.out.kp hkp.out (by omega) (by omega) (by omega) (by omega))
        have d0 := RC.out.x0.cell
        have d1 := RC.out.x1.cell
        have d2 := RC.out.x2.cell
        by_cases hb : B < 0
        · have HLf := Hf.mk (KEN.out (by rw [← hB]; exact hb))
          have HAl := Hf.mk (KAL.out (by rw [← hB]; exact hb))
          have SRf := Hf.mk (SR.out.eqx (x' := fv s.L) (fun j hj => by unfold fv; rw [nvL_yes (HAl.out j hj)]))
          have QC := Hf.mk (hkp.out.cs QC3.out (by omega) (by omega) (by omega) (by omega))
          have q0c := QC.out.x0.cell
          have q1c := QC.out.x1.cell
          have q2c := QC.out.x2.cell
          have q0z := QC.out.x0.free
          have q1z := QC.out.x1.free
          have q2z := QC.out.x2.free
          have u0c := U.out.x0.cell
          have PZ := Hf.mk (hkp.out.on P3.out P3.out.size (by omega) (by omega) (by omega) (by omega))
          clear hB KNX KNA KEN KAL KIV KCT hin SR
          go_wp2
          go_loopw [12, 79] (fun cv iv wr => ∃ m : Nat, m ≤ n ∧ cv = .int .i64 (hiC f s.L m) ∧ iv = .int .i64 m ∧ Drew W3 wr) (fun _ iv _ => n - (intOf iv).toNat)
          case atStart => exact ⟨0, by omega, rfl, rfl, (by repeat (first | exact Drew.refl _ | refine Drew.more ?_))⟩
          case round =>
            obtain ⟨m, hm, rfl, rfl, q4, rfl⟩ := hrel
            have hcl := hiC_le (f := f) (L := s.L) (m := m)
            by_cases hlt : m < n
            · have oc := SRf.out.x.cell hlt
              unfold fv at oc
              have fc := X4.out m hlt
              have fl1 := HFL.out m
              have fl2 := HFL0.out m
              cases hc : fcmp .gtr .f32 (s.L m) (f m)
              · have Er := Hf.mk (show hiC f s.L (m + 1) = hiC f s.L m by rw [hiC_succ, hc]; rfl)
                go_wp2_with (first | (refine wpList_fcmp rfl rfl rfl rfl rfl (by first | (with_reducible assumption) | (with_reducible exact Fl.ofInt _ _) | exact Fl.not (by decide +kernel) (by decide +kernel)) (by first | (with_reducible assumption) | (with_reducible exact Fl.ofInt _ _) | exact Fl.not (by decide +kernel) (by decide +kernel)) ?_; simp only [Act.put, List.setIfInBounds_toArray, List.set_cons_succ, List.set_cons_zero, hc]))
                go_roundw
                case rel => exact ⟨m + 1, by omega, i_ext2 (by rw [Er.out]), i_ext2 (by omega), (by repeat (first | exact Drew.refl _ | refine Drew.more ?_))⟩
                case measure => simp [intOf]; omega
              · have Er := Hf.mk (show hiC f s.L (m + 1) = hiC f s.L m + 1 by rw [hiC_succ, hc]; rfl)
                go_wp2_with (first | (refine wpList_fcmp rfl rfl rfl rfl rfl (by first | (with_reducible assumption) | (with_reducible exact Fl.ofInt _ _) | exact Fl.not (by decide +kernel) (by decide +kernel)) (by first | (with_reducible assumption) | (with_reducible exact Fl.ofInt _ _) | exact Fl.not (by decide +kernel) (by decide +kernel)) ?_; simp only [Act.put, List.setIfInBounds_toArray, List.set_cons_succ, List.set_cons_zero, hc]))
                go_roundw
                case rel => exact ⟨m + 1, by omega, i_ext2 (by rw [Er.out]; omega), i_ext2 (by omega), (by repeat (first | exact Drew.refl _ | refine Drew.more ?_))⟩
                case measure => simp [intOf]; omega
            · obtain rfl : n = m := by omega
              go_wp2
              refine bodyPost_ret (v := .tuple #[gd W Hh (sl a n n), .int .i64 (hiC f s.L n), .bool true]) (by simp [results, Try.results48, go_sem, q0c, q1c, q2c]) rfl ?_
              rw [← HLf.out]
              refine ⟨⟨a, n, rfl, OwnV.floats (f := s.L) ?_ (fun j _ => HFL.out j)⟩, ?_⟩
              · exact (((((SRf.out.x.lower (base' := w.heap.size) (by omega)).drews q4).other (by omega) _).other (by omega) _).other (by omega) _)
              · exact Below.setCell (Below.setCell (Below.setCell (Below.drews PZ.out) (by simp) _) (by simp) _) (by simp) _
        · obtain ⟨i, rfl⟩ : ∃ i : Nat, B = (i : Int) := ⟨B.toNat, by omega⟩
          have hi := hB.symm
          have hNX := Hf.mk (KNX.out i hi)
          have hNA := Hf.mk (KNA.out i hi)
          have hCT := Hf.mk (KCT.out i hi)
          have hbest : ∃ m, Iv f n s m ∧ (i < n ∧ s.K i = true ∧ s.D i = false ∧ Iv f n (s.settle i) (sv .f32 (s.L i))) := by
            obtain ⟨m, iv⟩ := KIV.out
            exact ⟨m, iv, iv.best hi⟩
          obtain ⟨m0, iv0, hin3, hKi, hDi, iv2⟩ := hbest
          have IV2 := Hf.mk iv2
          have HKi := Hf.mk hKi
          have HLi := Hf.mk (iv0.fl i hin3)
          replace SR := Hf.mk (SR.out.equ (settle_nv rfl n))
          clear iv0 iv2 hKi hDi hB KNX KNA KEN KAL KIV KCT hi hb hin
          have s3b := hkp.out.size
          go_wp2_with (first | (go_at_call 95; refine (neigh_any (g := g) (k := k) _ HN.out h2 h16 g2 g16 hin3).mono ?_; rintro e w5 ⟨⟨v5, rfl, o5⟩, b5⟩; obtain ⟨a5, k5, rfl, hl5, _⟩ := irow_vown o5; have G5 := Hf.mk o5; have SR5 := Hf.mk (SR.out.below b5); have P5 := Hf.mk (hkp.out.below b5); have s5 := b5.size; clear o5 b5))
          have HLm := Hf.mk (fun x hx => nbs_mem (i := i) (k := x) HN.out (show 0 < W by omega) hx)
          have hLl := nbs_len W Hh i
          have RC5 := Hf.mk (P5.out.cs RC3.out (by omega) (by omega) (by omega) (by omega))
          have U5 := Hf.mk (P5.out.s4 U3.out (by omega) (by omega) (by omega) (by omega))
          have X5 := Hf.mk (X3.out.kp P5.out (by omega) (by omega) (by omega) (by omega))
          clear d0 d1 d2 RC U X4 SR
          have HFs := Hf.mk (around_fl HFL0.out (HFL.out i) (s := s.settle i) · HFL.out)
          generalize nbs W Hh i = L at *
          go_loopw [49] (fun kv wr => ∃ (q : Nat) (y : Nat → Value), q ≤ L.length ∧ kv = .int .i64 q ∧ Hf (Sr wr w1.heap.size a b c d n (fv (nvL ((s.settle i).around f (s.L i) (L.take q)))) y (bv ((s.settle i).around f (s.L i) (L.take q)).K) (bv (s.settle i).D)) ∧ Hf (Kp4 a b c d w5 wr)) (fun kv _ => L.length - (intOf kv).toNat)
          case atStart => exact ⟨0, _, by omega, rfl, SR5, ⟨Kp4.refl _⟩⟩
          case round =>
            clear SR5
            obtain ⟨q, y6, hq, rfl, SR6, hkp6⟩ := hrel
            obtain ⟨W6, hW6⟩ : ∃ W6, W6 = wr := ⟨_, rfl⟩
            subst hW6
            have G6 := Hf.mk (own_kp G5.out hkp6.out (by omega) (by omega) (by omega) (by omega))
            have RC6 := Hf.mk (hkp6.out.cs RC5.out (by omega) (by omega) (by omega) (by omega))
            have U6 := Hf.mk (hkp6.out.s4 U5.out (by omega) (by omega) (by omega) (by omega))
            have d2 := RC6.out.x2.cell
            have u0c := U6.out.x0.cell
            have u1c := U6.out.x1.cell
            have u2c := U6.out.x2.cell
            have u3c := U6.out.x3.cell
            by_cases hlq : q < L.length
            · have IVc := Hf.mk (IV2.out.around (L.take q) (fun x hx => by obtain ⟨y, rfl, hy, _⟩ := HLm.out x (List.mem_of_mem_take hx); rw [Int.toNat_natCast]; exact hy) HF.out HLi.out)
              have KEc := Hf.mk (around_K (f := f) (a := s.L i) (L.take q) (s := s.settle i) HKi.out)
              have KTc := Hf.mk (around_take (f := f) (a := s.L i) (s := s.settle i) hlq)
              have FSC := Hf.mk (HFs.out (L.take q))
              obtain ⟨p6, rfl, cc⟩ := irow_of G6.out q hlq
              obtain ⟨j, hj, hjn, _⟩ := HLm.out (L.getD q 0) (by rw [List.getD, List.getElem?_eq_getElem hlq]; exact List.getElem_mem hlq)
              rw [hj] at cc KTc
              rw [Int.toNat_natCast] at KTc
              clear hj
              have ea : (s.settle i).L i = s.L i := rfl
              generalize (s.settle i).around f (s.L i) (L.take q) = sc at *
              have FJ := (X5.out.kp hkp6.out (by omega) (by omega) (by omega) (by omega)) j hjn
              have OI := SR6.out.x.cell hin3
              unfold fv at OI
              rw [nvL_yes KEc.out.1, KEc.out.2, ea] at OI
              clear ea
              have fl1 := HFL.out i
              have fl2 := HFL0.out j
              have NJ := Hf.mk (FSC.out j)
              cases hg : fcmp .gtr .f32 (s.L i) (f j)
              · cases hk : sc.K j
                · have EL := Hf.mk (show lvl f (s.L i) j = f j by unfold lvl; rw [hg]; rfl)
                  have TX := Hf.mk (upd_fv (n := n) (tell_nv (f := f) (a := s.L i) hk))
                  rw [EL.out] at TX
                  have KT2 := Hf.mk (KTc.out.trans (tell_no hk))
                  go_wp2_with (first | (refine wpList_fcmp rfl rfl rfl rfl rfl (by first | (with_reducible assumption) | (with_reducible exact Fl.ofInt _ _) | exact Fl.not (by decide +kernel) (by decide +kernel)) (by first | (with_reducible assumption) | (with_reducible exact Fl.ofInt _ _) | exact Fl.not (by decide +kernel) (by decide +kernel)) ?_; simp only [Act.put, List.setIfInBounds_toArray, List.set_cons_succ, List.set_cons_zero, hg]) | (go_at_call 93; refine (tell_yes_any (base := w1.heap.size) (x := fv (nvL sc)) (y := y6) (K := sc.K) (u := bv (s.settle i).D) hjn hk _ SR6.out).mono ?_; rintro e w7 ⟨rfl, ⟨y7, sr7⟩, _, k7⟩; have SR7 := Hf.mk sr7; have KP7 := Hf.mk (hkp6.out.trans k7); clear sr7 k7))
                  go_roundw
                  case rel => exact ⟨q + 1, _, by omega, i_ext2 (by omega), ⟨by rw [KTc.out]; exact (SR7.out.eqx TX.out).eqz (fun x _ => by rw [tell_no hk])⟩, KP7⟩
                  case measure => simp [intOf]; omega
                · have EL := Hf.mk (show lvl f (s.L i) j = f j by unfold lvl; rw [hg]; rfl)
                  have NL := Hf.mk (show fcmp .lss .f32 (f j) (sc.L j) = false by rw [← EL.out]; exact IVc.out.not HF.out HLi.out hjn hk)
                  have KT2 := Hf.mk (KTc.out.trans (tell_yes hk))
                  have FLV := Hf.mk fl2
                  go_wp2_with (first | (refine wpList_fcmp rfl rfl rfl rfl rfl (by first | (with_reducible assumption) | (with_reducible exact Fl.ofInt _ _) | exact Fl.not (by decide +kernel) (by decide +kernel)) (by first | (with_reducible assumption) | (with_reducible exact Fl.ofInt _ _) | exact Fl.not (by decide +kernel) (by decide +kernel)) ?_; simp only [Act.put, List.setIfInBounds_toArray, List.set_cons_succ, List.set_cons_zero, hg]) | (go_at_call 93; refine (tell_no_any (base := w1.heap.size) (N := sc.L j) (x := fv (nvL sc)) (y := y6) (K := sc.K) (u := bv (s.settle i).D) hjn hk (by unfold fv nvL; rw [if_pos hk]) NJ.out FLV.out NL.out _ SR6.out).mono ?_; rintro e w7 ⟨rfl, b7⟩; have SR7 := Hf.mk (SR6.out.below b7); have KP7 := Hf.mk (hkp6.out.below b7); clear b7))
                  go_roundw
                  case rel => exact ⟨q + 1, _, by omega, i_ext2 (by omega), ⟨by rw [KT2.out]; exact SR7.out⟩, KP7⟩
                  case measure => simp [intOf]; omega
              · cases hk : sc.K j
                · have EL := Hf.mk (show lvl f (s.L i) j = s.L i by unfold lvl; rw [hg]; rfl)
                  have TX := Hf.mk (upd_fv (n := n) (tell_nv (f := f) (a := s.L i) hk))
                  rw [EL.out] at TX
                  have KT2 := Hf.mk (KTc.out.trans (tell_no hk))
                  go_wp2_with (first | (refine wpList_fcmp rfl rfl rfl rfl rfl (by first | (with_reducible assumption) | (with_reducible exact Fl.ofInt _ _) | exact Fl.not (by decide +kernel) (by decide +kernel)) (by first | (with_reducible assumption) | (with_reducible exact Fl.ofInt _ _) | exact Fl.not (by decide +kernel) (by decide +kernel)) ?_; simp only [Act.put, List.setIfInBounds_toArray, List.set_cons_succ, List.set_cons_zero, hg]) | (go_at_call 93; refine (tell_yes_any (base := w1.heap.size) (x := fv (nvL sc)) (y := y6) (K := sc.K) (u := bv (s.settle i).D) hjn hk _ SR6.out).mono ?_; rintro e w7 ⟨rfl, ⟨y7, sr7⟩, _, k7⟩; have SR7 := Hf.mk sr7; have KP7 := Hf.mk (hkp6.out.trans k7); clear sr7 k7))
                  go_roundw
                  case rel => exact ⟨q + 1, _, by omega, i_ext2 (by omega), ⟨by rw [KTc.out]; exact (SR7.out.eqx TX.out).eqz (fun x _ => by rw [tell_no hk])⟩, KP7⟩
                  case measure => simp [intOf]; omega
                · have EL := Hf.mk (show lvl f (s.L i) j = s.L i by unfold lvl; rw [hg]; rfl)
                  have NL := Hf.mk (show fcmp .lss .f32 (s.L i) (sc.L j) = false by rw [← EL.out]; exact IVc.out.not HF.out HLi.out hjn hk)
                  have KT2 := Hf.mk (KTc.out.trans (tell_yes hk))
                  have FLV := Hf.mk fl1
                  go_wp2_with (first | (refine wpList_fcmp rfl rfl rfl rfl rfl (by first | (with_reducible assumption) | (with_reducible exact Fl.ofInt _ _) | exact Fl.not (by decide +kernel) (by decide +kernel)) (by first | (with_reducible assumption) | (with_reducible exact Fl.ofInt _ _) | exact Fl.not (by decide +kernel) (by decide +kernel)) ?_; simp only [Act.put, List.setIfInBounds_toArray, List.set_cons_succ, List.set_cons_zero, hg]) | (go_at_call 93; refine (tell_no_any (base := w1.heap.size) (N := sc.L j) (x := fv (nvL sc)) (y := y6) (K := sc.K) (u := bv (s.settle i).D) hjn hk (by unfold fv nvL; rw [if_pos hk]) NJ.out FLV.out NL.out _ SR6.out).mono ?_; rintro e w7 ⟨rfl, b7⟩; have SR7 := Hf.mk (SR6.out.below b7); have KP7 := Hf.mk (hkp6.out.below b7); clear b7))
                  go_roundw
                  case rel => exact ⟨q + 1, _, by omega, i_ext2 (by omega), ⟨by rw [KT2.out]; exact SR7.out⟩, KP7⟩
                  case measure => simp [intOf]; omega
            · obtain rfl : q = L.length := by omega
              rw [List.take_length] at SR6
              rw [← hNA.out] at SR6
              have SR8 : Hf (Sr W6 w1.heap.size a b c d n (fv (nvL (fsAt f W Hh n (t + 1)))) y6 (bv (fsAt f W Hh n (t + 1)).K) (bv (fsAt f W Hh n (t + 1)).D)) := ⟨by
                have e : (fsAt f W Hh n (t + 1)).D = (s.settle i).D := by rw [hNA.out, around_D]
                rw [e]
                exact SR6.out⟩
              have htn := hNX.out.2
              have KC2 := Hf.mk (fun j hj => cnt_head (i := j) hNX.out.1 hj)
              have hin9 := best_in (fsAt f W Hh n (t + 1)) n
              go_wp2_with (first | (go_at_call 94; refine (settle_any (base := w1.heap.size) (L := nvL (fsAt f W Hh n (t + 1))) (y := y6) (K := (fsAt f W Hh n (t + 1)).K) (D := (fsAt f W Hh n (t + 1)).D) (by omega) (nvL_fl (HFA.out (t + 1))) _ SR8.out).mono ?_; rw [best_nv hNX.out.1.iv]; rintro e w8 ⟨rfl, sr8, _, k8⟩; have SR9 := Hf.mk sr8; have KP9 := Hf.mk ((P5.out.trans hkp6.out).trans k8); clear sr8 k8))
              have CW := Hf.mk (cntW_eq SR9.out.u)
              go_roundw
              case rel => exact ⟨t + 1, _, rfl, ⟨hNX.out.1⟩, SR9, KP9⟩
              case measure =>
                rw [CW.out, hCT.out]
                show (if 0 ≤ (fsAt f W Hh n (t + 1)).best n then n + 1 - cntD (fun j => if (j : Int) = (fsAt f W Hh n (t + 1)).best n then true else (fsAt f W Hh n (t + 1)).D j) n else 0) < (if 0 ≤ (i : Int) then n + 1 - (t + 1) else 0)
                by_cases h9 : 0 ≤ (fsAt f W Hh n (t + 1)).best n
                · obtain ⟨j9, hj9⟩ : ∃ j9 : Nat, (fsAt f W Hh n (t + 1)).best n = (j9 : Int) := ⟨((fsAt f W Hh n (t + 1)).best n).toNat, by omega⟩
                  rw [KC2.out j9 hj9, if_pos h9, if_pos (by omega)]
                  omega
                · rw [if_neg h9, if_pos (by omega)]
                  omega
end Go.Proofs.Ytcgmffpddahgoab
