/-
  SolveEven, of the program: its helpers. No premise beyond those named.
-/
import Derived.Test.YtconlpgifkknmabEvs
import Derived.Test.YtconlpgifkknmabTol
import Derived.Laws.AppendOwn
namespace Go.Proofs.Ytconlpgifkknmab
open Go Go.RowKit
set_option maxRecDepth 100000

theorem areF_any {g m k : Nat} {f : Nat → Nat} (w : World) (h : Told w g m f) (hl : m ≤ 1048576) : Calls Try.prog 56 #[.slice (some ⟨g, 0, none⟩) m k, .func (.func 53) #[] #[]] w (RB (finB m f) w) := by
  have H := Hf.mk h
  clear h
  go_enter Try.func56, Try.ntmps56
  go_wp2
  go_loopw [9] (fun i wr => ∃ d : Nat, d ≤ m ∧ i = .int .i64 d ∧ Hf (∀ j, j < d → fin .f32 (f j) = true) ∧ Drew w wr) (fun i _ => m - (intOf i).toNat)
  case atStart => exact ⟨0, by omega, rfl, ⟨fun j hj => absurd hj (Nat.not_lt_zero j)⟩, (by repeat (first | exact Drew.refl _ | refine Drew.more ?_))⟩
  case round =>
    obtain ⟨d, hd, rfl, ha, q, rfl⟩ := hrel
    by_cases hlt : d < m
    · obtain ⟨r, hc, hf⟩ := H.out d hlt
      cases hv : fin .f32 (f d)
      · have KR := Hf.mk (finB_no hlt hv)
        have HV := Hf.mk hv
        clear hv
        go_wp2_with (first | (go_at_call 53; refine (iIsFinite_any hf _).mono ?_; rw [HV.out]; rintro e w' ⟨rfl, n1, rfl⟩))
        go_ret
        rw [KR.out]
        exact RB.any rfl (by repeat (first | exact Drew.refl _ | refine Drew.more ?_))
      · have KS := Hf.mk (show ∀ j, j < d + 1 → fin .f32 (f j) = true from fun j hj => by
          by_cases he : j = d
          · rw [he]; exact hv
          · exact ha.out j (by omega))
        have HV := Hf.mk hv
        clear hv
        go_wp2_with (first | (go_at_call 53; refine (iIsFinite_any hf _).mono ?_; rw [HV.out]; rintro e w' ⟨rfl, n1, rfl⟩))
        go_roundw
        case rel => exact ⟨d + 1, by omega, i_ext2 (by omega), KS, (by repeat (first | exact Drew.refl _ | refine Drew.more ?_))⟩
        case measure => simp [intOf]; omega
    · obtain rfl : d = m := by omega
      have KR := Hf.mk (finB_yes ha.out)
      go_wp2
      go_ret
      rw [KR.out]
      exact RB.any rfl (by repeat (first | exact Drew.refl _ | refine Drew.more ?_))
theorem allF_yes {g m k : Nat} {f : Nat → Nat} (w : World) (h : Told w g m f) (hl : m ≤ 1048576) (hf : finB m f = true) : Calls Try.prog 60 #[.slice (some ⟨g, 0, none⟩) m k, .func (.func 53) #[] #[]] w (RT (.tuple #[.slice (some ⟨g, 0, none⟩) m k, .bool true]) w) := by
  have HA := Hf.mk (areF_any (k := k) w h hl)
  rw [hf] at HA
  clear h hf
  go_enter Try.func60, Try.ntmps60
  go_wp2_with (first | (go_at_call 56; refine HA.out.mono ?_; rintro e w' ⟨rfl, n1, rfl⟩))
  go_ret2
  exact RT.any (by repeat (first | exact Drew.refl _ | refine Drew.more ?_))
theorem allF_no {g m k : Nat} {f : Nat → Nat} (w : World) (h : Told w g m f) (hl : m ≤ 1048576) (hf : finB m f = false) : Calls Try.prog 60 #[.slice (some ⟨g, 0, none⟩) m k, .func (.func 53) #[] #[]] w (RT (.tuple #[.slice none 0 0, .bool false]) w) := by
  have HA := Hf.mk (areF_any (k := k) w h hl)
  rw [hf] at HA
  clear h hf
  go_enter Try.func60, Try.ntmps60
  go_wp2_with (first | (go_at_call 56; refine HA.out.mono ?_; rintro e w' ⟨rfl, n1, rfl⟩))
  go_ret2
  exact RT.any (by repeat (first | exact Drew.refl _ | refine Drew.more ?_))
theorem FRow.cellsF {w : World} {g : Nat} {ys : List Nat} (h : FRow w (some ⟨g, 0, none⟩) ys) : ∀ j u, (fls ys)[j]? = some u → w.cell? ((⟨g, 0, none⟩ : Addr).add j) = some u := by
  intro j u hu
  have hj : j < ys.length := by
    have := (List.getElem?_eq_some_iff.1 hu).1
    simpa [fls] using this
  obtain ⟨p, hp, hc⟩ := h j hj
  obtain rfl := Option.some.inj hp
  rw [hc, ← hu]
  simp [fls, List.getElem?_map, List.getElem?_eq_getElem hj]
theorem fls_one {xs : List Nat} : ∀ u ∈ fls xs, u.oneCell' = true := by
  intro u hu
  simp only [fls, List.mem_map] at hu
  obtain ⟨x, _, rfl⟩ := hu
  rfl
theorem cloneF_any {g n k : Nat} {xs : List Nat} (w : World) (hr : FRow w (some ⟨g, 0, none⟩) xs) (hw : Wf xs) (hn : xs.length = n) (hl : n ≤ 1048576) (h0 : 0 < n) : Calls Try.prog 58 #[.slice (some ⟨g, 0, none⟩) n k] w (fun e w' => ∃ gc cap, e = .returned (.slice (some ⟨gc, 0, none⟩) n cap) ∧ n ≤ cap ∧ Own w' w.heap.size 41 gc cap n (fun j => nrm .f32 (xs.getD j 0)) ∧ Below w.heap.size w w') := by
  obtain ⟨i0, hi, hz0, hz1, hz2⟩ := info_parts (P := Try.prog) (e := 41) (z := .float .f32 0) (size := 1) (bytes := 4) (by kernel_rfl)
  have HR := Hf.mk hr
  have HN := Hf.mk hn
  have HW := Hf.mk hw
  clear hr hn hw
  go_enter Try.func58, Try.ntmps58
  have he : ∀ w : World, (binOp .eql 40 (.slice (some ⟨g, 0, none⟩) n k) (.slice none 0 0)).run Try.prog w = .ok (.bool false) w := fun _ => rfl
  go_wp2_with (at_builtin; refine wpList_append_own _ rfl _ _ 40 rfl w.heap.size 41 i0 (.float .f32 0) 1 4 Try.underlying40 hi hz0 hz1 hz2 rfl (by decide) _ 0 [] rfl (World.ownsRow_made _ _ _ (Nat.le_refl _) (by decide) rfl) ⟨g, 0, none⟩ n k (fls xs) rfl (by simp [fls, HN.out]) (fun j u hu => (HR.out.below (by repeat (first | exact Below.refl _ _ | with_reducible assumption | refine Below.drews ?_ | refine Below.drew ?_ | refine Below.alloc ?_ (by simp <;> omega) _ | refine Below.setCell ?_ (by simp <;> omega) _))).cellsF j u hu) fls_one (by unfold maxLen; omega) (by omega) (by simp) ?_; intro v' w3 hown' hgrow3 hnil3)
  go_ret
  simp only [Nat.zero_add, List.nil_append] at hown'
  obtain ⟨gc, cap, rfl, _, _⟩ := own_shf hown' h0
  have hcap : n ≤ cap := by
    rcases hown'.2 with ⟨h, _⟩ | ⟨g', cap', cur, hv, _, _, hc, _⟩
    · cases h
    · cases hv; exact hc
  exact ⟨gc, cap, rfl, hcap, Own.of hown' HW.out, Below.grown (by repeat (first | exact Below.refl _ _ | with_reducible assumption | refine Below.drews ?_ | refine Below.drew ?_ | refine Below.alloc ?_ (by simp <;> omega) _ | refine Below.setCell ?_ (by simp <;> omega) _)) hgrow3 (by simp) (fun k h => by cases h; exact Nat.le_refl _)⟩
theorem lessP_any {ga oa gb ob m mb ca cb cs s : Nat} {f g : Nat → Nat} (w : World) (hs : Fl .f32 cs s) (ha : ∀ j, j < m → ∃ r, w.cell? ⟨ga, oa + j, none⟩ = some (.float .f32 r) ∧ Fl .f32 (f j) r) (hb : ∀ j, j < m → ∃ r, w.cell? ⟨gb, ob + j, none⟩ = some (.float .f32 r) ∧ Fl .f32 (g j) r) (hm : m ≤ mb) (hl : m ≤ 1000) : Calls Try.prog 59 #[.float .f32 s, .slice (some ⟨ga, oa, none⟩) m ca, .slice (some ⟨gb, ob, none⟩) mb cb] w (RF .f32 (lpF f g cs m) w) := by
  have HA := Hf.mk ha
  have HB := Hf.mk hb
  clear ha hb
  go_enter Try.func59, Try.ntmps59
  go_wp2
  go_loopw [11, 0] (fun i sv wr => ∃ (d x : Nat), d ≤ m ∧ i = .int .i64 d ∧ sv = .float .f32 x ∧ Fl .f32 (lpF f g cs d) x ∧ Drew w wr) (fun i _ _ => m - (intOf i).toNat)
  case atStart => exact ⟨0, _, by omega, rfl, rfl, hs, (by repeat (first | exact Drew.refl _ | refine Drew.more ?_))⟩
  case round =>
    obtain ⟨d, x, hd, rfl, rfl, hx, q, rfl⟩ := hrel
    by_cases hlt : d < m
    · obtain ⟨r1, c1, f1⟩ := HA.out d hlt
      obtain ⟨r2, c2, f2⟩ := HB.out d hlt
      have tk_p : True := trivial; have tk_q2 : True := trivial
      go_wp2_with (first | (clear tk_p; refine wpList_fop rfl rfl rfl rfl rfl (by first | (with_reducible assumption) | (with_reducible exact Fl.ofInt _ _) | exact Fl.not (by decide +kernel) (by decide +kernel)) (by first | (with_reducible assumption) | (with_reducible exact Fl.ofInt _ _) | exact Fl.not (by decide +kernel) (by decide +kernel)) ?_; intro p n_p h_p; simp only [Act.put, List.setIfInBounds_toArray, List.set_cons_succ, List.set_cons_zero]) | (clear tk_q2; refine wpList_fop rfl rfl rfl rfl rfl (by first | (with_reducible assumption) | (with_reducible exact Fl.ofInt _ _) | exact Fl.not (by decide +kernel) (by decide +kernel)) (by first | (with_reducible assumption) | (with_reducible exact Fl.ofInt _ _) | exact Fl.not (by decide +kernel) (by decide +kernel)) ?_; intro q2 n_q2 h_q2; simp only [Act.put, List.setIfInBounds_toArray, List.set_cons_succ, List.set_cons_zero]))
      go_roundw
      case rel => exact ⟨d + 1, _, by omega, i_ext2 (by omega), rfl, h_q2, (by repeat (first | exact Drew.refl _ | refine Drew.more ?_))⟩
      case measure => simp [intOf]; omega
    · obtain rfl : d = m := by omega
      go_wp2
      go_ret
      exact RF.any hx (by repeat (first | exact Drew.refl _ | refine Drew.more ?_))
set_option maxHeartbeats 4000000 in
theorem rowsOf_any {g n N cap : Nat} (w : World) (hN : N = n * n) (h1 : 1 ≤ n) (h10 : n ≤ 10) (hc : N ≤ cap) (_hg : g < w.heap.size) : Calls Try.prog 65 #[.slice (some ⟨g, 0, none⟩) N cap, .int .i64 n] w (fun e w' => ∃ gr, e = .returned (.slice (some ⟨gr, 0, none⟩) n n) ∧ w.heap.size ≤ gr ∧ (∀ j, j < n → w'.cell? ⟨gr, j, none⟩ = some (.slice (some ⟨g, j * n, none⟩) n n)) ∧ Below w.heap.size w w') := by
  obtain ⟨i0, hi, hz0, hz1, hz2⟩ := info_parts (P := Try.prog) (e := 40) (z := .slice none 0 0) (size := 1) (bytes := 24) (by kernel_rfl)
  have HN := Hf.mk hN
  clear hN
  go_enter Try.func65, Try.ntmps65
  go_wp2_with (at_make; refine wpList_make_full _ rfl _ _ 77 rfl w.heap.size 40 i0 _ 1 Try.underlying77 hi hz0 hz1 .i64 .i64 _ _ n rfl rfl rfl rfl (by rw [hz2]; omega) (by unfold maxLen; omega) (Nat.le_refl _) ?_; intro w0 hown0 hgrow0)
  go_loopw [11] (fun i wr => ∃ (m : Nat) (cu : List Value), m ≤ n ∧ i = .int .i64 m ∧ Hf (wr.ownsRow w.heap.size 40 1 (.slice (some ⟨w.heap.size, 0, none⟩) n n) n cu) ∧ Hf (∀ j, j < m → cu[j]? = some (.slice (some ⟨g, j * n, none⟩) n n)) ∧ Hf (Below w.heap.size w wr)) (fun i _ => n - (intOf i).toNat)
  case atStart => exact ⟨0, _, by omega, rfl, ⟨hown0⟩, ⟨fun j hj => absurd hj (Nat.not_lt_zero j)⟩, ⟨(Below.refl _ _).grown hgrow0 (Nat.le_refl _) (fun k h => by cases h)⟩⟩
  case round =>
    obtain ⟨m, cu, hm, rfl, hown, hcur, hbel⟩ := hrel
    by_cases hlt : m < n
    · have hlen : cu.length = n * 1 := hown.out.1
      obtain ⟨old0, hold0⟩ : ∃ old, cu[m]? = some old := ⟨_, List.getElem?_eq_getElem (by omega)⟩
      have d0 : wr.cell? ⟨w.heap.size, m, none⟩ = some old0 := (hown.out.cellAt m (by omega)).trans hold0
      have z0 := hown.out.frozenAt m
      obtain ⟨p, hp⟩ : ∃ p : Nat, p = m * n := ⟨_, rfl⟩
      have hpI : (m : Int) * (n : Int) = (p : Int) := by rw [hp]; simp
      have hqI : ((m : Int) + 1) * (n : Int) = (p : Int) + (n : Int) := by rw [Int.add_mul, Int.one_mul, hpI]
      have hpN : p + n ≤ N := by rw [HN.out, hp]; have := Nat.mul_le_mul_right n (show m + 1 ≤ n from hlt); rw [Nat.add_mul, Nat.one_mul] at this; exact this
      have hN100 : N ≤ 100 := by rw [HN.out]; exact Nat.mul_le_mul h10 h10
      have HP := Hf.mk hp
      clear hold0 hp
      go_wp2
      go_roundw
      case rel =>
        have hst := hown.out.stored m (.slice (some ⟨g, p, none⟩) n n)
        refine ⟨m + 1, _, by omega, i_ext2 (by omega), ⟨hst.1⟩, ⟨fun j hj => ?_⟩, ⟨Below.setCell (p := ⟨w.heap.size, m, none⟩) hbel.out (Nat.le_refl _) _⟩⟩
        by_cases he : j = m
        · subst he; rw [List.getElem?_set_self (by omega), HP.out]
        · rw [List.getElem?_set_ne (by omega)]; exact hcur.out j (by omega)
      case measure => simp [intOf]; omega
    · obtain rfl : m = n := by omega
      go_wp2
      go_ret
      refine ⟨_, rfl, Nat.le_refl _, fun j hj => ?_, hbel.out⟩
      rw [hown.out.cellAt j (by omega)]
      exact hcur.out j hj
/-- a quotient of what a call yields and a float that is there, in every world -/
theorem fopQ (P : Program) {op : BinOp} (ha : arithOp op = true) (t : TypeId) {cx cy y : Nat} (hy : Fl .f32 cy y) :
    ∃ R N : Nat → World → Nat, (∀ x w, Fl .f32 cx x → (binOp op t (.float .f32 x) (.float .f32 y)).run P w = .ok (.float .f32 (R x w)) (w.drewN (N x w))) ∧ ∀ x w, Fl .f32 cx x → Fl .f32 (fop op .f32 cx cy) (R x w) := by
  have h : ∀ (x : Nat) (w : World), ∃ rn : Nat × Nat, Fl .f32 cx x → ((binOp op t (.float .f32 x) (.float .f32 y)).run P w = .ok (.float .f32 rn.1) (w.drewN rn.2) ∧ Fl .f32 (fop op .f32 cx cy) rn.1) := by
    intro x w
    by_cases hx : Fl .f32 cx x
    · obtain ⟨r, n, h1, h2⟩ := fop_run (P := P) w ha t hx hy
      exact ⟨(r, n), fun _ => ⟨h1, h2⟩⟩
    · exact ⟨(0, 0), fun h => absurd h hx⟩
  exact ⟨fun x w => (Classical.choose (h x w)).1, fun x w => (Classical.choose (h x w)).2, fun x w hx => (Classical.choose_spec (h x w) hx).1, fun x w hx => (Classical.choose_spec (h x w) hx).2⟩
theorem cell_off {W : World} {b j g q z : Nat} {v : Value} (h : b ≠ g) : ((W.drewN z).setCell ⟨g, q, none⟩ v).cell? ⟨b, j, none⟩ = W.cell? ⟨b, j, none⟩ := World.cell?_of_block (w := W) (Below.heap_setCell (W.drewN z) ⟨g, q, none⟩ v b h)
def RQ (T : TypeId) (ok : Bool) (n N : Nat) (M : Nat → Nat → Nat) (w : World) (e : Ending) (w' : World) : Prop :=
  (ok = true ∧ (∃ gr gs cap f, e = .returned (.tuple #[.slice (some ⟨gr, 0, none⟩) n n, .bool true]) ∧ (∀ j, j < n → w'.cell? ⟨gr, j, none⟩ = some (.slice (some ⟨gs, j * n, none⟩) n n)) ∧ Own w' w.heap.size T gs cap N f ∧ (∀ x y, x < n → y ≤ x → f (x * n + y) = M x y)) ∧ Below w.heap.size w w') ∨ (ok = false ∧ e = .returned (.tuple #[.slice none 0 0, .bool false]) ∧ Below w.heap.size w w')
set_option maxHeartbeats 8000000 in
theorem rootSq_any {ga n N k1 : Nat} {xs : List Nat} (w : World) (hr : FRow w (some ⟨ga, 0, none⟩) xs) (hw : Wf xs) (hN : N = n * n) (hx : xs.length = N) (h1 : 1 ≤ n) (h10 : n ≤ 10) {M : Nat → Nat → Nat} (hM : Rt (sqF xs n) n M) : Calls Try.prog 57 #[.slice (some ⟨ga, 0, none⟩) N k1, .int .i64 n] w (RQ 41 (goodB (sqF xs n) M n) n N M w) := by
  have HR := Hf.mk hr
  have HW := Hf.mk hw
  have HX := Hf.mk hx
  have HM := Hf.mk hM
  have HN := Hf.mk hN
  have hNN : N ≤ 100 := by rw [hN]; exact Nat.mul_le_mul h10 h10
  have hN0 : 0 < N := by rw [hN]; exact Nat.mul_pos h1 h1
  clear hr hw hx hM hN
  go_enter Try.func57, Try.ntmps57
  go_wp2_with (first
    | (go_at_call 58; refine (cloneF_any _ HR.out HW.out HX.out (by omega) hN0).mono ?_; rintro e w1 ⟨gs, cap, rfl, hcap, o1, b1⟩; have O1 := Hf.mk o1; have B1 := Hb.mk b1; have l1 := o1.lt; clear o1 b1)
    | (go_at_call 65; refine (rowsOf_any _ HN.out h1 h10 hcap l1.2).mono ?_; rintro e w2 ⟨gr, rfl, lgr, cr, b2⟩; have O2 := Hf.mk (O1.out.below b2); have B2 := Hb.mk (Below.on (B := w.heap.size) (a := w) (by repeat (first | exact B1.out | refine Below.drews ?_ | refine Below.drew ?_ | refine Below.alloc ?_ (by have hq_ := B1.out.size; first | omega | (simp <;> omega)) _ | refine Below.setCell ?_ (by have hq_ := B1.out.size; first | omega | (simp <;> omega)) _)) b2 (by have hq_ := B1.out.size; first | omega | (simp <;> omega))); have CR := Hf.mk cr; clear cr b2))
  have hgg : gs ≠ gr := by omega
  go_loopw [17] (fun i wr => ∃ a : Nat, a ≤ n ∧ i = .int .i64 a ∧ Hf (∃ f, Own wr w.heap.size 41 gs cap N f ∧ (∀ x y, x < a → y ≤ x → f (x * n + y) = M x y) ∧ ∀ x y, a ≤ x → x < n → y < n → f (x * n + y) = sqF xs n x y) ∧ Hf (∀ x, x < a → fcmp .gtr .f32 (pivF (sqF xs n) M x) 0 = true) ∧ Hf (∀ j, j < n → wr.cell? ⟨gr, j, none⟩ = some (.slice (some ⟨gs, j * n, none⟩) n n)) ∧ Hf (Below w.heap.size w wr)) (fun i _ => n - (intOf i).toNat)
  case atStart => exact ⟨0, by omega, rfl, ⟨⟨_, O2.out, fun x y h => absurd h (Nat.not_lt_zero x), fun x y _ hx hy => rfl⟩⟩, ⟨fun x h => absurd h (Nat.not_lt_zero x)⟩, CR, ⟨B2.out⟩⟩
  case round =>
    obtain ⟨a, ha, rfl, hf1, hg1, hcr1, hb1⟩ := hrel
    obtain ⟨W1, hW1⟩ : ∃ W1, W1 = wr := ⟨_, rfl⟩
    subst hW1
    by_cases hlt : a < n
    · obtain ⟨p, hp⟩ : ∃ p : Nat, p = a * n := ⟨_, rfl⟩
      have hpN : p + n ≤ N := by rw [HN.out, hp]; have := Nat.mul_le_mul_right n (show a + 1 ≤ n from hlt); rw [Nat.add_mul, Nat.one_mul] at this; exact this
      have ca := hcr1.out a hlt
      rw [← hp] at ca
      have HP := Hf.mk hp
      clear hp
      go_wp2
      go_loopw [23] (fun k wr => ∃ c : Nat, c ≤ a ∧ k = .int .i64 c ∧ Hf (∃ f, Own wr w.heap.size 41 gs cap N f ∧ (∀ x y, x < a → y ≤ x → f (x * n + y) = M x y) ∧ (∀ x y, a + 1 ≤ x → x < n → y < n → f (x * n + y) = sqF xs n x y) ∧ (∀ y, y < c → f (p + y) = M a y) ∧ ∀ y, c ≤ y → y < n → f (p + y) = sqF xs n a y) ∧ Hf (∀ j, j < n → wr.cell? ⟨gr, j, none⟩ = some (.slice (some ⟨gs, j * n, none⟩) n n)) ∧ Hf (Below w.heap.size w wr)) (fun k _ => a - (intOf k).toNat)
      case atStart =>
        refine ⟨0, by omega, rfl, ⟨?_⟩, hcr1, hb1⟩
        obtain ⟨f, ho, hf, hg⟩ := hf1.out
        exact ⟨f, ho, hf, fun x y h => hg x y (by omega), fun y h => absurd h (Nat.not_lt_zero y), fun y _ hy => by rw [HP.out]; exact hg a y (Nat.le_refl _) hlt hy⟩
      case round =>
        obtain ⟨c, hc, rfl, hf2, hcr2, hb2⟩ := hrel
        obtain ⟨W2, hW2⟩ : ∃ W2, W2 = wr := ⟨_, rfl⟩
        subst hW2
        obtain ⟨f, hO, hF1, hF2, hF3, hF4⟩ := hf2.out
        have HO := Hf.mk hO
        have HF1 := Hf.mk hF1
        have HF2 := Hf.mk hF2
        have HF3 := Hf.mk hF3
        have HF4 := Hf.mk hF4
        clear hO hF1 hF2 hF3 hF4
        have hD1 : ∀ (W : World) (x : Addr), W.drew.cell? x = W.cell? x := fun _ _ => rfl
        have hD2 : ∀ (W : World) (n : Nat) (x : Addr), (W.drewN n).cell? x = W.cell? x := fun _ _ _ => rfl
        obtain ⟨r0, k0, g0⟩ := HO.out.cell (show p + c < N by omega)
        rw [HF4.out c (Nat.le_refl _) (by omega)] at g0
        have z0 := HO.out.free (p + c)
        have lO := HO.out.lt
        have CA := Hf.mk (fun (q : Nat) (j : Nat) (hj : j < c) => by
          obtain ⟨r, hc1, hf1⟩ := HO.out.cell (show p + j < N by omega)
          rw [HF3.out j hj] at hf1
          exact ⟨r, hc1, hf1⟩ : ∀ q j, j < c → ∃ r, (W2.drewN q).cell? ⟨gs, p + j, none⟩ = some (.float .f32 r) ∧ Fl .f32 (M a j) r)
        by_cases hca : c < a
        · obtain ⟨q, hq⟩ : ∃ q : Nat, q = c * n := ⟨_, rfl⟩
          have hqN : q + n ≤ N := by rw [HN.out, hq]; have := Nat.mul_le_mul_right n (show c + 1 ≤ n by omega); rw [Nat.add_mul, Nat.one_mul] at this; exact this
          have cc := hcr2.out c (by omega)
          rw [← hq] at cc
          have HQ := Hf.mk hq
          clear hq
          have CC := Hf.mk (fun (z : Nat) (j : Nat) (hj : j < c) => by
            obtain ⟨r, hc1, hf1⟩ := HO.out.cell (show q + j < N by omega)
            rw [show f (q + j) = M c j by rw [HQ.out]; exact HF1.out c j hca (by omega)] at hf1
            exact ⟨r, hc1, hf1⟩ : ∀ z j, j < c → ∃ r, (W2.drewN z).cell? ⟨gs, q + j, none⟩ = some (.float .f32 r) ∧ Fl .f32 (M c j) r)
          obtain ⟨r3, k3, g3⟩ := HO.out.cell (show q + c < N by omega)
          rw [show f (q + c) = M c c by rw [HQ.out]; exact HF1.out c c hca (Nat.le_refl _)] at g3
          have HME := Hf.mk (HM.out.off a c hlt hca)
          have KL := Hf.mk (fun q => lessP_any (W2.drewN q) g0 (CA.out q) (CC.out q) (m := c) (mb := c) (ca := n) (cb := n) (Nat.le_refl _) (by omega))
          clear hD1 hD2
          go_wp2
          refine region_tell (C := Dr W2) 25 (by kernel_rfl) (by kernel_rfl) ⟨1, rfl⟩ (fun K L hK => lexS_start ?_)
          simp only [List.take_succ_cons, List.take_zero]
          have hcn : c < n := by omega
          have hcn2 : c ≤ n := by omega
          repeat (refine tS_val ?_ rfl (fun i hi q => ?_) ?_; rotate_left; (focus (go_simp; rfl)); simp only [Act.put, List.setIfInBounds_toArray, List.set_cons_succ, List.set_cons_zero])
          refine tS_call (f := 59) (args := #[.float .f32 r0, .slice (some ⟨gs, p, none⟩) c n, .slice (some ⟨gs, q, none⟩) c n]) _ rfl (fun i hi z => ?_) KL.out ?_
          · go_simp
          simp only [Act.put, List.setIfInBounds_toArray, List.set_cons_succ, List.set_cons_zero]
          repeat (refine tS_val ?_ rfl (fun i hi q => ?_) ?_; rotate_left; (focus (go_simp; rfl)); simp only [Act.put, List.setIfInBounds_toArray, List.set_cons_succ, List.set_cons_zero])
          refine tS_fop _ _ rfl rfl rfl (fun i hi => ⟨_, rfl, hi.2⟩) (fun i hi => ⟨_, rfl, g3⟩) ?_
          simp only [Act.put, List.setIfInBounds_toArray, List.set_cons_succ, List.set_cons_zero]
          repeat (refine tS_val ?_ rfl (fun i hi q => ?_) ?_; rotate_left; (focus (go_simp; rfl)); simp only [Act.put, List.setIfInBounds_toArray, List.set_cons_succ, List.set_cons_zero])
          refine lexS_end ?_
          rintro ⟨⟨_, r⟩, r2⟩ ⟨⟨_, hr⟩, hr2⟩
          refine hK _ ?_
          rintro w' ⟨z, rfl⟩
          simp only [List.drop_succ_cons, List.drop_zero]
          go_wp2
          go_roundw
          case rel =>
            refine ⟨c + 1, by omega, i_ext2 (by omega), ⟨⟨_, (HO.out.drews _).set (show p + c < N by omega) hr2, fun x y hx hy => ?_, fun x y hx hxn hyn => ?_, fun y hy => ?_, fun y hy1 hy2 => ?_⟩⟩, ⟨fun j hj => by rw [cell_off (show gr ≠ gs by omega)]; exact hcr2.out j hj⟩, ⟨Below.setCell (p := ⟨gs, p + c, none⟩) (Below.drews hb2.out) (show w.heap.size ≤ gs by omega) _⟩⟩
            · refine (if_neg ?_).trans (HF1.out x y hx hy)
              intro he
              have := idx_inj (n := n) (a := x) (c := y) (i := a) (k := c) (by omega) (by omega) (by rw [← HP.out]; exact he)
              omega
            · refine (if_neg ?_).trans (HF2.out x y hx hxn hyn)
              intro he
              have := idx_inj (n := n) (a := x) (c := y) (i := a) (k := c) (by omega) (by omega) (by rw [← HP.out]; exact he)
              omega
            · by_cases he : y = c
              · exact (if_pos (by omega)).trans (by rw [he, HME.out])
              · exact (if_neg (show ¬ (p + y = p + c) by omega)).trans (HF3.out y (by omega))
            · exact (if_neg (show ¬ (p + y = p + c) by omega)).trans (HF4.out y (by omega) hy2)
          case measure =>
            simp [intOf]
            try omega
        · have hca2 : a = c := by omega
          have KL := Hf.mk (fun q => lessP_any (W2.drewN q) g0 (CA.out q) (CA.out q) (m := c) (mb := c) (ca := n) (cb := n) (Nat.le_refl _) (by omega))
          subst hca2
          have HME := Hf.mk (HM.out.dia a hlt)
          clear hD1 hD2
          have hcn : a < n := by omega
          have hcn2 : a ≤ n := by omega
          go_wp2
          refine region_tell (C := Dr W2) 11 (by kernel_rfl) (by kernel_rfl) ⟨1, rfl⟩ (fun K L hK => lexS_start ?_)
          simp only [List.take_succ_cons, List.take_zero]
          repeat (refine tS_val ?_ rfl (fun i hi q => ?_) ?_; rotate_left; (focus (go_simp; rfl)); simp only [Act.put, List.setIfInBounds_toArray, List.set_cons_succ, List.set_cons_zero])
          refine tS_call (f := 59) (args := #[.float .f32 r0, .slice (some ⟨gs, p, none⟩) a n, .slice (some ⟨gs, p, none⟩) a n]) _ rfl (fun i hi z => ?_) KL.out ?_
          · go_simp
          simp only [Act.put, List.setIfInBounds_toArray, List.set_cons_succ, List.set_cons_zero]
          refine lexS_end ?_
          rintro ⟨_, r⟩ ⟨_, hr⟩
          refine hK _ ?_
          rintro w' ⟨z, rfl⟩
          simp only [List.drop_succ_cons, List.drop_zero]
          cases hg : fcmp .gtr .f32 (pivF (sqF xs n) M a) 0
          · have KG := Hf.mk (goodB_no hlt hg)
            unfold pivF at hg
            go_wp2_with (first | (refine wpList_fcmp rfl rfl rfl rfl rfl (by first | (with_reducible assumption) | (with_reducible exact Fl.ofInt _ _) | exact Fl.not (by decide +kernel) (by decide +kernel)) (by first | (with_reducible assumption) | (with_reducible exact Fl.ofInt _ _) | exact Fl.not (by decide +kernel) (by decide +kernel)) ?_; simp only [Act.put, List.setIfInBounds_toArray, List.set_cons_succ, List.set_cons_zero, hg]))
            go_ret2
            exact .inr ⟨KG.out, rfl, Below.drews hb2.out⟩
          · have KG := Hf.mk hg
            unfold pivF at hg
            go_wp2_with (first | (refine wpList_fcmp rfl rfl rfl rfl rfl (by first | (with_reducible assumption) | (with_reducible exact Fl.ofInt _ _) | exact Fl.not (by decide +kernel) (by decide +kernel)) (by first | (with_reducible assumption) | (with_reducible exact Fl.ofInt _ _) | exact Fl.not (by decide +kernel) (by decide +kernel)) ?_; simp only [Act.put, List.setIfInBounds_toArray, List.set_cons_succ, List.set_cons_zero, hg]) | (go_at_call 69; refine (iRoot_any hr _).mono ?_; rintro e w' ⟨r2, z2, rfl, hr2, rfl⟩))
            go_roundw
            case rel =>
              refine ⟨a + 1, by omega, i_ext2 (by omega), ⟨⟨_, (HO.out.drews _).set (show p + a < N by omega) hr2, fun x y hx hy => ?_, fun x y hx hxn hyn => ?_⟩⟩, ⟨fun x hx => ?_⟩, ⟨fun j hj => by rw [cell_off (show gr ≠ gs by omega)]; exact hcr2.out j hj⟩, ⟨Below.setCell (p := ⟨gs, p + a, none⟩) (Below.drews hb2.out) (show w.heap.size ≤ gs by omega) _⟩⟩
              · by_cases hxa : x = a
                · subst hxa
                  by_cases hya : y = x
                  · subst hya
                    exact (if_pos (by rw [HP.out])).trans HME.out.symm
                  · refine (if_neg (by rw [HP.out]; omega)).trans ?_
                    rw [← HP.out]
                    exact HF3.out y (by omega)
                · refine (if_neg ?_).trans (HF1.out x y (by omega) hy)
                  intro he
                  have := idx_inj (n := n) (a := x) (c := y) (i := a) (k := a) (by omega) (by omega) (by rw [← HP.out]; exact he)
                  omega
              · refine (if_neg ?_).trans (HF2.out x y hx hxn hyn)
                intro he
                have := idx_inj (n := n) (a := x) (c := y) (i := a) (k := a) (by omega) (by omega) (by rw [← HP.out]; exact he)
                omega
              · by_cases he : x = a
                · rw [he]; exact KG.out
                · exact hg1.out x (by omega)
            case measure =>
              simp [intOf]
              try omega
    · obtain rfl : a = n := by omega
      have KG := Hf.mk (goodB_yes hg1.out)
      obtain ⟨f, hO, hF1, _⟩ := hf1.out
      have HO := Hf.mk hO
      have HF1 := Hf.mk hF1
      clear hO hF1
      go_wp2
      go_ret2
      exact .inl ⟨KG.out, ⟨gr, gs, cap, f, rfl, hcr1.out, HO.out, fun x y hx hy => HF1.out x y hx hy⟩, hb1.out⟩
end Go.Proofs.Ytconlpgifkknmab
