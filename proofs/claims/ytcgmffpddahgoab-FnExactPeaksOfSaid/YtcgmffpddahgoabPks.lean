/-
  PeaksOf, of the program and of the model: one list. No premise beyond those named.
-/
import Derived.Test.YtcgmffpddahgoabLro
import Derived.Test.YtcgmffpddahgoabSlp
namespace Go.Proofs.Ytcgmffpddahgoab
open Go Go.RowKit
set_option maxRecDepth 100000

/-- whether a place is higher than these -/
def pkP (f : Nat → Nat) (i : Nat) (L : List Int) : Bool := L.all (fun k => fcmp .gtr .f32 (f i) (f k.toNat))
theorem pkP_take {f : Nat → Nat} {i k : Nat} {L : List Int} (h : k < L.length) : pkP f i (L.take (k + 1)) = (pkP f i (L.take k) && fcmp .gtr .f32 (f i) (f (L.getD k 0).toNat)) := by
  unfold pkP
  rw [List.take_succ_eq_append_getElem h, List.all_append]
  simp [List.getD, List.getElem?_eq_getElem h]
/-- the peaks under the first m places -/
def pkL (f : Nat → Nat) (W Hh : Nat) : Nat → List Int
  | 0 => []
  | m + 1 => pkL f W Hh m ++ (if pkP f m (nbs W Hh m) then [(m : Int)] else [])
theorem pkL_yes {f : Nat → Nat} {W Hh m : Nat} (h : pkP f m (nbs W Hh m) = true) : pkL f W Hh (m + 1) = pkL f W Hh m ++ [(m : Int)] := by
  show _ ++ (if _ then _ else _) = _
  rw [if_pos h]
theorem pkL_no {f : Nat → Nat} {W Hh m : Nat} (h : pkP f m (nbs W Hh m) = false) : pkL f W Hh (m + 1) = pkL f W Hh m := by
  show _ ++ (if _ then _ else _) = _
  rw [if_neg (by rw [h]; decide), List.append_nil]
theorem pkL_len {f : Nat → Nat} {W Hh : Nat} : ∀ m, (pkL f W Hh m).length ≤ m := by
  intro m
  induction m with
  | zero => exact Nat.le_refl _
  | succ m ih =>
    cases h : pkP f m (nbs W Hh m)
    · rw [pkL_no h]; omega
    · rw [pkL_yes h]; simp; omega
/-- the peaks of a grid, none if it is not valid -/
def pksL (ok : Bool) (f : Nat → Nat) (wd hg : Int) (n : Nat) : List Int := if ok then pkL f wd.toNat hg.toNat n else []
theorem pksL_len {ok : Bool} {f : Nat → Nat} {wd hg : Int} (n : Nat) : (pksL ok f wd hg n).length ≤ n := by
  unfold pksL
  cases ok
  · exact Nat.zero_le _
  · exact pkL_len n
theorem RLy.nil {T : TypeId} {w w' : World} (b : Below w.heap.size w w') : RLy T false (ils []) w (.returned (.tuple #[.slice none 0 0, .bool false])) w' := ⟨⟨_, rfl, World.ownsRow_nil _ _ _ _⟩, b⟩
set_option maxHeartbeats 4000000 in
theorem sPeaks_any {g n k : Nat} {wd hg : Int} {f : Nat → Nat} (w : World) (h : Told w g n f) (hl : n ≤ 1048576) : Calls Try.prog 50 #[gd wd hg (sl g n k)] w (RLy 2 (gridB wd hg n f) (ils (pksL (gridB wd hg n f) f wd hg n)) w) := by
  obtain ⟨i0, hi0, hz0, hz1, hz2⟩ := info_parts (P := Try.prog) (e := 2) (z := .int .i64 0) (size := 1) (bytes := 8) (by kernel_rfl)
  have H := Hf.mk h
  clear h
  cases h1 : gridB wd hg n f
  · have H1 := Hf.mk h1
    clear h1
    go_enter Try.func50, Try.ntmps50
    go_wp2_with (first | (go_at_call 55; refine (l06Is_any (k := k) (wd := wd) (hg := hg) _ (by simp) (by simp) (by simp) (H.out.below (by repeat (first | exact Below.refl _ _ | with_reducible assumption | refine Below.drews ?_ | refine Below.drew ?_ | refine Below.alloc ?_ (by simp <;> omega) _ | refine Below.setCell ?_ (by simp <;> omega) _))) hl).mono ?_; rw [H1.out]; rintro e w' ⟨rfl, q0, rfl⟩))
    go_ret2
    exact RLy.nil (by repeat (first | exact Below.refl _ _ | with_reducible assumption | refine Below.drews ?_ | refine Below.drew ?_ | refine Below.alloc ?_ (by simp <;> omega) _ | refine Below.setCell ?_ (by simp <;> omega) _))
  · obtain ⟨W, Hh, hG⟩ := gridB_of h1
    have n256 := hG.n256
    have n4 := hG.n4
    have h2 := hG.w2
    have h16 := hG.w16
    have g2 := hG.h2
    have g16 := hG.h16
    have hgl := told_lt H.out (show 0 < n by omega)
    have HN := Hf.mk hG.nn
    have H1 := Hf.mk h1
    have X := Hf.mk (H.out.exact hG.fin)
    obtain rfl := hG.w
    obtain rfl := hG.h
    have hp : (W : Int) * (Hh : Int) = (n : Int) := by rw [HN.out, Int.natCast_mul]
    have KV := Keep.mk (show pksL true f (W : Int) (Hh : Int) n = pkL f W Hh n from rfl)
    clear h1 hG
    go_enter Try.func50, Try.ntmps50
    go_wp2_with (first | (go_at_call 55; refine (l06Is_any (k := k) (wd := (W : Int)) (hg := (Hh : Int)) _ (by simp) (by simp) (by simp) (H.out.below (by repeat (first | exact Below.refl _ _ | with_reducible assumption | refine Below.drews ?_ | refine Below.drew ?_ | refine Below.alloc ?_ (by simp <;> omega) _ | refine Below.setCell ?_ (by simp <;> omega) _))) hl).mono ?_; rw [H1.out]; rintro e w' ⟨rfl, q0, rfl⟩))
    have Bn := Hf.mk (show Below w.heap.size w ((w.alloc (.cells #[.int .i64 W, .int .i64 Hh, sl g n k] 30)).drewN q0) from (by repeat (first | exact Below.refl _ _ | with_reducible assumption | refine Below.drews ?_ | refine Below.drew ?_ | refine Below.alloc ?_ (by simp <;> omega) _ | refine Below.setCell ?_ (by simp <;> omega) _)))
    have c0 : ((w.alloc (.cells #[.int .i64 W, .int .i64 Hh, sl g n k] 30)).drewN q0).cell? ⟨w.heap.size, 0, none⟩ = some (.int .i64 W) := by simp
    have c1 : ((w.alloc (.cells #[.int .i64 W, .int .i64 Hh, sl g n k] 30)).drewN q0).cell? ⟨w.heap.size, 1, none⟩ = some (.int .i64 Hh) := by simp
    have c2 : ((w.alloc (.cells #[.int .i64 W, .int .i64 Hh, sl g n k] 30)).drewN q0).cell? ⟨w.heap.size, 2, none⟩ = some (sl g n k) := by simp
    have zs : ((w.alloc (.cells #[.int .i64 W, .int .i64 Hh, sl g n k] 30)).drewN q0).heap.size = w.heap.size + 1 := by simp
    have X0 := Hf.mk (X.out.below Bn.out)
    generalize ((w.alloc (.cells #[.int .i64 W, .int .i64 Hh, sl g n k] 30)).drewN q0) = W0 at *
    go_loopw [4, 5] (fun vs i wr => ∃ (m : Nat) (v : Value), m ≤ n ∧ vs = v ∧ i = .int .i64 m ∧ Hf (wr.ownsRow (w.heap.size + 1) 2 1 v (pkL f W Hh m).length (ils (pkL f W Hh m))) ∧ Hf (Below (w.heap.size + 1) W0 wr)) (fun _ i _ => n - (intOf i).toNat)
    case atStart => exact ⟨0, _, by omega, rfl, rfl, ⟨by have h := World.ownsRow_made (base := w.heap.size + 1) (e := 2) (size := 1) W0 #[] 0 (by omega) (by decide) rfl; rw [zs] at h; exact h⟩, ⟨Below.alloc (Below.refl _ _) (by omega) _⟩⟩
    case round =>
      obtain ⟨m, v, hm, rfl, rfl, hown, hbel⟩ := hrel
      obtain ⟨W1, hW1⟩ : ∃ W1, W1 = wr := ⟨_, rfl⟩
      subst hW1
      have d0 := Below.keep (hbel.out.mono (by omega)) c0
      have d1 := Below.keep (hbel.out.mono (by omega)) c1
      have S1 := hbel.out.size
      by_cases hlt : m < n
      · have tk_a : True := trivial
        go_wp2_with (first | (go_at_call 90; clear tk_a; refine (l06Around_any _ d0 d1 HN.out h2 h16 g2 g16 hlt).mono ?_; rintro e W2 ⟨⟨v2, rfl, o2⟩, b2⟩; obtain ⟨a2, k2, rfl, hl2, r2⟩ := irow_vown o2; clear o2; have R2 := Hf.mk r2; have O2 := Hf.mk (iown_below hown.out b2); have B2 := Hf.mk (Below.on hbel.out b2 (by omega)); clear r2 b2))
        have e2 := Below.keep (B2.out.mono (by omega)) c2
        have X2 := Hf.mk (X0.out.below (B2.out.mono (by omega)))
        have hL := nbs_len W Hh m
        have HL := Hf.mk (fun x hx => nbs_mem (i := m) (k := x) HN.out (show 0 < W by omega) hx)
        have FI := X2.out m hlt
        generalize hLL : nbs W Hh m = L at *
        go_loopw [6, 8] (fun b kk wr => ∃ (c : Nat), c ≤ L.length ∧ b = .bool (pkP f m (L.take c)) ∧ kk = .int .i64 c ∧ Drew W2 wr) (fun _ kk _ => L.length - (intOf kk).toNat)
        case atStart => exact ⟨0, by omega, rfl, rfl, (by repeat (first | exact Drew.refl _ | refine Drew.more ?_))⟩
        case round =>
          obtain ⟨c, hc, rfl, rfl, q, rfl⟩ := hrel
          by_cases hlc : c < L.length
          · have KP := Hf.mk (pkP_take (f := f) (i := m) hlc)
            obtain ⟨p2, rfl, cc⟩ := R2.out c hlc
            obtain ⟨j, hj, hjn, _⟩ := HL.out (L.getD c 0) (by rw [List.getD, List.getElem?_eq_getElem hlc]; exact List.getElem_mem hlc)
            rw [hj] at cc KP
            have FJ := X2.out j hjn
            clear hj
            cases hp : pkP f m (L.take c)
            · rw [hp] at KP
              have KQ := Hf.mk (show false = pkP f m (L.take (c + 1)) by rw [KP.out]; rfl)
              clear hp
              go_wp2
              go_quiet (fail)
              go_wp2
              go_roundw
              case rel => exact ⟨c + 1, by omega, by rw [← KQ.out] <;> rfl, i_ext2 (by omega), (by repeat (first | exact Drew.refl _ | refine Drew.more ?_))⟩
              case measure => simp [intOf]; omega
            · rw [hp] at KP
              have KQ := Hf.mk (show fcmp .gtr .f32 (f m) (f j) = pkP f m (L.take (c + 1)) by rw [KP.out]; rfl)
              clear hp
              go_wp2
              go_quiet (fail)
              go_wp2
              go_roundw
              case rel => exact ⟨c + 1, by omega, by rw [← KQ.out] <;> rfl, i_ext2 (by omega), (by repeat (first | exact Drew.refl _ | refine Drew.more ?_))⟩
              case measure => simp [intOf]; omega
          · obtain rfl : c = L.length := by omega
            have KT := Hf.mk (List.take_length (l := L))
            cases hp : pkP f m (L.take L.length)
            · have KN := Hf.mk (show pkL f W Hh (m + 1) = pkL f W Hh m from pkL_no (by rw [hLL, ← KT.out]; exact hp))
              go_wp2
              go_roundw
              case rel => exact ⟨m + 1, _, by omega, rfl, i_ext2 (by omega), ⟨by rw [KN.out]; exact own_dr O2.out _⟩, ⟨Below.drews B2.out⟩⟩
              case measure => simp [intOf]; omega
            · have KN := Hf.mk (show pkL f W Hh (m + 1) = pkL f W Hh m ++ [(m : Int)] from pkL_yes (by rw [hLL, ← KT.out]; exact hp))
              have hpl := pkL_len (f := f) (W := W) (Hh := Hh) m
              have S2 := B2.out.size
              go_wp2_with (first | (at_builtin; refine wpList_append_own _ rfl _ _ 56 rfl (w.heap.size + 1) 2 i0 (.int .i64 0) 1 8 Try.underlying56 hi0 hz0 hz1 hz2 rfl (by decide) _ (pkL f W Hh m).length (ils (pkL f W Hh m)) rfl (own_al (own_dr O2.out _) _) ⟨W2.heap.size, 0, none⟩ 1 1 [.int .i64 (m : Int)] rfl rfl (cell_one _ _ _) int_one (by unfold maxLen; omega) (by omega) (by simp; omega) ?_; intro v' w3 o3 hgrow3 _; have B3 := Hf.mk (Below.grown (Below.alloc (Below.drews B2.out) (by simp; omega) _) hgrow3 (by simp; omega) (fun k h => own_ge O2.out h)); have O3 := Hf.mk o3; clear o3 hgrow3))
              go_roundw
              case rel => exact ⟨m + 1, _, by omega, rfl, i_ext2 (by omega), ⟨by rw [KN.out]; have := O3.out; rw [ils_app] at this; simpa [Nat.add_assoc] using this⟩, B3⟩
              case measure => simp [intOf]; omega
      · obtain rfl : m = n := by omega
        go_wp2
        go_ret2
        rw [KV.out]
        refine ⟨⟨_, rfl, ?_⟩, Below.on Bn.out (hbel.out.mono (by omega)) (by omega)⟩
        rw [ils_len]
        exact own_lower hown.out (by omega)
theorem peak1_any {g n k i j bg bi : Nat} {f : Nat → Nat} (w : World) (c2 : w.cell? ⟨bg, 2, none⟩ = some (sl g n k)) (ci : w.cell? ⟨bi, 0, none⟩ = some (.int .i64 i)) (X : Exact w g n f) (hi : i < n) (hj : j < n) : Calls Try.prog 133 #[.int .i64 j, .pointer (some ⟨bg, 0, none⟩), .pointer (some ⟨bi, 0, none⟩)] w (RB (fcmp .gtr .f32 (f i) (f j)) w) := by
  have FI := X i hi
  have FJ := X j hj
  go_enter Try.func133, Try.ntmps133
  go_wp2
  go_quiet (fail)
  go_wp2
  go_ret
  exact RB.any rfl (by repeat (first | exact Drew.refl _ | refine Drew.more ?_))
theorem areI_any {a : Option Addr} {n k : Nat} {xs : List Int} {bg bi : Nat} {p : Int → Bool} (w : World) (h : IRow w a xs) (hn : n = xs.length) (hl : n ≤ 1048576) (hcl : ∀ q, ∀ x ∈ xs, Calls Try.prog 133 #[.int .i64 x, .pointer (some ⟨bg, 0, none⟩), .pointer (some ⟨bi, 0, none⟩)] (w.drewN q) (RB (p x) (w.drewN q))) : Calls Try.prog 132 #[.slice a n k, .func (.func 133) #[] #[.pointer (some ⟨bg, 0, none⟩), .pointer (some ⟨bi, 0, none⟩)]] w (RB (xs.all p) w) := by
  subst hn
  have H := Hf.mk h
  have HC := Hf.mk hcl
  clear h hcl
  go_enter Try.func132, Try.ntmps132
  go_wp2
  go_loopw [9] (fun i wr => ∃ m : Nat, m ≤ xs.length ∧ i = .int .i64 m ∧ Hf ((xs.take m).all p = true) ∧ Drew w wr) (fun i _ => xs.length - (intOf i).toNat)
  case atStart => exact ⟨0, by omega, rfl, ⟨rfl⟩, (by repeat (first | exact Drew.refl _ | refine Drew.more ?_))⟩
  case round =>
    obtain ⟨m, hm, rfl, ht, q, rfl⟩ := hrel
    by_cases hlt : m < xs.length
    · obtain ⟨p1, rfl, c1⟩ := H.out m hlt
      have KP := Hf.mk (show (xs.take (m + 1)).all p = ((xs.take m).all p && p (xs.getD m 0)) by rw [List.take_succ_eq_append_getElem hlt, List.all_append]; simp [List.getD, List.getElem?_eq_getElem hlt])
      have hmem := Hf.mk (show xs.getD m 0 ∈ xs by rw [List.getD, List.getElem?_eq_getElem hlt]; exact List.getElem_mem hlt)
      have KC := Hf.mk (HC.out q _ hmem.out)
      have KX := Hf.mk (fun (hf : p (xs.getD m 0) = false) => (show xs.all p = false by rw [List.all_eq_false]; exact ⟨_, hmem.out, by rw [hf]; decide⟩))
      generalize xs.getD m 0 = x at *
      clear hmem
      cases hv : p x
      · rw [hv] at KC
        have KY := Hf.mk (KX.out hv)
        clear hv KX
        go_wp2_with (first | (go_at_call 133; refine KC.out.mono ?_; rintro e w' ⟨rfl, q2, rfl⟩))
        go_ret
        exact RB.any KY.out.symm (by repeat (first | exact Drew.refl _ | refine Drew.more ?_))
      · rw [hv, ht.out] at KP
        rw [hv] at KC
        clear hv KX
        go_wp2_with (first | (go_at_call 133; refine KC.out.mono ?_; rintro e w' ⟨rfl, q2, rfl⟩))
        go_roundw
        case rel => exact ⟨m + 1, by omega, i_ext2 (by omega), ⟨KP.out⟩, (by repeat (first | exact Drew.refl _ | refine Drew.more ?_))⟩
        case measure => simp [intOf]; omega
    · obtain rfl : m = xs.length := by omega
      have KT := Hf.mk (List.take_length (l := xs))
      go_wp2
      go_ret
      rw [← KT.out, ht.out]
      exact RB.any rfl (by repeat (first | exact Drew.refl _ | refine Drew.more ?_))
theorem isPeak_any {g n k i W Hh : Nat} {f : Nat → Nat} (w : World) (X : Exact w g n f) (hn : n = W * Hh) (h2 : 2 ≤ W) (h16 : W ≤ 16) (g2 : 2 ≤ Hh) (g16 : Hh ≤ 16) (hi : i < n) : Calls Try.prog 97 #[gd W Hh (sl g n k), .int .i64 i] w (RS (.bool (pkP f i (nbs W Hh i))) w) := by
  have n256 : n ≤ 256 := by rw [hn]; exact Nat.mul_le_mul h16 g16
  have HL := Hf.mk (fun x hx => nbs_mem (i := i) (k := x) hn (show 0 < W by omega) hx)
  have HN := Hf.mk hn
  have HX := Hf.mk X
  have B0 := Hb.mk (Below.refl w.heap.size w)
  have KV := Keep.mk (show pkP f i (nbs W Hh i) = (nbs W Hh i).all (fun k => fcmp .gtr .f32 (f i) (f k.toNat)) from rfl)
  clear hn X
  go_enter Try.func97, Try.ntmps97
  go_wp2_with (first | (go_at_call 95; refine (neigh_any _ HN.out h2 h16 g2 g16 hi).mono ?_; rintro e w1 ⟨⟨v1, rfl, o1⟩, b1⟩; have B1 := Hb.mk (Below.on (B := w.heap.size) (a := w) (by repeat (first | exact B0.out | refine Below.drews ?_ | refine Below.drew ?_ | refine Below.alloc ?_ (by have hq_ := B0.out.size; first | omega | (simp <;> omega)) _ | refine Below.setCell ?_ (by have hq_ := B0.out.size; first | omega | (simp <;> omega)) _)) b1 (by have hq_ := B0.out.size; first | omega | (simp <;> omega))); have r0 := Hb.mk (At.keep b1 (p := ⟨(w.heap.size), 0, none⟩) (v := .int .i64 W) (by simp [go_sem]) (by simp [go_sem])); obtain ⟨r0c, r0z, r0l⟩ := r0.out; have r1 := Hb.mk (At.keep b1 (p := ⟨(w.heap.size), 1, none⟩) (v := .int .i64 Hh) (by simp [go_sem]) (by simp [go_sem])); obtain ⟨r1c, r1z, r1l⟩ := r1.out; have r2 := Hb.mk (At.keep b1 (p := ⟨(w.heap.size), 2, none⟩) (v := sl g n k) (by simp [go_sem]) (by simp [go_sem])); obtain ⟨r2c, r2z, r2l⟩ := r2.out; have s0 := Hb.mk (At.keep b1 (p := ⟨(w.heap.size + 1), 0, none⟩) (v := .int .i64 i) (by simp [go_sem]) (by simp [go_sem])); obtain ⟨s0c, s0z, s0l⟩ := s0.out; clear b1; obtain ⟨a1, k1, rfl, hl1, q1⟩ := irow_vown o1; have R1 := Hf.mk q1; have l1 := nbs_len W Hh i; clear o1 q1) | (go_at_call 132; refine (areI_any (p := fun k => fcmp .gtr .f32 (f i) (f k.toNat)) _ R1.out rfl (by omega) (fun q x hx => by obtain ⟨j, rfl, hj, _⟩ := HL.out x hx; exact peak1_any (k := k) _ (by simpa using r2c) (by simpa using s0c) ((HX.out.below B1.out).below (Below.drews (Below.refl _ _))) hi hj)).mono ?_; rintro e w2 ⟨rfl, q2, rfl⟩))
  go_ret
  rw [KV.out]
  exact ⟨rfl, (by repeat (first | with_reducible refine Below.setCell ?_ (by first | omega | (simp <;> omega)) _ | with_reducible refine Below.drews ?_ | with_reducible refine Below.drew ?_ | with_reducible refine Below.alloc ?_ (by first | omega | (simp <;> omega)) _ | with_reducible exact B1.out | with_reducible exact Below.refl _ _))⟩
set_option maxHeartbeats 4000000 in
theorem iPeaks_any {g n k : Nat} {wd hg : Int} {f : Nat → Nat} (w : World) (h : Told w g n f) (hl : n ≤ 1048576) : Calls Try.prog 51 #[gd wd hg (sl g n k)] w (RLy 2 (gridB wd hg n f) (ils (pksL (gridB wd hg n f) f wd hg n)) w) := by
  obtain ⟨i0, hi0, hz0, hz1, hz2⟩ := info_parts (P := Try.prog) (e := 2) (z := .int .i64 0) (size := 1) (bytes := 8) (by kernel_rfl)
  have H := Hf.mk h
  clear h
  have B0 := Hb.mk (Below.refl w.heap.size w)
  cases h1 : gridB wd hg n f
  · have H1 := Hf.mk h1
    clear h1
    go_enter Try.func51, Try.ntmps51
    go_wp2_with (first | (go_at_call 60; refine (iValid_any _ (H.out.below (by repeat (first | exact Below.refl _ _ | with_reducible assumption | refine Below.drews ?_ | refine Below.drew ?_ | refine Below.alloc ?_ (by simp <;> omega) _ | refine Below.setCell ?_ (by simp <;> omega) _))) hl).mono ?_; rw [H1.out]; rintro e w1 ⟨rfl, b1⟩; have B1 := Hb.mk (Below.on (B := w.heap.size) (a := w) (by repeat (first | exact B0.out | refine Below.drews ?_ | refine Below.drew ?_ | refine Below.alloc ?_ (by have hq_ := B0.out.size; first | omega | (simp <;> omega)) _ | refine Below.setCell ?_ (by have hq_ := B0.out.size; first | omega | (simp <;> omega)) _)) b1 (by have hq_ := B0.out.size; first | omega | (simp <;> omega))); have r0 := Hb.mk (At.keep b1 (p := ⟨(w.heap.size), 0, none⟩) (v := .int .i64 wd) (by simp [go_sem]) (by simp [go_sem])); obtain ⟨r0c, r0z, r0l⟩ := r0.out; have r1 := Hb.mk (At.keep b1 (p := ⟨(w.heap.size), 1, none⟩) (v := .int .i64 hg) (by simp [go_sem]) (by simp [go_sem])); obtain ⟨r1c, r1z, r1l⟩ := r1.out; have r2 := Hb.mk (At.keep b1 (p := ⟨(w.heap.size), 2, none⟩) (v := sl g n k) (by simp [go_sem]) (by simp [go_sem])); obtain ⟨r2c, r2z, r2l⟩ := r2.out; clear b1))
    go_ret2
    exact RLy.nil (by repeat (first | with_reducible refine Below.setCell ?_ (by first | omega | (simp <;> omega)) _ | with_reducible refine Below.drews ?_ | with_reducible refine Below.drew ?_ | with_reducible refine Below.alloc ?_ (by first | omega | (simp <;> omega)) _ | with_reducible exact B1.out | with_reducible exact Below.refl _ _))
  · obtain ⟨W, Hh, hG⟩ := gridB_of h1
    have n256 := hG.n256
    have n4 := hG.n4
    have h2 := hG.w2
    have h16 := hG.w16
    have g2 := hG.h2
    have g16 := hG.h16
    have hgl := told_lt H.out (show 0 < n by omega)
    have HN := Hf.mk hG.nn
    have H1 := Hf.mk h1
    have X := Hf.mk (H.out.exact hG.fin)
    obtain rfl := hG.w
    obtain rfl := hG.h
    have KV := Keep.mk (show pksL true f (W : Int) (Hh : Int) n = pkL f W Hh n from rfl)
    clear h1 hG
    go_enter Try.func51, Try.ntmps51
    go_wp2_with (first | (go_at_call 60; refine (iValid_any _ (H.out.below (by repeat (first | exact Below.refl _ _ | with_reducible assumption | refine Below.drews ?_ | refine Below.drew ?_ | refine Below.alloc ?_ (by simp <;> omega) _ | refine Below.setCell ?_ (by simp <;> omega) _))) hl).mono ?_; rw [H1.out]; rintro e w1 ⟨rfl, b1⟩; have B1 := Hb.mk (Below.on (B := w.heap.size) (a := w) (by repeat (first | exact B0.out | refine Below.drews ?_ | refine Below.drew ?_ | refine Below.alloc ?_ (by have hq_ := B0.out.size; first | omega | (simp <;> omega)) _ | refine Below.setCell ?_ (by have hq_ := B0.out.size; first | omega | (simp <;> omega)) _)) b1 (by have hq_ := B0.out.size; first | omega | (simp <;> omega))); have r0 := Hb.mk (At.keep b1 (p := ⟨(w.heap.size), 0, none⟩) (v := .int .i64 (W : Int)) (by simp [go_sem]) (by simp [go_sem])); obtain ⟨r0c, r0z, r0l⟩ := r0.out; have r1 := Hb.mk (At.keep b1 (p := ⟨(w.heap.size), 1, none⟩) (v := .int .i64 (Hh : Int)) (by simp [go_sem]) (by simp [go_sem])); obtain ⟨r1c, r1z, r1l⟩ := r1.out; have r2 := Hb.mk (At.keep b1 (p := ⟨(w.heap.size), 2, none⟩) (v := sl g n k) (by simp [go_sem]) (by simp [go_sem])); obtain ⟨r2c, r2z, r2l⟩ := r2.out; clear b1))
    go_loopw [4, 12] (fun vs i wr => ∃ (m : Nat) (v : Value), m ≤ n ∧ vs = v ∧ i = .int .i64 m ∧ Hf (wr.ownsRow w1.heap.size 2 1 v (pkL f W Hh m).length (ils (pkL f W Hh m))) ∧ Hf (Below w1.heap.size w1 wr)) (fun _ i _ => n - (intOf i).toNat)
    case atStart => exact ⟨0, _, by omega, rfl, rfl, ⟨World.ownsRow_nil _ _ _ _⟩, ⟨Below.refl _ _⟩⟩
    case round =>
      obtain ⟨m, v, hm, rfl, rfl, hown, hbel⟩ := hrel
      obtain ⟨W1, hW1⟩ : ∃ W1, W1 = wr := ⟨_, rfl⟩
      subst hW1
      have d0 := Below.keep hbel.out r0c
      have d1 := Below.keep hbel.out r1c
      have d2 := Below.keep hbel.out r2c
      have XW := Hf.mk ((X.out.below B1.out).below hbel.out)
      have S1 := hbel.out.size
      by_cases hlt : m < n
      · have KP := Hf.mk (fun w (X : Exact w g n f) => isPeak_any (k := k) (i := m) (f := f) w X HN.out h2 h16 g2 g16 hlt)
        have hpl := pkL_len (f := f) (W := W) (Hh := Hh) m
        cases hp : pkP f m (nbs W Hh m)
        · have KN := Hf.mk (show pkL f W Hh (m + 1) = pkL f W Hh m from pkL_no hp)
          rw [hp] at KP
          clear hp
          go_wp2_with (first | (go_at_call 97; refine (KP.out _ XW.out).mono ?_; rintro e W2 ⟨rfl, b2⟩; have B2 := Hf.mk (Below.on hbel.out b2 (by omega)); have O2 := Hf.mk (iown_below hown.out b2); clear b2))
          go_roundw
          case rel => exact ⟨m + 1, _, by omega, rfl, i_ext2 (by omega), ⟨by rw [KN.out]; exact O2.out⟩, B2⟩
          case measure => simp [intOf]; omega
        · have KN := Hf.mk (show pkL f W Hh (m + 1) = pkL f W Hh m ++ [(m : Int)] from pkL_yes hp)
          rw [hp] at KP
          clear hp
          go_wp2_with (first | (go_at_call 97; refine (KP.out _ XW.out).mono ?_; rintro e W2 ⟨rfl, b2⟩; have B2 := Hf.mk (Below.on hbel.out b2 (by omega)); have O2 := Hf.mk (iown_below hown.out b2); clear b2; have S2 := B2.out.size; have SB := B1.out.size) | (at_builtin; refine wpList_append_own _ rfl _ _ 56 rfl w1.heap.size 2 i0 (.int .i64 0) 1 8 Try.underlying56 hi0 hz0 hz1 hz2 rfl (by decide) _ (pkL f W Hh m).length (ils (pkL f W Hh m)) rfl (own_al O2.out _) ⟨W2.heap.size, 0, none⟩ 1 1 [.int .i64 (m : Int)] rfl rfl (cell_one _ _ _) int_one (by unfold maxLen; omega) (by omega) (by first | omega | (simp; done) | (simp; omega)) ?_; intro v' w3 o3 hgrow3 _; have O3 := Hf.mk o3; clear o3))
          go_roundw
          case rel => exact ⟨m + 1, _, by omega, rfl, i_ext2 (by omega), ⟨by rw [KN.out]; have := O3.out; rw [ils_app] at this; simpa [Nat.add_assoc] using this⟩, ⟨Below.grown (Below.alloc B2.out (by omega) _) hgrow3 (by simp; omega) (fun k h => by have := own_ge O2.out h; omega)⟩⟩
          case measure => simp [intOf]; omega
      · obtain rfl : m = n := by omega
        go_wp2
        go_ret2
        rw [KV.out]
        refine ⟨⟨_, rfl, ?_⟩, Below.on B1.out hbel.out B1.out.size⟩
        rw [ils_len]
        exact own_lower hown.out B1.out.size
end Go.Proofs.Ytcgmffpddahgoab
