/-
PlacesText: both sides.
-/
import Derived.Test.YtcgakdgfmhkpjaaDoorNtx
import Derived.Test.YtcgakdgfmhkpjaaDoorPle
import Derived.Deep.RegionHeld3
import Derived.Deep.AppendLies
namespace Go.Proofs.YtcgakdgfmhkpjaaDoor
open Go Go.RowKit
set_option maxRecDepth 100000

theorem fls_lenP (xs : List Nat) : (fls xs).length = xs.length := by simp [fls]
theorem take_two {ys : List Nat} {n i : Nat} (hn : ys.length = 2 * n) (hi : i < n) : fls (ys.take (2 * i)) ++ [.float .f32 (nW ys i), .float .f32 (eW ys i)] = fls (ys.take (2 * (i + 1))) := by
  have h0 : 2 * i < ys.length := by omega
  have h1 : 2 * i + 1 < ys.length := by omega
  have e : ys.take (2 * (i + 1)) = ys.take (2 * i) ++ [nW ys i, eW ys i] := by
    have e1 := List.take_succ_eq_append_getElem h1
    have e0 := List.take_succ_eq_append_getElem h0
    have hx : nW ys i = ys[2 * i] := by unfold nW; rw [show i * 2 = 2 * i by omega, List.getD, List.getElem?_eq_getElem h0]; rfl
    have hy : eW ys i = ys[2 * i + 1] := by unfold eW; rw [show i * 2 + 1 = 2 * i + 1 by omega, List.getD, List.getElem?_eq_getElem h1]; rfl
    rw [show 2 * (i + 1) = 2 * i + 1 + 1 by omega, e1, e0, hx, hy, List.append_assoc]
    rfl
  rw [e]
  simp [fls]
theorem two_src (w : World) (x y : Value) (t : TypeId) : ∀ j u, [x, y][j]? = some u → (w.alloc (.cells #[x, y] t)).cell? ((⟨w.heap.size, 0, none⟩ : Addr).add j) = some u := by
  intro j u hj
  match j, hj with
  | 0, hj => simp at hj; subst hj; simp [Addr.add]
  | 1, hj => simp at hj; subst hj; simp [Addr.add]
  | j + 2, hj => simp at hj
theorem flt_two {x y : Nat} : ∀ u ∈ [Value.float .f32 x, Value.float .f32 y], u.oneCell' = true := by
  intro u hu
  simp at hu
  rcases hu with rfl | rfl <;> rfl
theorem cu_geP {w : World} {base : Nat} {e : TypeId} {size n k : Nat} {v : Value} {xs : List Value} (h : w.ownsRow base e size v n xs) (hb : v.ownBlock = some k) : base ≤ k := cu_ge h hb
theorem own_neqP {w : World} {base : Nat} {e : TypeId} {size n g : Nat} {v : Value} {xs : List Value} (h : w.ownsRow base e size v n xs) (hg : g < base) : some g ≠ v.ownBlock := fun e => by have := cu_ge h e.symm; omega
set_option maxHeartbeats 4000000 in
theorem l08Places_any {g n : Nat} {ys : List Nat} (w : World) (hr : FRow w (some ⟨g, 0, none⟩) ys) (hw : Wf ys) (hn : ys.length = 2 * n) (h1 : 1 ≤ n) (h64 : n ≤ 64) : Calls Tryd.prog 40 #[.slice (some ⟨g, 0, none⟩) n n] w (RS (.string (ofL (txtW (hexW ys)))) w) := by
  obtain ⟨i0, hi0, hz0, hz1, hz2⟩ := info_parts (P := Tryd.prog) (e := 58) (z := .float .f32 0) (size := 1) (bytes := 4) (by kernel_rfl)
  have KN := Hf.mk (fun (gl cl : Nat) w hr => l01NText_any (a := some ⟨gl, 0, none⟩) (cap := cl) (xs := ys) w hr hw (by omega))
  rw [hn] at KN
  have HR := Hf.mk hr
  have HN := Hf.mk hn
  clear hr hw hn
  go_enter Tryd.func40, Tryd.ntmps40
  go_wp2
  go_loopw [3, 4] (fun v c wr => ∃ (i : Nat), i ≤ n ∧ c = .int .i64 i ∧ Hf (wr.ownsRow w.heap.size 58 1 v (2 * i) (fls (ys.take (2 * i)))) ∧ Hb (Below w.heap.size w wr)) (fun _ c _ => n - (intOf c).toNat)
  case atStart => exact ⟨0, by omega, rfl, ⟨World.ownsRow_made _ _ _ (Nat.le_refl _) (by decide) rfl⟩, ⟨(by repeat (first | exact Below.refl _ _ | with_reducible assumption | refine Below.drews ?_ | refine Below.drew ?_ | refine Below.alloc ?_ (by simp <;> omega) _ | refine Below.setCell ?_ (by simp <;> omega) _))⟩⟩
  case round =>
    obtain ⟨i, hi, rfl, hown, hB⟩ := hrel
    obtain ⟨W1, hW1⟩ : ∃ W1, W1 = wr := ⟨_, rfl⟩
    subst hW1
    have hsz := hB.out.size
    by_cases hlt : i < n
    · obtain ⟨c0, c1⟩ := (HR.out.below hB.out).twoAt HN.out hlt
      have c0w := (HR.out.twoAt HN.out hlt).1
      have hlb := World.block_lt_of_cell? W1 _ c0
      have HVn := Hf.mk (own_neqP hown.out (g := g) (by have := block_lt_of_cell c0w; simpa using this))
      have HT := Hf.mk (take_two HN.out hlt)
      have HL := Hf.mk (show (fls (ys.take (2 * i))).length = 2 * i * 1 by rw [fls_lenP, List.length_take]; have := HN.out; omega)
      generalize nW ys i = x at c0 HT
      generalize eW ys i = y at c1 HT
      go_wp2
      go_region_held3 (fun w' => w'.cell? ⟨g, i * 2, none⟩ = some (.float .f32 x) ∧ w'.cell? ⟨g, i * 2 + 1, none⟩ = some (.float .f32 y)) (first | go_keep | (go_split_ands; refine ⟨?_, ?_⟩ <;> (rw [hgrow3.cell_far _ (by simp; omega) HVn.out]; simp [go_sem, c0, c1, hlb]))) ((refine step_append_lies _ (by rfl) _ _ _ (by rfl) w.heap.size 58 i0 _ 1 4 Tryd.underlying34 hi0 hz0 hz1 hz2 rfl (by decide) _ (2 * i) (fls (ys.take (2 * i))) (by rfl) (cu_below hown.out (by repeat (first | exact Below.refl _ _ | with_reducible assumption | refine Below.drews ?_ | refine Below.drew ?_ | refine Below.alloc ?_ (by simp <;> omega) _ | refine Below.setCell ?_ (by simp <;> omega) _))) ⟨W1.heap.size, 0, none⟩ 2 2 [.float .f32 x, .float .f32 y] (by rfl) (by rfl) (two_src _ _ _ _) flt_two (by decide) (by unfold maxLen; omega) (by omega) (by first | omega | (simp <;> omega)) _ rfl ?_; intro g2 k2 w3 o3 hgrow3 hat hlt3))
      go_wp2
      go_roundw
      case rel =>
        refine ⟨i + 1, by omega, i_ext2 (by omega), ⟨?_⟩, ⟨Below.grown (Below.drew (Below.alloc hB.out hsz _)) hgrow3 (by simp; omega) (fun k h => cu_ge hown.out h)⟩⟩
        rw [← HT.out]
        exact o3
      case measure => simp [intOf]; omega
    · obtain rfl : i = n := by omega
      obtain ⟨g', c', rfl, _, _⟩ := dec_form hown.out (by omega)
      have B := hB
      have HF := Hf.mk (frow_own (xs := ys) (show 2 * i = ys.length by have := HN.out; omega) (by have := hown.out; rw [List.take_of_length_le (by have := HN.out; omega)] at this; exact this))
      go_wp2_with (go_at_call 73; refine (KN.out _ _ _ HF.out).mono ?_; rintro e w2 ⟨rfl, b2⟩; have B2 := Hb.mk (Below.on (B := w.heap.size) (a := w) (by repeat (first | exact B.out | refine Below.drews ?_ | refine Below.drew ?_ | refine Below.alloc ?_ (by have hq_ := B.out.size; first | omega | (simp <;> omega)) _ | refine Below.setCell ?_ (by have hq_ := B.out.size; first | omega | (simp <;> omega)) _)) b2 (by have hq_ := B.out.size; first | omega | (simp <;> omega))); clear b2)
      go_ret
      exact ⟨rfl, (by repeat (first | exact B2.out | refine Below.drews ?_ | refine Below.drew ?_ | refine Below.alloc ?_ (by have hq_ := B2.out.size; first | omega | (simp <;> omega)) _ | refine Below.setCell ?_ (by have hq_ := B2.out.size; first | omega | (simp <;> omega)) _))⟩
def ptV (ys : List Nat) (n : Nat) : Value := txV (if arePl ys n then ofL (txtW (hexW ys)) else ⟨#[]⟩) (arePl ys n)
theorem sPlacesText_any {g n : Nat} {ys : List Nat} (w : World) (hr : FRow w (some ⟨g, 0, none⟩) ys) (hw : Wf ys) (hn : ys.length = 2 * n) (hl : n ≤ 1048576) : Calls Tryd.prog 11 #[.slice (some ⟨g, 0, none⟩) n n] w (RS (ptV ys n) w) := by
  have KA := Hf.mk (fun w hr => l02Are_any (g := g) (n := n) (ys := ys) w hr hw hn hl)
  have HR := Hf.mk hr
  have B0 := Hb.mk (Below.refl w.heap.size w)
  cases hb : arePl ys n
  · rw [hb] at KA
    have K := Hf.mk (show ptV ys n = txV ⟨#[]⟩ false by unfold ptV; rw [hb]; rfl)
    clear hr hw hn hb
    go_enter Tryd.func11, Tryd.ntmps11
    go_wp2_with (go_at_call 39; refine (KA.out _ HR.out).mono ?_; rintro e w1 ⟨rfl, q1, rfl⟩)
    go_ret2
    exact ⟨by rw [K.out]; rfl, (by repeat (first | exact Below.refl _ _ | with_reducible assumption | refine Below.drews ?_ | refine Below.drew ?_ | refine Below.alloc ?_ (by simp <;> omega) _ | refine Below.setCell ?_ (by simp <;> omega) _))⟩
  · rw [hb] at KA
    have K := Hf.mk (show ptV ys n = txV (ofL (txtW (hexW ys))) true by unfold ptV; rw [hb]; rfl)
    obtain ⟨k1, k64, _⟩ := arePl_of hb
    have KP := Hf.mk (fun w hr => l08Places_any (g := g) (n := n) (ys := ys) w hr hw hn k1 k64)
    clear hr hw hn hb
    go_enter Tryd.func11, Tryd.ntmps11
    go_wp2_with (first | (go_at_call 39; refine (KA.out _ HR.out).mono ?_; rintro e w1 ⟨rfl, q1, rfl⟩) | (go_at_call 40; refine (KP.out _ (HR.out.below (by repeat (first | exact Below.refl _ _ | with_reducible assumption | refine Below.drews ?_ | refine Below.drew ?_ | refine Below.alloc ?_ (by simp <;> omega) _ | refine Below.setCell ?_ (by simp <;> omega) _)))).mono ?_; rintro e w2 ⟨rfl, b2⟩; have B2 := Hb.mk (Below.on (B := w.heap.size) (a := w) (by repeat (first | exact B0.out | refine Below.drews ?_ | refine Below.drew ?_ | refine Below.alloc ?_ (by have hq_ := B0.out.size; first | omega | (simp <;> omega)) _ | refine Below.setCell ?_ (by have hq_ := B0.out.size; first | omega | (simp <;> omega)) _)) b2 (by have hq_ := B0.out.size; first | omega | (simp <;> omega))); clear b2))
    go_ret2
    exact ⟨by rw [K.out]; rfl, (by repeat (first | exact B2.out | refine Below.drews ?_ | refine Below.drew ?_ | refine Below.alloc ?_ (by have hq_ := B2.out.size; first | omega | (simp <;> omega)) _ | refine Below.setCell ?_ (by have hq_ := B2.out.size; first | omega | (simp <;> omega)) _))⟩
set_option maxHeartbeats 4000000 in
theorem iPlacesText_any {g n : Nat} {ys : List Nat} (w : World) (hr : FRow w (some ⟨g, 0, none⟩) ys) (hw : Wf ys) (hn : ys.length = 2 * n) (hl : n ≤ 1048576) (hd : Db4 w) : Calls Tryd.prog 13 #[.slice (some ⟨g, 0, none⟩) n n] w (RS (ptV ys n) w) := by
  obtain ⟨i0, hi0, hz0, hz1, hz2⟩ := info_parts (P := Tryd.prog) (e := 58) (z := .float .f32 0) (size := 1) (bytes := 4) (by kernel_rfl)
  have KA := Hf.mk (fun w hr => iArePl_any (g := g) (n := n) (ys := ys) w hr hw hn hl)
  have HR := Hf.mk hr
  have HD := Hf.mk hd
  have B0 := Hb.mk (Below.refl w.heap.size w)
  cases hb : arePl ys n
  · rw [hb] at KA
    have K := Hf.mk (show ptV ys n = txV ⟨#[]⟩ false by unfold ptV; rw [hb]; rfl)
    clear hr hw hn hb hd
    go_enter Tryd.func13, Tryd.ntmps13
    go_wp2_with (go_at_call 42; refine (KA.out _ HR.out).mono ?_; rintro e w1 ⟨rfl, b1⟩; have B1 := Hb.mk (Below.on (B := w.heap.size) (a := w) (by repeat (first | exact B0.out | refine Below.drews ?_ | refine Below.drew ?_ | refine Below.alloc ?_ (by have hq_ := B0.out.size; first | omega | (simp <;> omega)) _ | refine Below.setCell ?_ (by have hq_ := B0.out.size; first | omega | (simp <;> omega)) _)) b1 (by have hq_ := B0.out.size; first | omega | (simp <;> omega))); clear b1)
    go_ret2
    exact ⟨by rw [K.out]; rfl, (by repeat (first | exact B1.out | refine Below.drews ?_ | refine Below.drew ?_ | refine Below.alloc ?_ (by have hq_ := B1.out.size; first | omega | (simp <;> omega)) _ | refine Below.setCell ?_ (by have hq_ := B1.out.size; first | omega | (simp <;> omega)) _))⟩
  · rw [hb] at KA
    have K := Hf.mk (show ptV ys n = txV (ofL (txtW (hexW ys))) true by unfold ptV; rw [hb]; rfl)
    obtain ⟨k1, k64, _⟩ := arePl_of hb
    have KN := Hf.mk (fun (gl cl : Nat) w hr hd => iNumbersText_any (a := some ⟨gl, 0, none⟩) (cap := cl) (xs := ys) w hr hw (by omega) hd)
    rw [show nfV ys = txV (ofL (txtW (hexW ys))) true by unfold nfV nfOk; rw [decide_eq_true (show ys.length ≤ 256 by omega)]; rfl, hn] at KN
    have HN := Hf.mk hn
    clear hr hw hn hb hd
    go_enter Tryd.func13, Tryd.ntmps13
    go_wp2_with (go_at_call 42; refine (KA.out _ HR.out).mono ?_; rintro e w1 ⟨rfl, b1⟩; have B1 := Hb.mk (Below.on (B := w.heap.size) (a := w) (by repeat (first | exact B0.out | refine Below.drews ?_ | refine Below.drew ?_ | refine Below.alloc ?_ (by have hq_ := B0.out.size; first | omega | (simp <;> omega)) _ | refine Below.setCell ?_ (by have hq_ := B0.out.size; first | omega | (simp <;> omega)) _)) b1 (by have hq_ := B0.out.size; first | omega | (simp <;> omega))); have HR1 := Hf.mk (HR.out.below b1); clear b1)
    go_loopw [4, 12] (fun v c wr => ∃ (i : Nat), i ≤ n ∧ c = .int .i64 i ∧ Hf (wr.ownsRow w1.heap.size 58 1 v (2 * i) (fls (ys.take (2 * i)))) ∧ Hb (Below w1.heap.size w1 wr)) (fun _ c _ => n - (intOf c).toNat)
    case atStart => exact ⟨0, by omega, rfl, ⟨World.ownsRow_nil _ _ _ _⟩, ⟨(by repeat (first | exact Below.refl _ _ | with_reducible assumption | refine Below.drews ?_ | refine Below.drew ?_ | refine Below.alloc ?_ (by simp <;> omega) _ | refine Below.setCell ?_ (by simp <;> omega) _))⟩⟩
    case round =>
      obtain ⟨i, hi, rfl, hown, hB⟩ := hrel
      obtain ⟨W1, hW1⟩ : ∃ W1, W1 = wr := ⟨_, rfl⟩
      subst hW1
      have hsz := hB.out.size
      by_cases hlt : i < n
      · obtain ⟨c0, c1⟩ := (HR1.out.below hB.out).twoAt HN.out hlt
        have HT := Hf.mk (take_two HN.out hlt)
        have HL := Hf.mk (show (fls (ys.take (2 * i))).length = 2 * i * 1 by rw [fls_lenP, List.length_take]; have := HN.out; omega)
        generalize nW ys i = x at c0 HT
        generalize eW ys i = y at c1 HT
        go_wp2_with (at_builtin; refine wpList_append_own _ rfl _ _ 34 rfl w1.heap.size 58 i0 (.float .f32 0) 1 4 Tryd.underlying34 hi0 hz0 hz1 hz2 rfl (by decide) _ (2 * i) (fls (ys.take (2 * i))) rfl (cu_below hown.out (by repeat (first | exact Below.refl _ _ | with_reducible assumption | refine Below.drews ?_ | refine Below.drew ?_ | refine Below.alloc ?_ (by simp <;> omega) _ | refine Below.setCell ?_ (by simp <;> omega) _))) ⟨W1.heap.size + 1, 0, none⟩ 2 2 [.float .f32 x, .float .f32 y] rfl rfl (by intro j u hj; match j, hj with | 0, hj => (simp at hj; subst hj; simp [Addr.add]) | 1, hj => (simp at hj; subst hj; simp [Addr.add]) | j + 2, hj => (simp at hj)) flt_two (by unfold maxLen; omega) (by omega) (by first | omega | (simp <;> omega)) ?_; intro v' w3 o3 hgrow3 _; have B3 := Hb.mk (Below.grown (a := w1) (show Below w1.heap.size w1 _ from (by repeat (first | exact hB.out | refine Below.drews ?_ | refine Below.drew ?_ | refine Below.alloc ?_ (by have hq_ := hB.out.size; first | omega | (simp <;> omega)) _ | refine Below.setCell ?_ (by have hq_ := hB.out.size; first | omega | (simp <;> omega)) _))) hgrow3 (by first | omega | (simp <;> omega)) (fun k h => cu_ge hown.out h)); have O3 := Hf.mk o3; clear o3 hgrow3)
        go_roundw
        case rel => exact ⟨i + 1, by omega, i_ext2 (by omega), ⟨by rw [← HT.out]; exact O3.out⟩, B3⟩
        case measure => simp [intOf]; omega
      · obtain rfl : i = n := by omega
        obtain ⟨g', c', rfl, _, _⟩ := dec_form hown.out (by omega)
        have BW := Hb.mk (Below.on (B := w.heap.size) (a := w) B1.out hB.out B1.out.size)
        have HF := Hf.mk (frow_own (xs := ys) (show 2 * i = ys.length by have := HN.out; omega) (by have := hown.out; rw [List.take_of_length_le (by have := HN.out; omega)] at this; exact this))
        go_wp2_with (go_at_call 43; refine (KN.out _ _ _ HF.out (HD.out.on (by repeat (first | with_reducible refine Below.setCell ?_ (by first | omega | (simp <;> omega)) _ | with_reducible refine Below.drews ?_ | with_reducible refine Below.drew ?_ | with_reducible refine Below.alloc ?_ (by first | omega | (simp <;> omega)) _ | with_reducible exact BW.out | with_reducible exact Below.refl _ _)))).mono ?_; rintro e w2 ⟨rfl, b2⟩; have B2 := Hb.mk (Below.on (B := w.heap.size) (a := w) (by repeat (first | exact BW.out | refine Below.drews ?_ | refine Below.drew ?_ | refine Below.alloc ?_ (by have hq_ := BW.out.size; first | omega | (simp <;> omega)) _ | refine Below.setCell ?_ (by have hq_ := BW.out.size; first | omega | (simp <;> omega)) _)) b2 (by have hq_ := BW.out.size; first | omega | (simp <;> omega))); clear b2)
        go_ret2
        exact ⟨by rw [K.out]; rfl, (by repeat (first | exact B2.out | refine Below.drews ?_ | refine Below.drew ?_ | refine Below.alloc ?_ (by have hq_ := B2.out.size; first | omega | (simp <;> omega)) _ | refine Below.setCell ?_ (by have hq_ := B2.out.size; first | omega | (simp <;> omega)) _))⟩
theorem law_PlacesText {a : Option Addr} {cap n : Nat} {ys : List Nat} (w : World) (hr : FRow w a ys) (hw : Wf ys) (hn : ys.length = 2 * n) (hm : n ≤ 9223372036854775807) (hd : Db4 w) : Calls Tryd.prog 3 #[.slice a n cap] w (RS (.bool true) w) := by
  have HR := Hf.mk hr
  have HW := Hf.mk hw
  have HN := Hf.mk hn
  have HD := Hf.mk hd
  have B0 := Hb.mk (Below.refl w.heap.size w)
  by_cases hl : n ≤ 1048576
  · have KZ := Hf.mk (szPS_yes (a := a) (cap := cap) hl)
    have KS := Hf.mk (fun (g : Nat) w hr => sPlacesText_any (g := g) (n := n) (ys := ys) w hr hw hn hl)
    have KI := Hf.mk (fun (g : Nat) w hr hd => iPlacesText_any (g := g) (n := n) (ys := ys) w hr hw hn hl hd)
    unfold ptV txV at KS KI
    generalize (if arePl ys n = true then ofL (txtW (hexW ys)) else ⟨#[]⟩) = A at KS KI
    generalize arePl ys n = b at KS KI
    clear hr hw hn hd
    cases b
    all_goals
      go_enter Tryd.func3, Tryd.ntmps3
      have tk_a : True := trivial; have tk_b : True := trivial; have tk_c : True := trivial
      go_wp2_with (first
        | (go_at_call 10; refine (KZ.out _).mono ?_; rintro e w' ⟨rfl, n0, rfl⟩)
        | (go_at_call 12; clear tk_a; refine (toPS_any _ (HR.out.drew _) HN.out hl).mono ?_; rintro e w1 ⟨rfl, o1, b1⟩; have O1 := Hf.mk o1; have B1 := Hb.mk (Below.on (B := w.heap.size) (a := w) (by repeat (first | exact B0.out | refine Below.drews ?_ | refine Below.drew ?_ | refine Below.alloc ?_ (by have hq_ := B0.out.size; first | omega | (simp <;> omega)) _ | refine Below.setCell ?_ (by have hq_ := B0.out.size; first | omega | (simp <;> omega)) _)) b1 (by have hq_ := B0.out.size; first | omega | (simp <;> omega))); clear o1 b1)
        | (go_at_call 11; refine (KS.out _ _ O1.out).mono ?_; rintro e w2 ⟨rfl, b2⟩; have B2 := Hb.mk (Below.on (B := w.heap.size) (a := w) (by repeat (first | exact B1.out | refine Below.drews ?_ | refine Below.drew ?_ | refine Below.alloc ?_ (by have hq_ := B1.out.size; first | omega | (simp <;> omega)) _ | refine Below.setCell ?_ (by have hq_ := B1.out.size; first | omega | (simp <;> omega)) _)) b2 (by have hq_ := B1.out.size; first | omega | (simp <;> omega))); clear b2)
        | (go_at_call 12; clear tk_b; refine (toPS_any _ (HR.out.below (by repeat (first | with_reducible refine Below.setCell ?_ (by first | omega | (simp <;> omega)) _ | with_reducible refine Below.drews ?_ | with_reducible refine Below.drew ?_ | with_reducible refine Below.alloc ?_ (by first | omega | (simp <;> omega)) _ | with_reducible exact B2.out | with_reducible exact Below.refl _ _))) HN.out hl).mono ?_; rintro e w3 ⟨rfl, o3, b3⟩; have O3 := Hf.mk o3; have B3 := Hb.mk (Below.on (B := w.heap.size) (a := w) (by repeat (first | exact B2.out | refine Below.drews ?_ | refine Below.drew ?_ | refine Below.alloc ?_ (by have hq_ := B2.out.size; first | omega | (simp <;> omega)) _ | refine Below.setCell ?_ (by have hq_ := B2.out.size; first | omega | (simp <;> omega)) _)) b3 (by have hq_ := B2.out.size; first | omega | (simp <;> omega))); clear o3 b3)
        | (go_at_call 13; refine (KI.out _ _ O3.out (HD.out.on (by repeat (first | with_reducible refine Below.setCell ?_ (by first | omega | (simp <;> omega)) _ | with_reducible refine Below.drews ?_ | with_reducible refine Below.drew ?_ | with_reducible refine Below.alloc ?_ (by first | omega | (simp <;> omega)) _ | with_reducible exact B3.out | with_reducible exact Below.refl _ _)))).mono ?_; rintro e w4 ⟨rfl, b4⟩; have O4 := Hf.mk (O3.out.below b4); have B4 := Hb.mk (Below.on (B := w.heap.size) (a := w) (by repeat (first | exact B3.out | refine Below.drews ?_ | refine Below.drew ?_ | refine Below.alloc ?_ (by have hq_ := B3.out.size; first | omega | (simp <;> omega)) _ | refine Below.setCell ?_ (by have hq_ := B3.out.size; first | omega | (simp <;> omega)) _)) b4 (by have hq_ := B3.out.size; first | omega | (simp <;> omega))); clear b4)
        | (go_at_call 12; clear tk_c; refine (toPS_any _ (HR.out.below (by repeat (first | with_reducible refine Below.setCell ?_ (by first | omega | (simp <;> omega)) _ | with_reducible refine Below.drews ?_ | with_reducible refine Below.drew ?_ | with_reducible refine Below.alloc ?_ (by first | omega | (simp <;> omega)) _ | with_reducible exact B4.out | with_reducible exact Below.refl _ _))) HN.out hl).mono ?_; rintro e w5 ⟨rfl, o5, b5⟩; have O5 := Hf.mk o5; have O6 := Hf.mk (O4.out.below b5); have B5 := Hb.mk (Below.on (B := w.heap.size) (a := w) (by repeat (first | exact B4.out | refine Below.drews ?_ | refine Below.drew ?_ | refine Below.alloc ?_ (by have hq_ := B4.out.size; first | omega | (simp <;> omega)) _ | refine Below.setCell ?_ (by have hq_ := B4.out.size; first | omega | (simp <;> omega)) _)) b5 (by have hq_ := B4.out.size; first | omega | (simp <;> omega))); clear o5 b5)
        | (go_at_call 14; refine (eqPS_any _ O6.out O5.out HW.out HN.out hl).mono ?_; rintro e w6 ⟨rfl, b6⟩; have B6 := Hb.mk (Below.on (B := w.heap.size) (a := w) (by repeat (first | exact B5.out | refine Below.drews ?_ | refine Below.drew ?_ | refine Below.alloc ?_ (by have hq_ := B5.out.size; first | omega | (simp <;> omega)) _ | refine Below.setCell ?_ (by have hq_ := B5.out.size; first | omega | (simp <;> omega)) _)) b6 (by have hq_ := B5.out.size; first | omega | (simp <;> omega))); clear b6))
      go_ret
      exact ⟨rfl, (by repeat (first | exact B6.out | refine Below.drews ?_ | refine Below.drew ?_ | refine Below.alloc ?_ (by have hq_ := B6.out.size; first | omega | (simp <;> omega)) _ | refine Below.setCell ?_ (by have hq_ := B6.out.size; first | omega | (simp <;> omega)) _))⟩
  · have KZ := Hf.mk (szPS_no (a := a) (cap := cap) (n := n) (by omega) hm)
    go_enter Tryd.func3, Tryd.ntmps3
    go_wp2_with (first | (go_at_call 10; refine (KZ.out _).mono ?_; rintro e w' ⟨rfl, n0, rfl⟩))
    go_ret
    exact ⟨rfl, (by repeat (first | exact Below.refl _ _ | with_reducible assumption | refine Below.drews ?_ | refine Below.drew ?_ | refine Below.alloc ?_ (by simp <;> omega) _ | refine Below.setCell ?_ (by simp <;> omega) _))⟩
/-- What a laid table tells. -/
def untab : DataW Unit → List Int
  | .agg l => l.map fun | .lit (.int _ z) => z | _ => 0
  | _ => []
theorem tab_PlacesText {W : World} (h : laidMetH Tryd.prog Rows.fnExactPlacesTextRow.laid W) : Db4 W := by
  rw [MakeChecks.laidMetH_plain _ _ _ (by kernel_rfl)] at h
  have e : (Rows.laid_math_bits_deBruijn64tab : DataW Unit) = Lib.tabData .u8 (untab Rows.laid_math_bits_deBruijn64tab) := by kernel_rfl
  have h2 := laidMet.tail h
  rw [e] at h2
  have h3 := Lib.tabIs_of_head (g := 6) (t := 194) (e := 5) (n := 64) (by kernel_rfl) (by kernel_rfl) Tryd.underlying194 Tryd.underlying5 (by kernel_rfl) (by kernel_rfl) h2
  have h4 := Lib.TabIs.cell h3 (g := 6) (by kernel_rfl) 15 (of_decide_eq_true (by kernel_rfl))
  rw [show (untab Rows.laid_math_bits_deBruijn64tab).getD 15 0 = 4 by kernel_rfl] at h4
  exact h4
end Go.Proofs.YtcgakdgfmhkpjaaDoor
