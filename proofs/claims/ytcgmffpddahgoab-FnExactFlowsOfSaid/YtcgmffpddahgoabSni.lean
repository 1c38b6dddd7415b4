/-
  SinksOf, of the program. No premise beyond those named.
-/
import Derived.Test.YtcgmffpddahgoabStm
namespace Go.Proofs.Ytcgmffpddahgoab
open Go Go.RowKit Go.Shelf
set_option maxRecDepth 100000
attribute [local go_sem] Oper.semAt_some

theorem wpListIn_make_full {F : Fence} {N : Nat} {P : Program} (w : World) {ops : Array Oper} {rest : List Oper} {o : Oper} {a : Act} {Q : Exit → Act → World → Prop}
    (hg : o.guard = none) (l c : Operand) (t : TypeId) (hop : o.op = Op.makeSlice t l c)
    (base : Nat) (e : TypeId) (i : TypeInfo) (z : Value) (size : Nat) (h1 : P.underlying t = some (.slice e)) (h2 : P.info? e = some i) (h3 : i.zero = some z) (h4 : i.size = size)
    (kl kc : IntKind) (L C : Int) (n : Nat) (hl : a.eval l = .int kl L) (hc : a.eval c = .int kc C) (hL : L = (n : Int)) (hC : C = (n : Int)) (b2 : i.bytes * n ≤ 281474976710656) (b3 : n ≤ maxLen) (b4 : base ≤ w.heap.size)
    (hK : ∀ w', w'.ownsRow base e size (.slice (some ⟨w.heap.size, 0, none⟩) n n) n (madeCells z.cells (n * size)).toList → w.grownBy w' none → wpListIn F N P ops Q rest (a.put o.dst (.slice (some ⟨w.heap.size, 0, none⟩) n n)) w') :
    wpListIn F N P ops Q (o :: rest) a w := by
  refine wpListIn_plain hg fun K hK' => ?_
  obtain ⟨w', hrun, r1, r2⟩ := run_make_full (P := P) w base t e i z size h1 h2 h3 h4 kl kc n b2 b3 b4
  subst hL
  subst hC
  unfold Oper.wpIn
  refine ⟨?_, ?_⟩
  · simp [Oper.about, hop]
  · rw [Oper.semAt_plain F _ _ (by rw [hop]; intro c hc'; cases hc')]
    simp [execOp, hop, hl, hc, hrun, Result.andThen]
    exact hK' _ _ (hK w' r1 r2)
theorem mades_int {n : Nat} : (madeCells (Value.int .i64 0).cells (n * 1)).toList = List.replicate n (Value.int .i64 0) := by
  apply List.ext_getElem
  · simp [madeCells]
  · intro i h1 h2
    simp [madeCells, Value.cells, Nat.mod_one]
theorem cell_kept_set {W : World} {b o b2 o2 : Nat} {u v : Value} (hne : b2 ≠ b) (h : W.cell? ⟨b, o, none⟩ = some v) : (W.setCell ⟨b2, o2, none⟩ u).cell? ⟨b, o, none⟩ = some v := by
  rw [World.cell?_setCell_other]
  · exact h
  · intro he
    injection he with h1 _
    exact hne (by omega)
/-- where water ended last, of these -/
def snkV (pre : List (Nat × Nat)) (j : Nat) : Int := pre.foldl (fun s x => if x.1 = j then (x.2 : Int) else s) 0
theorem snkV_snoc {pre : List (Nat × Nat)} {x : Nat × Nat} {j : Nat} : snkV (pre ++ [x]) j = if x.1 = j then (x.2 : Int) else snkV pre j := by simp [snkV]
theorem fold_same {m j : Nat} : ∀ (l : List Nat) (s : Int), (l.map (fun i => (m, i))).foldl (fun s x => if x.1 = j then (x.2 : Int) else s) s = if m = j then l.foldl (fun (_ : Int) (i : Nat) => (i : Int)) s else s := by
  intro l
  induction l with
  | nil => intro s; simp
  | cons a l ih =>
    intro s
    rw [List.map_cons, List.foldl_cons, ih, List.foldl_cons]
    by_cases h : m = j <;> simp [h]
theorem fold_last : ∀ (l : List Nat) (a : Nat), (l.foldl (fun (_ : Int) (i : Nat) => (i : Int)) (a : Int)) = ((l.getLastD a : Nat) : Int) := by
  intro l
  induction l with
  | nil => intro a; rfl
  | cons b l ih => intro a; rw [List.foldl_cons, ih, List.getLastD_cons]
theorem snkV_vis {D : Nat → Int} {r : Nat → Nat} {n j : Nat} (h : Dn D r n) (hj : j < n) : snkV (visL D n n) j = (skL D n j : Int) := by
  have key : ∀ m, m ≤ n → snkV (visL D n m) j = if j < m then (skL D n j : Int) else 0 := by
    intro m
    induction m with
    | zero => intro _; simp [visL, snkV]
    | succ m ih =>
      intro hm
      have e := ih (by omega)
      rw [visL_succ]
      unfold snkV at *
      rw [List.foldl_append, e, fold_same]
      by_cases hmj : m = j
      · subst hmj
        rw [if_pos rfl]
        unfold skL
        rw [pthI_cons h hj, List.foldl_cons, fold_last, List.getLastD_cons, if_pos (Nat.lt_succ_self m)]
      · rw [if_neg hmj]
        by_cases hlt : j < m
        · rw [if_pos hlt, if_pos (by omega)]
        · rw [if_neg hlt, if_neg (by omega)]
  rw [key n (Nat.le_refl _), if_pos hj]
theorem strm_any (a : Option Addr) (n cap : Nat) (w : World) : Calls Try.prog 87 #[.slice a n cap] w (fun e w' => e = .returned (.func (.func 129) #[] #[.pointer (some ⟨w.heap.size, 0, none⟩)]) ∧ w' = w.alloc (.cells #[.slice a n cap] 56)) := by
  go_enter Try.func87, Try.ntmps87
  go_wp2
  go_ret
  exact ⟨rfl, rfl⟩
set_option maxHeartbeats 8000000 in
theorem iSinks_any {g n k : Nat} {wd hg : Int} {f : Nat → Nat} (hfl : ∀ j, Fl .f32 (f j) (f j)) (w : World) (h : Told w g n f) (hl : n ≤ 1048576) : Calls Try.prog 44 #[gd wd hg (sl g n k)] w (RLy 2 (drB (gridB wd hg n f) f wd hg n) (ils (skV (gridB wd hg n f) f wd hg n)) w) := by
  obtain ⟨i0, hi0, hz0, hz1, hz2⟩ := info_parts (P := Try.prog) (e := 2) (z := .int .i64 0) (size := 1) (bytes := 8) (by kernel_rfl)
  have KD := Hf.mk (fun w (h : Told w g n f) => iDrains_any (k := k) (wd := wd) (hg := hg) hfl w h hl)
  have H := Hf.mk h
  have B0 := Hb.mk (Below.refl w.heap.size w)
  clear h
  cases hb : drB (gridB wd hg n f) f wd hg n
  · have KV := Keep.mk (show skV (gridB wd hg n f) f wd hg n = [] by unfold skV; rw [hb]; rfl)
    rw [hb] at KD
    clear hb
    refine (callsIn_wide (n := 4)).1 ?_
    refine callsIn_of_wp_marks Try.func44 rfl trivial ?_ rfl
    simp only [Try.ntmps44, List.size_toArray, List.length_cons, List.length_nil, Nat.reduceAdd, Nat.reduceSub, Array.replicate_succ, Array.replicate_zero, List.push_toArray, List.append_toArray, List.nil_append, List.cons_append]
    gi_wp2_with (first | (refine ⟨trivial, ?_⟩; gi_at_call 39; refine (callsIn_wide.2 (KD.out _ (H.out.below (by repeat (first | exact Below.refl _ _ | with_reducible assumption | refine Below.drews ?_ | refine Below.drew ?_ | refine Below.alloc ?_ (by simp <;> omega) _ | refine Below.setCell ?_ (by simp <;> omega) _))))).mono ?_; rintro e w1 ⟨⟨v, rfl, o1⟩, b1⟩; have B1 := Hb.mk (Below.on (B := w.heap.size) (a := w) (by repeat (first | exact B0.out | refine Below.drews ?_ | refine Below.drew ?_ | refine Below.alloc ?_ (by have hq_ := B0.out.size; first | omega | (simp <;> omega)) _ | refine Below.setCell ?_ (by have hq_ := B0.out.size; first | omega | (simp <;> omega)) _)) b1 (by have hq_ := B0.out.size; first | omega | (simp <;> omega))); clear o1 b1))
    refine ⟨_, results_tmp2 rfl _ _ _, ?_⟩
    rw [KV.out]
    exact RLy.nil (by repeat (first | with_reducible refine Below.setCell ?_ (by first | omega | (simp <;> omega)) _ | with_reducible refine Below.drews ?_ | with_reducible refine Below.drew ?_ | with_reducible refine Below.alloc ?_ (by first | omega | (simp <;> omega)) _ | with_reducible exact B1.out | with_reducible exact Below.refl _ _))
  · obtain ⟨hg1, hok⟩ := drB_of hb
    obtain ⟨W, Hh, hG⟩ := gridB_of hg1
    obtain rfl := hG.w
    obtain rfl := hG.h
    have hvl := drV_of hb
    rw [hb] at KD
    rw [hvl] at KD
    have hD := dn_of hG hok
    have KV := Keep.mk (show skV (gridB (W : Int) (Hh : Int) n f) f (W : Int) (Hh : Int) n = snkL (dnF f W Hh) n n by unfold skV; rw [hb]; rfl)
    have KL := Hf.mk (drL_len (f := f) (W := W) (Hh := Hh) (m := n))
    have KG := Hf.mk (fun i (hi : i < n) => drL_get (f := f) (W := W) (Hh := Hh) hi)
    rw [Int.toNat_natCast, Int.toNat_natCast] at KD
    have n256 := hG.n256
    have HD := Hf.mk hD
    clear hb hg1 hok hG hvl hD
    generalize dnF f W Hh = D at *
    generalize drL f W Hh n = L at *
    refine (callsIn_wide (n := 4)).1 ?_
    refine callsIn_of_wp_marks Try.func44 rfl trivial ?_ rfl
    simp only [Try.ntmps44, List.size_toArray, List.length_cons, List.length_nil, Nat.reduceAdd, Nat.reduceSub, Array.replicate_succ, Array.replicate_zero, List.push_toArray, List.append_toArray, List.nil_append, List.cons_append]
    gi_wp2_with (first | (refine ⟨trivial, ?_⟩; gi_at_call 39; refine (callsIn_wide.2 (KD.out _ (H.out.below (by repeat (first | exact Below.refl _ _ | with_reducible assumption | refine Below.drews ?_ | refine Below.drew ?_ | refine Below.alloc ?_ (by simp <;> omega) _ | refine Below.setCell ?_ (by simp <;> omega) _))))).mono ?_; rintro e w1 ⟨⟨v, rfl, o1⟩, b1⟩; have B1 := Hb.mk (Below.on (B := w.heap.size) (a := w) (by repeat (first | exact B0.out | refine Below.drews ?_ | refine Below.drew ?_ | refine Below.alloc ?_ (by have hq_ := B0.out.size; first | omega | (simp <;> omega)) _ | refine Below.setCell ?_ (by have hq_ := B0.out.size; first | omega | (simp <;> omega)) _)) b1 (by have hq_ := B0.out.size; first | omega | (simp <;> omega))); have r0 := Hb.mk (At.keep b1 (p := ⟨(w.heap.size), 0, none⟩) (v := .int .i64 W) (by simp [go_sem]) (by simp [go_sem])); obtain ⟨r0c, r0z, r0l⟩ := r0.out; have r1 := Hb.mk (At.keep b1 (p := ⟨(w.heap.size), 1, none⟩) (v := .int .i64 Hh) (by simp [go_sem]) (by simp [go_sem])); obtain ⟨r1c, r1z, r1l⟩ := r1.out; have r2 := Hb.mk (At.keep b1 (p := ⟨(w.heap.size), 2, none⟩) (v := sl g n k) (by simp [go_sem]) (by simp [go_sem])); obtain ⟨r2c, r2z, r2l⟩ := r2.out; clear b1; rw [ils_len, KL.out] at o1; have L1 := Hf.mk o1.lt; obtain ⟨a1, k1, rfl, hl1, q1⟩ := irow_vown o1; have R1 := Hf.mk q1; clear o1 q1 hl1) | (gi_at_make; refine wpListIn_make_full _ rfl _ _ 56 rfl w1.heap.size 2 i0 _ 1 Try.underlying56 hi0 hz0 hz1 .i64 .i64 _ _ n rfl rfl rfl rfl (by rw [hz2]; omega) (by unfold maxLen; omega) (Nat.le_refl _) ?_; intro w0 hown0 hgrow0) | (refine ⟨trivial, ?_⟩; gi_at_call 87; refine (callsIn_wide.2 (strm_any _ _ _ _)).mono ?_; rintro e w2 ⟨rfl, rfl⟩))
    have L0 := own_lt hown0
    have b00 : Below w1.heap.size w1 w0 := (Below.refl _ _).grown hgrow0 (Nat.le_refl _) (fun k h => by cases h)
    have S1 := B1.out.size
    have hlen0 : (madeCells (Value.int .i64 0).cells (n * 1)).toList = List.replicate n (Value.int .i64 0) := mades_int
    rw [hlen0] at hown0
    have hA : ∀ p, a1 = some p → p.block ≠ w1.heap.size := by
      rintro p rfl
      have h := (L1.out p.block rfl).2
      omega
    have SM : ∀ (o : Obj), (w0.alloc o).heap.size = w0.heap.size + 1 := fun o => by simp
    have z0 : Below w0.heap.size w0 ((w0.alloc (.cells #[.slice (some ⟨w1.heap.size, 0, none⟩) n n] 56)).alloc (.cells #[.slice a1 n k1] 56)) := ((Below.refl _ w0).alloc (Nat.le_refl _) _).alloc (by simp) _
    have bx := Boxed.new w0 56 (.slice (some ⟨w1.heap.size, 0, none⟩) n n)
    have bs := Boxed.new (w0.alloc (.cells #[.slice (some ⟨w1.heap.size, 0, none⟩) n n] 56)) 56 (.slice a1 n k1)
    rw [World.size_alloc] at bs
    have hB1 := Below.on b00 z0 (by omega)
    obtain ⟨W0, hW0⟩ : ∃ W0, ((w0.alloc (.cells #[.slice (some ⟨w1.heap.size, 0, none⟩) n n] 56)).alloc (.cells #[.slice a1 n k1] 56)) = W0 := ⟨_, rfl⟩
    have ZW : W0.heap.size = w0.heap.size + 2 := by rw [← hW0]; simp
    have bx' := bx.alloc (.cells #[.slice a1 n k1] 56)
    have hown1 := iown_below hown0 z0
    have hrow1 := R1.out.below hB1
    rw [hW0] at z0 bs bx' hB1 hown1 hrow1 ⊢
    refine wpIn_rangeFunc_ownF rfl (by decide) (gf := 129) (lb := #[.pointer (some ⟨w0.heap.size + 1, 0, none⟩)]) rfl trivial (enters_of Try.func129 (by kernel_rfl) rfl)
      (show SeqStopsK Fence.wide (4 - 1) Try.prog 129 #[.pointer (some ⟨w0.heap.size + 1, 0, none⟩)] (fun x : V2 n => #[Value.int .i64 (x.1.1 : Int), Value.int .i64 (x.1.2 : Int)]) (KpO w1.heap.size) (fun ys => ys.map Subtype.val = visL D n n) (fun _ => True) (n * n) W0 from fun l J Jx W hW _ _ hY h0 =>
        strm1_in Fence.wide (4 - 1) trivial rfl (by decide) l (w0.heap.size + 1) w1.heap.size k1 a1 L HD.out KL.out KG.out hA (by omega) n256 J Jx hY W ((hW.cell (p := ⟨w0.heap.size + 1, 0, none⟩) (by simp [ZW])).trans bs.cell) (hrow1.below hW) h0)
      kpO_t (fun W l o o' h1 h2 h3 h4 => kpO_b W l o o' h1 h2 h3 h4) (Below.refl _ _) (fun _ => rfl)
      (fun pre W => (W.cell? ⟨w0.heap.size, 0, none⟩ = some (.slice (some ⟨w1.heap.size, 0, none⟩) n n) ∧ ∃ cu, W.ownsRow w1.heap.size 2 1 (.slice (some ⟨w1.heap.size, 0, none⟩) n n) n cu ∧ ∀ j, j < n → cu[j]? = some (.int .i64 (snkV (pre.map Subtype.val) j))) ∧ Below w1.heap.size w1 W)
      (fun _ _ _ => False)
      (OwnFrom.and (fun s A B row hs hg hr => ⟨cell_kept hs.1 hg (fun r e => (hr r e).2), by
        obtain ⟨_, cu, h1, h2⟩ := hs
        exact ⟨cu, h1.kept hg (.inr (fun e => by have := (hr w1.heap.size (by rw [← e]; rfl)).1; omega)), h2⟩⟩) (ownFrom_below (Nat.le_refl _) (by omega)))
      (fun _ _ _ _ _ hs _ _ => hs)
      ⟨⟨bx'.cell, _, hown1, fun j hj => by rw [List.getElem?_replicate]; simp [hj, snkV]⟩, hB1⟩
      (fun x => { tmps := #[gd (W : Int) (Hh : Int) (sl g n k), .pointer (some ⟨w.heap.size, 0, none⟩), .slice none 0 0, .bool false, .slice a1 n k1, .bool true, .pointer (some ⟨w0.heap.size, 0, none⟩), .int .i64 (x.1.1 : Int), .int .i64 (x.1.2 : Int), .tuple #[.slice a1 n k1, .bool true], .agg #[.int .i64 (W : Int), .int .i64 (Hh : Int), sl g n k], .tuple #[.slice a1 n k1, .bool true], .slice a1 n k1, .bool true, .bool true, .bool false, .slice a1 n k1, .int .i64 (n : Int), .slice (some ⟨w1.heap.size, 0, none⟩) n n, .slice a1 n k1, .func (.func 129) #[] #[.pointer (some ⟨w0.heap.size + 1, 0, none⟩)], .int .i64 (x.1.1 : Int), .int .i64 (x.1.2 : Int), undef, undef, undef, undef, undef], defers := [] }) ?assign ?body ?done ?stop
    case assign =>
      intro l x W K hK
      gi_wp2
      exact hK
    case body =>
      rintro l pre x W ⟨⟨hc, cu, ho, hcu⟩, hB⟩ _
      have hx := x.2.1
      have hlen : cu.length = n * 1 := ho.1
      obtain ⟨old0, hold0⟩ : ∃ old, cu[x.1.1]? = some old := ⟨_, List.getElem?_eq_getElem (by omega)⟩
      have cz : W.cell? ⟨w1.heap.size, x.1.1, none⟩ = some old0 := (ho.cellAt x.1.1 (by omega)).trans hold0
      have fz := ho.frozenAt x.1.1
      have hst := ho.stored x.1.1 (.int .i64 (x.1.2 : Int))
      gi_wp2
      refine ⟨KeepsOthers.setCell _ _ _, kpO_set _ _, ⟨(cell_kept_set (by omega) hc), _, hst.1, fun j hj => ?_⟩, hB.setCell (p := ⟨w1.heap.size, x.1.1, none⟩) (Nat.le_refl _) _⟩
      rw [List.map_append, List.map_cons, List.map_nil, snkV_snoc]
      by_cases he : x.1.1 = j
      · subst he; rw [List.getElem?_set_self (by omega), if_pos rfl]
      · rw [List.getElem?_set_ne (by omega), if_neg he]; exact hcu j hj
    case done =>
      rintro E ys W hE hys ⟨⟨hc, cu, ho, hcu⟩, hB⟩ hK
      gi_wp2
      refine ⟨by simp, .inl ⟨_, _, rfl, run_takeDeferred hK, ?_⟩⟩
      have KU := Hf.mk (show cu = ils (snkL D n n) by
        have hlen : cu.length = n * 1 := ho.1
        refine List.ext_getElem? (fun j => ?_)
        by_cases hj : j < n
        · rw [hcu j hj, hys, snkV_vis HD.out hj]
          simp [ils, snkL, List.getElem?_map, List.getElem?_range hj]
        · rw [List.getElem?_eq_none (by omega), List.getElem?_eq_none (by rw [ils_len, snkL_len]; omega)])
      refine ⟨_, results_tmp2 rfl _ _ _, ?_⟩
      rw [KV.out]
      refine ⟨⟨_, rfl, ?_⟩, Below.on B1.out (hB.trans (belowK_b (w := w1) (Nat.le_refl _) W E _ _ (by omega) hK rfl rfl)) S1⟩
      rw [ils_len, snkL_len]
      have := own_lower (ownsRow_putObj ho (.deferred none) hK rfl) S1
      rw [KU.out] at this
      exact this
    case stop =>
      rintro E c pre W _ _ h _
      exact h.elim
end Go.Proofs.Ytcgmffpddahgoab
