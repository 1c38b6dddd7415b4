/-
  Nets by value: places and roads. Copied, compared, measured; whether a net is valid, of the program and of its model. No premise beyond those named.
-/
import Derived.Test.YteclmjknmdlopaaRd
import Derived.Test.YteclmjknmdlopaaPls
namespace Go.Proofs.Yteclmjknmdlopaa
open Go Go.RowKit
set_option maxRecDepth 100000

abbrev nt (a : Option Addr) (n k : Nat) (b : Option Addr) (m l : Nat) : Value := .agg #[.slice a n k, .slice b m l]
abbrev sl2 (g n k : Nat) : Value := .slice (some ⟨g, 0, none⟩) n k
theorem frow_own2 {w : World} {base g n cap : Nat} {ys : List Nat} {e : TypeId} (hn : ys.length = 2 * n) (h : w.ownsRow base e 2 (.slice (some ⟨g, 0, none⟩) n cap) n (fls ys)) : FRow w (some ⟨g, 0, none⟩) ys := by
  intro i hi
  refine ⟨_, rfl, ?_⟩
  have := h.cellAt i (by omega)
  rw [add_at, this]
  simp [fls, List.getElem?_map, List.getElem?_eq_getElem hi]
theorem irow_own3 {w : World} {base g n cap : Nat} {xs : List Int} {e : TypeId} (hn : xs.length = 3 * n) (h : w.ownsRow base e 3 (.slice (some ⟨g, 0, none⟩) n cap) n (ils xs)) : IRow w (some ⟨g, 0, none⟩) xs := irow_own (k := 3) hn.symm h
theorem quiet_ofN {P : Program} {f : FuncId} {args : Array Value} {w : World} {q n : Nat} {v : Value}
    (h : Calls P f args (w.drewN (q + n)) fun e w' => e = .returned v ∧ ∃ m, w' = (w.drewN (q + n)).drewN m) : Calls P f args (w.drewN (q + n)) fun e w'' => e = .returned v ∧ ∃ m, w'' = w.drewN (q + m) :=
  h.mono fun _ _ ⟨he, m, hm⟩ => ⟨he, n + m, by rw [hm, World.drewN_drewN, Nat.add_assoc]⟩
theorem rown_other {w : World} {base : Nat} {e : TypeId} {size g n cap : Nat} {xs : List Value} (h : w.ownsRow base e size (.slice (some ⟨g, 0, none⟩) n cap) n xs) {a : Addr} (ha : g ≠ a.block) (u : Value) : (w.setCell a u).ownsRow base e size (.slice (some ⟨g, 0, none⟩) n cap) n xs :=
  h.kept (row := some a.block) ⟨rfl, rfl, rfl, by simp, fun k _ hk => Below.heap_setCell _ _ _ _ (fun e => hk (by rw [e]))⟩ (.inr (by simp only [Value.ownBlock]; exact fun e => ha (by injection e)))
theorem rown_lower {w : World} {base base' : Nat} {e : TypeId} {size n : Nat} {v : Value} {xs : List Value} (h : w.ownsRow base e size v n xs) (hb : base' ≤ base) : w.ownsRow base' e size v n xs := by
  obtain ⟨h1, h2 | ⟨g, cap, cs, h3, h4, r⟩⟩ := h
  · exact ⟨h1, .inl h2⟩
  · exact ⟨h1, .inr ⟨g, cap, cs, h3, Nat.le_trans hb h4, r⟩⟩
theorem toPSo_any {a : Option Addr} {n cap : Nat} {ys : List Nat} (w : World) (hr : FRow w a ys) (hn : ys.length = 2 * n) (hl : n ≤ 1048576) : Calls Try.prog 24 #[.slice a n cap] w (fun e w' => e = .returned (.slice (some ⟨w.heap.size, 0, none⟩) n n) ∧ w'.ownsRow w.heap.size 50 2 (.slice (some ⟨w.heap.size, 0, none⟩) n n) n (fls ys) ∧ Below w.heap.size w w') := by
  obtain ⟨i0, hi, hz0, hz1, hz2⟩ := info_parts (P := Try.prog) (e := 50) (z := pl 0 0) (size := 2) (bytes := 8) (by kernel_rfl)
  have HR := Hf.mk hr
  have HN := Hf.mk hn
  clear hr hn
  go_enter Try.func24, Try.ntmps24
  go_wp2_with (at_make; refine wpList_make_full _ rfl _ _ 30 rfl w.heap.size 50 i0 _ 2 Try.underlying30 hi hz0 hz1 .i64 .i64 _ _ n rfl rfl rfl rfl (by rw [hz2]; omega) (by unfold maxLen; omega) (Nat.le_refl _) ?_; intro w0 hown0 hgrow0)
  go_loopw [4] (fun i wr => ∃ (m : Nat) (cur : List Value), m ≤ n ∧ i = .int .i64 m ∧ Hf (wr.ownsRow w.heap.size 50 2 (.slice (some ⟨w.heap.size, 0, none⟩) n n) n cur) ∧ Hf (∀ j, j < 2 * m → cur[j]? = some (.float .f32 (ys.getD j 0))) ∧ Hf (Below w.heap.size w wr)) (fun i _ => n - (intOf i).toNat)
  case atStart => exact ⟨0, _, by omega, rfl, ⟨hown0⟩, ⟨fun j hj => absurd hj (Nat.not_lt_zero j)⟩, ⟨(Below.refl _ _).grown hgrow0 (Nat.le_refl _) (fun k h => by cases h)⟩⟩
  case round =>
    obtain ⟨m, cur, hm, rfl, hown, hcur, hbel⟩ := hrel
    by_cases hlt : m < n
    · obtain ⟨p, rfl⟩ := HR.out.some_of (by rw [HN.out]; omega)
      obtain ⟨c0, c1⟩ := (HR.out.below hbel.out).two HN.out hlt
      have hlen : cur.length = n * 2 := hown.out.1
      obtain ⟨old0, hold0⟩ : ∃ old, cur[m * 2]? = some old := ⟨_, List.getElem?_eq_getElem (by omega)⟩
      obtain ⟨old1, hold1⟩ : ∃ old, cur[m * 2 + 1]? = some old := ⟨_, List.getElem?_eq_getElem (by omega)⟩
      have d0 : wr.cell? ⟨w.heap.size, m * 2, none⟩ = some old0 := (hown.out.cellAt (m * 2) (by omega)).trans hold0
      have d1 : wr.cell? ⟨w.heap.size, m * 2 + 1, none⟩ = some old1 := (hown.out.cellAt (m * 2 + 1) (by omega)).trans hold1
      have z0 := hown.out.frozenAt (m * 2)
      have z1 := hown.out.frozenAt (m * 2 + 1)
      have lw := block_lt_of_cell d0
      simp at lw
      clear hold0 hold1
      go_wp2_with (first | (go_at_call 25; refine (toPlace_any _ _ _).mono ?_; rintro e w1 ⟨rfl, b1⟩; have B1 := Hb.mk b1; have e0 := Hb.mk (At.keep b1 d0 z0); have e1 := Hb.mk (At.keep b1 d1 z1); obtain ⟨e0c, e0z, e0l⟩ := e0.out; obtain ⟨e1c, e1z, e1l⟩ := e1.out; clear b1))
      go_roundw
      case rel =>
        have hst := (owns_below hown.out B1.out).stored (m * 2) (.float .f32 (nW ys m))
        have hst2 := hst.1.stored (m * 2 + 1) (.float .f32 (eW ys m))
        refine ⟨m + 1, _, by omega, i_ext2 (by omega), ⟨hst2.1⟩, ⟨?_⟩, ⟨Below.setCell (Below.setCell (Below.on hbel.out B1.out hbel.out.size) (Nat.le_refl _) _) (Nat.le_refl _) _⟩⟩
        intro j hj
        by_cases he : j = m * 2 + 1
        · subst he; rw [List.getElem?_set_self (by simp <;> omega)]; rfl
        · rw [List.getElem?_set_ne (by omega)]
          by_cases he : j = m * 2
          · subst he; rw [List.getElem?_set_self (by omega)]; rfl
          · rw [List.getElem?_set_ne (by omega)]; exact hcur.out j (by omega)
      case measure => simp [intOf]; omega
    · obtain rfl : m = n := by omega
      go_wp2
      go_ret
      have hlen : cur.length = 2 * m := by have := hown.out.1; omega
      refine ⟨rfl, ?_, hbel.out⟩
      have hc : cur = fls ys := fls_of (by rw [hlen, HN.out]) (fun j hj => hcur.out j (by rw [HN.out] at hj; omega))
      rw [hc] at hown
      exact hown.out
theorem tNet_any {a b : Option Addr} {n k m l : Nat} {ys : List Nat} {xs : List Int} (w : World) (hr : FRow w a ys) (hn : ys.length = 2 * n) (hl : n ≤ 1048576) (hq : IRow w b xs) (hm : xs.length = 3 * m) (hl2 : m ≤ 1048576) :
    Calls Try.prog 11 #[nt a n k b m l] w (fun e w' => ∃ g1 g2, e = .returned (nt (some ⟨g1, 0, none⟩) n n (some ⟨g2, 0, none⟩) m m) ∧ w'.ownsRow w.heap.size 50 2 (sl2 g1 n n) n (fls ys) ∧ w'.ownsRow w.heap.size 76 3 (sl2 g2 m m) m (ils xs) ∧ g1 < g2 ∧ Below w.heap.size w w') := by
  have HR := Hf.mk hr
  have HN := Hf.mk hn
  have HQ := Hf.mk hq
  have HM := Hf.mk hm
  clear hr hn hq hm
  have B0 := Hb.mk (Below.refl w.heap.size w)
  go_enter Try.func11, Try.ntmps11
  go_wp2_with (first
    | (go_at_call 24; refine (toPSo_any _ (HR.out.below (by repeat (first | exact Below.refl _ _ | with_reducible assumption | refine Below.drews ?_ | refine Below.drew ?_ | refine Below.alloc ?_ (by simp <;> omega) _ | refine Below.setCell ?_ (by simp <;> omega) _))) HN.out hl).mono ?_; rintro e w1 ⟨rfl, o1, b1⟩; have B1 := Hb.mk (Below.on (B := w.heap.size) (a := w) (by repeat (first | exact B0.out | refine Below.drews ?_ | refine Below.drew ?_ | refine Below.alloc ?_ (by have hq_ := B0.out.size; first | omega | (simp <;> omega)) _ | refine Below.setCell ?_ (by have hq_ := B0.out.size; first | omega | (simp <;> omega)) _)) b1 (by have hq_ := B0.out.size; first | omega | (simp <;> omega))); have p0 := Hb.mk (At.keep b1 (p := ⟨(w.heap.size), 0, none⟩) (v := .slice a n k) (by simp [go_sem]) (by simp [go_sem])); obtain ⟨p0c, p0z, p0l⟩ := p0.out; have p1 := Hb.mk (At.keep b1 (p := ⟨(w.heap.size), 1, none⟩) (v := .slice b m l) (by simp [go_sem]) (by simp [go_sem])); obtain ⟨p1c, p1z, p1l⟩ := p1.out; have q0 := Hb.mk (At.keep b1 (p := ⟨(w.heap.size + 1), 0, none⟩) (v := .slice none 0 0) (by simp [go_sem]) (by simp [go_sem])); obtain ⟨q0c, q0z, q0l⟩ := q0.out; have q1 := Hb.mk (At.keep b1 (p := ⟨(w.heap.size + 1), 1, none⟩) (v := .slice none 0 0) (by simp [go_sem]) (by simp [go_sem])); obtain ⟨q1c, q1z, q1l⟩ := q1.out; have r0 := Hb.mk (At.keep b1 (p := ⟨(w.heap.size + 2), 0, none⟩) (v := .slice none 0 0) (by simp [go_sem]) (by simp [go_sem])); obtain ⟨r0c, r0z, r0l⟩ := r0.out; have r1 := Hb.mk (At.keep b1 (p := ⟨(w.heap.size + 2), 1, none⟩) (v := .slice none 0 0) (by simp [go_sem]) (by simp [go_sem])); obtain ⟨r1c, r1z, r1l⟩ := r1.out; have L1 := o1.lt; simp only [World.size_alloc] at o1; have O1 := Hf.mk o1; have l1 := (o1.lt _ rfl).2; clear o1 b1 L1)
    | (go_at_call 31; refine (toRoS_any _ (HQ.out.below (by repeat (first | exact B1.out | refine Below.drews ?_ | refine Below.drew ?_ | refine Below.alloc ?_ (by have hq_ := B1.out.size; first | omega | (simp <;> omega)) _ | refine Below.setCell ?_ (by have hq_ := B1.out.size; first | omega | (simp <;> omega)) _))) HM.out hl2).mono ?_; rintro e w2 ⟨rfl, o2, b2⟩; simp only [World.size_setCell] at o2; have X1 := Hf.mk (rown_below (rown_other O1.out (by simp <;> omega) _) b2); have B2 := Hb.mk (Below.on (B := w.heap.size) (a := w) (by repeat (first | exact B1.out | refine Below.drews ?_ | refine Below.drew ?_ | refine Below.alloc ?_ (by have hq_ := B1.out.size; first | omega | (simp <;> omega)) _ | refine Below.setCell ?_ (by have hq_ := B1.out.size; first | omega | (simp <;> omega)) _)) b2 (by have hq_ := B1.out.size; first | omega | (simp <;> omega))); have q0 := Hb.mk (At.re q0.out b2 (by simp [go_sem, q0c]) (by simp [go_sem, q0z])); obtain ⟨q0c, q0z, q0l⟩ := q0.out; have q1 := Hb.mk (At.re q1.out b2 (by simp [go_sem, q1c]) (by simp [go_sem, q1z])); obtain ⟨q1c, q1z, q1l⟩ := q1.out; have r0 := Hb.mk (At.keep b2 (p := ⟨w.heap.size + 2, 0, none⟩) (v := .slice (some ⟨w.heap.size + 1 + 1 + 1, 0, none⟩) n n) (by simp [go_sem, r0c]) (by simp [go_sem, r0z])); obtain ⟨r0c, r0z, r0l⟩ := r0.out; have r1 := Hb.mk (At.re r1.out b2 (by simp [go_sem, r1c]) (by simp [go_sem, r1z])); obtain ⟨r1c, r1z, r1l⟩ := r1.out; have O2 := Hf.mk o2; have l2 := (o2.lt _ rfl).2; have s2 := b2.size; clear o2 b2))
  exact bodyPost_ret (v := nt (some ⟨w.heap.size + 1 + 1 + 1, 0, none⟩) n n (some ⟨w1.heap.size, 0, none⟩) m m) (by simp [results, Try.results11, go_sem, q0c, q1c]) rfl ⟨_, _, rfl, rown_other (rown_other (rown_other (rown_lower X1.out (by first | omega | (simp <;> omega))) (by first | omega | (simp <;> omega)) _) (by first | omega | (simp <;> omega)) _) (by first | omega | (simp <;> omega)) _, rown_other (rown_other (rown_other (rown_lower O2.out (by first | omega | (simp <;> omega))) (by first | omega | (simp <;> omega)) _) (by first | omega | (simp <;> omega)) _) (by first | omega | (simp <;> omega)) _, by omega, (by repeat (first | exact B2.out | refine Below.drews ?_ | refine Below.drew ?_ | refine Below.alloc ?_ (by have hq_ := B2.out.size; first | omega | (simp <;> omega)) _ | refine Below.setCell ?_ (by have hq_ := B2.out.size; first | omega | (simp <;> omega)) _))⟩
theorem szNet_yes {a b : Option Addr} {n k m l : Nat} (hl : n + m ≤ 1048576) (w : World) : Calls Try.prog 9 #[nt a n k b m l, .int .i64 1048576] w (RS (.int .i64 (1048576 - (n : Int) - (m : Int))) w) := by
  have K2 := Hf.mk (szRoS_yes (a := b) (n := m) (m := 1048576 - n) (cap := l) (by omega) (by omega))
  rw [show (((1048576 - n : Nat) : Int)) = 1048576 - (n : Int) by omega] at K2
  go_enter Try.func9, Try.ntmps9
  go_wp2_with (first
    | (go_at_call 22; refine (szPS_yes (a := a) (cap := k) (by omega) _).mono ?_; rintro e w' ⟨rfl, n0, rfl⟩)
    | (go_at_call 29; refine (K2.out _).mono ?_; rintro e w' ⟨rfl, n1, rfl⟩))
  go_ret
  exact ⟨rfl, (by repeat (first | exact Below.refl _ _ | with_reducible assumption | refine Below.drews ?_ | refine Below.drew ?_ | refine Below.alloc ?_ (by simp <;> omega) _ | refine Below.setCell ?_ (by simp <;> omega) _))⟩
theorem szNet_no {a b : Option Addr} {n k m l : Nat} (hl : 1048576 < n + m) (hm : n ≤ 9223372036854775807) (hm2 : m ≤ 9223372036854775807) (w : World) : Calls Try.prog 9 #[nt a n k b m l, .int .i64 1048576] w (RS (.int .i64 (-1)) w) := by
  by_cases h : n ≤ 1048576
  · have K2 := Hf.mk (szRoS_no (a := b) (n := m) (m := 1048576 - n) (cap := l) (by omega) hm2 (by omega))
    rw [show (((1048576 - n : Nat) : Int)) = 1048576 - (n : Int) by omega] at K2
    go_enter Try.func9, Try.ntmps9
    go_wp2_with (first
      | (go_at_call 22; refine (szPS_yes (a := a) (cap := k) h _).mono ?_; rintro e w' ⟨rfl, n0, rfl⟩)
      | (go_at_call 29; refine (K2.out _).mono ?_; rintro e w' ⟨rfl, n1, rfl⟩))
    go_ret
    exact ⟨rfl, (by repeat (first | exact Below.refl _ _ | with_reducible assumption | refine Below.drews ?_ | refine Below.drew ?_ | refine Below.alloc ?_ (by simp <;> omega) _ | refine Below.setCell ?_ (by simp <;> omega) _))⟩
  · go_enter Try.func9, Try.ntmps9
    go_wp2_with (first
      | (go_at_call 22; refine (szPS_no (a := a) (cap := k) (n := n) (by omega) hm _).mono ?_; rintro e w' ⟨rfl, n0, rfl⟩))
    go_ret
    exact ⟨rfl, (by repeat (first | exact Below.refl _ _ | with_reducible assumption | refine Below.drews ?_ | refine Below.drew ?_ | refine Below.alloc ?_ (by simp <;> omega) _ | refine Below.setCell ?_ (by simp <;> omega) _))⟩
theorem eqNet_any {g1 g2 h1 h2 n m : Nat} {ys : List Nat} {xs : List Int} (w : World) (r1 : FRow w (some ⟨g1, 0, none⟩) ys) (r2 : FRow w (some ⟨h1, 0, none⟩) ys) (hw : Wf ys) (hn : ys.length = 2 * n) (hl : n ≤ 1048576) (q1 : IRow w (some ⟨g2, 0, none⟩) xs) (q2 : IRow w (some ⟨h2, 0, none⟩) xs) (hm : xs.length = 3 * m) (hl2 : m ≤ 1048576) :
    Calls Try.prog 14 #[nt (some ⟨g1, 0, none⟩) n n (some ⟨g2, 0, none⟩) m m, nt (some ⟨h1, 0, none⟩) n n (some ⟨h2, 0, none⟩) m m] w (RS (.bool true) w) := by
  have R1 := Hf.mk r1
  have R2 := Hf.mk r2
  have Q1 := Hf.mk q1
  have Q2 := Hf.mk q2
  have HW := Hf.mk hw
  have HN := Hf.mk hn
  have HM := Hf.mk hm
  clear r1 r2 q1 q2 hw hn hm
  have B0 := Hb.mk (Below.refl w.heap.size w)
  go_enter Try.func14, Try.ntmps14
  go_wp2_with (first
    | (go_at_call 27; refine (eqPS_any _ (R1.out.below (by repeat (first | exact Below.refl _ _ | with_reducible assumption | refine Below.drews ?_ | refine Below.drew ?_ | refine Below.alloc ?_ (by simp <;> omega) _ | refine Below.setCell ?_ (by simp <;> omega) _))) (R2.out.below (by repeat (first | exact Below.refl _ _ | with_reducible assumption | refine Below.drews ?_ | refine Below.drew ?_ | refine Below.alloc ?_ (by simp <;> omega) _ | refine Below.setCell ?_ (by simp <;> omega) _))) HW.out HN.out hl).mono ?_; rintro e w1 ⟨rfl, b1⟩; have B1 := Hb.mk (Below.on (B := w.heap.size) (a := w) (by repeat (first | exact B0.out | refine Below.drews ?_ | refine Below.drew ?_ | refine Below.alloc ?_ (by have hq_ := B0.out.size; first | omega | (simp <;> omega)) _ | refine Below.setCell ?_ (by have hq_ := B0.out.size; first | omega | (simp <;> omega)) _)) b1 (by have hq_ := B0.out.size; first | omega | (simp <;> omega))); have p0 := Hb.mk (At.keep b1 (p := ⟨(w.heap.size), 0, none⟩) (v := .slice (some ⟨g1, 0, none⟩) n n) (by simp [go_sem]) (by simp [go_sem])); obtain ⟨p0c, p0z, p0l⟩ := p0.out; have p1 := Hb.mk (At.keep b1 (p := ⟨(w.heap.size), 1, none⟩) (v := .slice (some ⟨g2, 0, none⟩) m m) (by simp [go_sem]) (by simp [go_sem])); obtain ⟨p1c, p1z, p1l⟩ := p1.out; have q0 := Hb.mk (At.keep b1 (p := ⟨(w.heap.size + 1), 0, none⟩) (v := .slice (some ⟨h1, 0, none⟩) n n) (by simp [go_sem]) (by simp [go_sem])); obtain ⟨q0c, q0z, q0l⟩ := q0.out; have q1 := Hb.mk (At.keep b1 (p := ⟨(w.heap.size + 1), 1, none⟩) (v := .slice (some ⟨h2, 0, none⟩) m m) (by simp [go_sem]) (by simp [go_sem])); obtain ⟨q1c, q1z, q1l⟩ := q1.out; clear b1)
    | (go_at_call 33; refine (eqRoS_any _ ((Q1.out.below B1.out).below (by repeat (first | exact Below.refl _ _ | with_reducible assumption | refine Below.drews ?_ | refine Below.drew ?_ | refine Below.alloc ?_ (by simp <;> omega) _ | refine Below.setCell ?_ (by simp <;> omega) _))) ((Q2.out.below B1.out).below (by repeat (first | exact Below.refl _ _ | with_reducible assumption | refine Below.drews ?_ | refine Below.drew ?_ | refine Below.alloc ?_ (by simp <;> omega) _ | refine Below.setCell ?_ (by simp <;> omega) _))) HM.out hl2).mono ?_; rintro e w2 ⟨rfl, b2⟩; have B2 := Hb.mk (Below.on (B := w.heap.size) (a := w) (by repeat (first | exact B1.out | refine Below.drews ?_ | refine Below.drew ?_ | refine Below.alloc ?_ (by have hq_ := B1.out.size; first | omega | (simp <;> omega)) _ | refine Below.setCell ?_ (by have hq_ := B1.out.size; first | omega | (simp <;> omega)) _)) b2 (by have hq_ := B1.out.size; first | omega | (simp <;> omega))); clear b2))
  go_ret
  exact ⟨rfl, (by repeat (first | exact Below.refl _ _ | exact B2.out | refine Below.drews ?_ | refine Below.drew ?_ | refine Below.alloc ?_ (by first | omega | (simp <;> omega)) _ | refine Below.setCell ?_ (by first | omega | (simp <;> omega)) _))⟩
/-! ## Valid nets -/
def roadB (a b l : Int) (n : Nat) : Bool := decide (0 ≤ a ∧ a < n ∧ 0 ≤ b ∧ b < n ∧ a ≠ b ∧ 1 ≤ l ∧ l ≤ 1000000)
def rdAt (xs : List Int) (n i : Nat) : Bool := roadB (raA xs i) (raB xs i) (raL xs i) n
def allRd (xs : List Int) (n : Nat) : Nat → Bool
  | 0 => true
  | m + 1 => allRd xs n m && rdAt xs n m
def netB (ys : List Nat) (n : Nat) (xs : List Int) (m : Nat) : Bool := arePl ys n && (decide (m ≤ 64) && allRd xs n m)
theorem allRd_at {xs : List Int} {n : Nat} : ∀ {m : Nat}, allRd xs n m = true → ∀ i, i < m → rdAt xs n i = true := by
  intro m
  induction m with
  | zero => intro _ i hi; omega
  | succ m ih =>
    intro h i hi
    unfold allRd at h
    rw [Bool.and_eq_true] at h
    by_cases he : i = m
    · rw [he]; exact h.2
    · exact ih h.1 i (by omega)
theorem allRd_no {xs : List Int} {n : Nat} : ∀ {m i : Nat}, i < m → rdAt xs n i = false → allRd xs n m = false := by
  intro m
  induction m with
  | zero => intro i hi; omega
  | succ m ih =>
    intro i hi h
    unfold allRd
    by_cases he : i = m
    · rw [← he, h, Bool.and_false]
    · rw [ih (by omega) h, Bool.false_and]
theorem road_split {a b l : Int} {n : Nat} (h : roadB a b l n = false) : (a < 0 ∨ (n : Int) - 1 < a) ∨ ((0 ≤ a ∧ a ≤ (n : Int) - 1) ∧ (b < 0 ∨ (n : Int) - 1 < b)) ∨ ((0 ≤ a ∧ a ≤ (n : Int) - 1) ∧ (0 ≤ b ∧ b ≤ (n : Int) - 1) ∧ a = b) ∨ ((0 ≤ a ∧ a ≤ (n : Int) - 1) ∧ (0 ≤ b ∧ b ≤ (n : Int) - 1) ∧ a ≠ b ∧ (l < 1 ∨ 1000000 < l)) := by
  unfold roadB at h; rw [decide_eq_false_iff_not] at h; omega
theorem road_all {a b l : Int} {n : Nat} (h : roadB a b l n = true) : 0 ≤ a ∧ a ≤ (n : Int) - 1 ∧ 0 ≤ b ∧ b ≤ (n : Int) - 1 ∧ a ≠ b ∧ 1 ≤ l ∧ l ≤ 1000000 := by
  unfold roadB at h; rw [decide_eq_true_iff] at h; omega
theorem net_split {ys : List Nat} {n : Nat} {xs : List Int} {m : Nat} : netB ys n xs m = false → arePl ys n = false ∨ (arePl ys n = true ∧ 64 < m) ∨ (arePl ys n = true ∧ m ≤ 64 ∧ allRd xs n m = false) := by
  intro h
  unfold netB at h
  cases h1 : arePl ys n
  · exact .inl rfl
  · right
    rw [h1, Bool.true_and] at h
    by_cases h2 : m ≤ 64
    · rw [decide_eq_true h2, Bool.true_and] at h
      exact .inr ⟨rfl, h2, h⟩
    · exact .inl ⟨rfl, by omega⟩
theorem net_all {ys : List Nat} {n : Nat} {xs : List Int} {m : Nat} (h : netB ys n xs m = true) : arePl ys n = true ∧ m ≤ 64 ∧ allRd xs n m = true := by
  unfold netB at h
  rw [Bool.and_eq_true, Bool.and_eq_true, decide_eq_true_eq] at h
  exact h
set_option maxHeartbeats 4000000 in
theorem l07Net_any {p g1 g2 n m : Nat} {ys : List Nat} {xs : List Int} (w : World) (c0 : w.cell? ⟨p, 0, none⟩ = some (.slice (some ⟨g1, 0, none⟩) n n)) (c1 : w.cell? ⟨p, 1, none⟩ = some (.slice (some ⟨g2, 0, none⟩) m m)) (hr : FRow w (some ⟨g1, 0, none⟩) ys) (hw : Wf ys) (hn : ys.length = 2 * n) (hl : n ≤ 1048576) (hq : IRow w (some ⟨g2, 0, none⟩) xs) (hm : xs.length = 3 * m) (hl2 : m ≤ 1048576) :
    Calls Try.prog 58 #[.pointer (some ⟨p, 0, none⟩)] w (RB (netB ys n xs m) w) := by
  have HP := Hf.mk (fun q => l02Are_any (w.drewN q) (hr.drew q) hw hn hl)
  have HQ := Hf.mk hq
  have HM := Hf.mk hm
  clear hr hw hn hq hm
  by_cases ha : arePl ys n = true
  · have KN := Hf.mk (show netB ys n xs m = (decide (m ≤ 64) && allRd xs n m) by unfold netB; rw [ha, Bool.true_and])
    rw [ha] at HP
    clear ha
    by_cases h64 : m ≤ 64
    · go_enter Try.func58, Try.ntmps58
      go_wp2_with (first | (go_at_call 49; refine (HP.out 0).mono ?_; rintro e w' ⟨rfl, q0, rfl⟩))
      go_loopw [31] (fun v wr => ∃ i : Nat, i ≤ m ∧ v = .int .i64 i ∧ Hf (allRd xs n i = true) ∧ Drew w wr) (fun v _ => m - (intOf v).toNat)
      case atStart => exact ⟨0, by omega, rfl, ⟨rfl⟩, (by repeat (first | exact Drew.refl _ | refine Drew.more ?_))⟩
      case round =>
        obtain ⟨i, hi, rfl, ha, q, rfl⟩ := hrel
        by_cases hlt : i < m
        · obtain ⟨d0, d1, d2⟩ := HQ.out.threeAt HM.out hlt
          cases hv1 : rdAt xs n i
          · rcases road_split hv1 with h1 | ⟨⟨h1, h2⟩, h3⟩ | ⟨⟨h1, h2⟩, ⟨h3, h4⟩, h5⟩ | ⟨⟨h1, h2⟩, ⟨h3, h4⟩, h5, h6⟩
            · have KR := Hf.mk (show netB ys n xs m = false by rw [KN.out, allRd_no hlt hv1, Bool.and_false])
              clear hv1
              go_wp2
              go_quiet ((first | (go_at_call_of 48 (Value.int .i64 (raA xs i)); exact quiet_ofN (l00In_no h1 _))))
              go_wp2
              go_ret
              rw [KR.out]
              exact RB.any rfl (by repeat (first | exact Drew.refl _ | refine Drew.more ?_))
            · have KR := Hf.mk (show netB ys n xs m = false by rw [KN.out, allRd_no hlt hv1, Bool.and_false])
              clear hv1
              go_wp2
              go_quiet ((first | (go_at_call_of 48 (Value.int .i64 (raA xs i)); exact quiet_ofN (l00In_yes h1 h2 _)) | (go_at_call_of 48 (Value.int .i64 (raB xs i)); exact quiet_ofN (l00In_no h3 _))))
              go_wp2
              go_ret
              rw [KR.out]
              exact RB.any rfl (by repeat (first | exact Drew.refl _ | refine Drew.more ?_))
            · have KR := Hf.mk (show netB ys n xs m = false by rw [KN.out, allRd_no hlt hv1, Bool.and_false])
              clear hv1
              go_wp2
              go_quiet ((first | (go_at_call_of 48 (Value.int .i64 (raA xs i)); exact quiet_ofN (l00In_yes h1 h2 _)) | (go_at_call_of 48 (Value.int .i64 (raB xs i)); exact quiet_ofN (l00In_yes h3 h4 _))))
              go_wp2
              go_ret
              rw [KR.out]
              exact RB.any rfl (by repeat (first | exact Drew.refl _ | refine Drew.more ?_))
            · have KR := Hf.mk (show netB ys n xs m = false by rw [KN.out, allRd_no hlt hv1, Bool.and_false])
              clear hv1
              go_wp2
              go_quiet ((first | (go_at_call_of 48 (Value.int .i64 (raA xs i)); exact quiet_ofN (l00In_yes h1 h2 _)) | (go_at_call_of 48 (Value.int .i64 (raB xs i)); exact quiet_ofN (l00In_yes h3 h4 _)) | (go_at_call_of 48 (Value.int .i64 (raL xs i)); exact quiet_ofN (l00In_no h6 _))))
              go_wp2
              go_ret
              rw [KR.out]
              exact RB.any rfl (by repeat (first | exact Drew.refl _ | refine Drew.more ?_))
          · have KS := Hf.mk (show allRd xs n (i + 1) = true by unfold allRd; rw [ha.out, Bool.true_and]; exact hv1)
            obtain ⟨h1, h2, h3, h4, h5, h6, h7⟩ := road_all hv1
            clear hv1
            go_wp2
            go_quiet ((first | (go_at_call_of 48 (Value.int .i64 (raA xs i)); exact quiet_ofN (l00In_yes h1 h2 _)) | (go_at_call_of 48 (Value.int .i64 (raB xs i)); exact quiet_ofN (l00In_yes h3 h4 _)) | (go_at_call_of 48 (Value.int .i64 (raL xs i)); exact quiet_ofN (l00In_yes h6 h7 _))))
            go_wp2
            go_roundw
            case rel => exact ⟨i + 1, by omega, i_ext2 (by omega), KS, (by repeat (first | exact Drew.refl _ | refine Drew.more ?_))⟩
            case measure => simp [intOf]; omega
        · obtain rfl : i = m := by omega
          have KR := Hf.mk (show netB ys n xs i = true by rw [KN.out, ha.out, decide_eq_true h64]; rfl)
          go_wp2
          go_ret
          rw [KR.out]
          exact RB.any rfl (by repeat (first | exact Drew.refl _ | refine Drew.more ?_))
    · have KR := Hf.mk (show netB ys n xs m = false by rw [KN.out, decide_eq_false h64, Bool.false_and])
      go_enter Try.func58, Try.ntmps58
      go_wp2_with (first | (go_at_call 49; refine (HP.out 0).mono ?_; rintro e w' ⟨rfl, q0, rfl⟩))
      go_ret
      rw [KR.out]
      exact RB.any rfl (by repeat (first | exact Drew.refl _ | refine Drew.more ?_))
  · have ha' : arePl ys n = false := by simpa using ha
    have KR := Hf.mk (show netB ys n xs m = false by unfold netB; rw [ha', Bool.false_and])
    rw [ha'] at HP
    clear ha ha'
    go_enter Try.func58, Try.ntmps58
    go_wp2_with (first | (go_at_call 49; refine (HP.out 0).mono ?_; rintro e w' ⟨rfl, q0, rfl⟩))
    go_ret
    rw [KR.out]
    exact RB.any rfl (by repeat (first | exact Drew.refl _ | refine Drew.more ?_))
def inB (n : Nat) (i : Int) : Bool := decide (0 ≤ i ∧ i < n)
theorem has_any {n k m l : Nat} {a b : Option Addr} {i : Int} (w : World) : Calls Try.prog 44 #[nt a n k b m l, .int .i64 i] w (RS (.bool (inB n i)) w) := by
  by_cases h : (0 : Int) ≤ i
  · go_enter Try.func44, Try.ntmps44
    go_wp2
    go_ret
    exact ⟨ret_b (by unfold inB; simp [h]), (by repeat (first | exact Below.refl _ _ | with_reducible assumption | refine Below.drews ?_ | refine Below.drew ?_ | refine Below.alloc ?_ (by simp <;> omega) _ | refine Below.setCell ?_ (by simp <;> omega) _))⟩
  · have K := Hf.mk (show inB n i = false from decide_eq_false (by omega))
    go_enter Try.func44, Try.ntmps44
    go_wp2
    go_ret
    rw [K.out]
    exact ⟨rfl, (by repeat (first | exact Below.refl _ _ | with_reducible assumption | refine Below.drews ?_ | refine Below.drew ?_ | refine Below.alloc ?_ (by simp <;> omega) _ | refine Below.setCell ?_ (by simp <;> omega) _))⟩
set_option maxHeartbeats 4000000 in
theorem hasRoad_any {n k m l : Nat} {p q : Option Addr} {a b c : Int} (w : World) : Calls Try.prog 72 #[nt p n k q m l, rd a b c] w (RS (.bool (roadB a b c n)) w) := by
  have B0 := Hb.mk (Below.refl w.heap.size w)
  have HA := Hf.mk (fun w => has_any (n := n) (k := k) (m := m) (l := l) (a := p) (b := q) (i := a) w)
  have HB := Hf.mk (fun w => has_any (n := n) (k := k) (m := m) (l := l) (a := p) (b := q) (i := b) w)
  by_cases h1 : 0 ≤ a ∧ a < (n : Int)
  · rw [show inB n a = true from decide_eq_true h1] at HA
    by_cases h2 : 0 ≤ b ∧ b < (n : Int)
    · rw [show inB n b = true from decide_eq_true h2] at HB
      have KR := Hf.mk (show roadB a b c n = (decide (a ≠ b) && (decide (1 ≤ c) && decide (c ≤ 1000000))) by unfold roadB; rw [Bool.eq_iff_iff]; simp only [Bool.and_eq_true, decide_eq_true_eq]; omega)
      by_cases h3 : a = b
      · have KF := Hf.mk (show roadB a b c n = false by rw [KR.out, decide_eq_false (by simp [h3])]; rfl)
        have H3 := Hf.mk h3
        clear h3
        go_enter Try.func72, Try.ntmps72
        have tk_a : True := trivial; have tk_b : True := trivial
        go_wp2_with (first | (go_at_call_of 44 (Value.int .i64 a); clear tk_a; refine (HA.out _).mono ?_; rintro e w1 ⟨rfl, b1⟩; have B1 := Hb.mk (Below.on (B := w.heap.size) (a := w) (by repeat (first | exact B0.out | refine Below.drews ?_ | refine Below.drew ?_ | refine Below.alloc ?_ (by have hq_ := B0.out.size; first | omega | (simp <;> omega)) _ | refine Below.setCell ?_ (by have hq_ := B0.out.size; first | omega | (simp <;> omega)) _)) b1 (by have hq_ := B0.out.size; first | omega | (simp <;> omega))); have p0 := Hb.mk (At.keep b1 (p := ⟨(w.heap.size), 0, none⟩) (v := .slice p n k) (by simp [go_sem]) (by simp [go_sem])); obtain ⟨p0c, p0z, p0l⟩ := p0.out; have p1 := Hb.mk (At.keep b1 (p := ⟨(w.heap.size), 1, none⟩) (v := .slice q m l) (by simp [go_sem]) (by simp [go_sem])); obtain ⟨p1c, p1z, p1l⟩ := p1.out; have q0 := Hb.mk (At.keep b1 (p := ⟨(w.heap.size + 1), 0, none⟩) (v := .int .i64 a) (by simp [go_sem]) (by simp [go_sem])); obtain ⟨q0c, q0z, q0l⟩ := q0.out; have q1 := Hb.mk (At.keep b1 (p := ⟨(w.heap.size + 1), 1, none⟩) (v := .int .i64 b) (by simp [go_sem]) (by simp [go_sem])); obtain ⟨q1c, q1z, q1l⟩ := q1.out; have q2 := Hb.mk (At.keep b1 (p := ⟨(w.heap.size + 1), 2, none⟩) (v := .int .i64 c) (by simp [go_sem]) (by simp [go_sem])); obtain ⟨q2c, q2z, q2l⟩ := q2.out; clear b1) | (go_at_call_of 44 (Value.int .i64 b); clear tk_b; refine (HB.out _).mono ?_; rintro e w2 ⟨rfl, b2⟩; have B2 := Hb.mk (Below.on (B := w.heap.size) (a := w) (by repeat (first | exact B1.out | refine Below.drews ?_ | refine Below.drew ?_ | refine Below.alloc ?_ (by have hq_ := B1.out.size; first | omega | (simp <;> omega)) _ | refine Below.setCell ?_ (by have hq_ := B1.out.size; first | omega | (simp <;> omega)) _)) b2 (by have hq_ := B1.out.size; first | omega | (simp <;> omega))); have p0 := Hb.mk (At.re p0.out b2 (by first | exact p0c | simp [go_sem, p0c, p0l]) (by first | exact p0z | simp [go_sem, p0z, p0l])); obtain ⟨p0c, p0z, p0l⟩ := p0.out; have p1 := Hb.mk (At.re p1.out b2 (by first | exact p1c | simp [go_sem, p1c, p1l]) (by first | exact p1z | simp [go_sem, p1z, p1l])); obtain ⟨p1c, p1z, p1l⟩ := p1.out; have q0 := Hb.mk (At.re q0.out b2 (by first | exact q0c | simp [go_sem, q0c, q0l]) (by first | exact q0z | simp [go_sem, q0z, q0l])); obtain ⟨q0c, q0z, q0l⟩ := q0.out; have q1 := Hb.mk (At.re q1.out b2 (by first | exact q1c | simp [go_sem, q1c, q1l]) (by first | exact q1z | simp [go_sem, q1z, q1l])); obtain ⟨q1c, q1z, q1l⟩ := q1.out; have q2 := Hb.mk (At.re q2.out b2 (by first | exact q2c | simp [go_sem, q2c, q2l]) (by first | exact q2z | simp [go_sem, q2z, q2l])); obtain ⟨q2c, q2z, q2l⟩ := q2.out; clear b2))
        all_goals first | exact absurd H3.out (by assumption) | (go_ret; rw [KF.out]; exact ⟨rfl, (by repeat (first | exact B2.out | refine Below.drews ?_ | refine Below.drew ?_ | refine Below.alloc ?_ (by have hq_ := B2.out.size; first | omega | (simp <;> omega)) _ | refine Below.setCell ?_ (by have hq_ := B2.out.size; first | omega | (simp <;> omega)) _))⟩)
      · by_cases h4 : 1 ≤ c
        · go_enter Try.func72, Try.ntmps72
          have tk_a : True := trivial; have tk_b : True := trivial
          go_wp2_with (first | (go_at_call_of 44 (Value.int .i64 a); clear tk_a; refine (HA.out _).mono ?_; rintro e w1 ⟨rfl, b1⟩; have B1 := Hb.mk (Below.on (B := w.heap.size) (a := w) (by repeat (first | exact B0.out | refine Below.drews ?_ | refine Below.drew ?_ | refine Below.alloc ?_ (by have hq_ := B0.out.size; first | omega | (simp <;> omega)) _ | refine Below.setCell ?_ (by have hq_ := B0.out.size; first | omega | (simp <;> omega)) _)) b1 (by have hq_ := B0.out.size; first | omega | (simp <;> omega))); have p0 := Hb.mk (At.keep b1 (p := ⟨(w.heap.size), 0, none⟩) (v := .slice p n k) (by simp [go_sem]) (by simp [go_sem])); obtain ⟨p0c, p0z, p0l⟩ := p0.out; have p1 := Hb.mk (At.keep b1 (p := ⟨(w.heap.size), 1, none⟩) (v := .slice q m l) (by simp [go_sem]) (by simp [go_sem])); obtain ⟨p1c, p1z, p1l⟩ := p1.out; have q0 := Hb.mk (At.keep b1 (p := ⟨(w.heap.size + 1), 0, none⟩) (v := .int .i64 a) (by simp [go_sem]) (by simp [go_sem])); obtain ⟨q0c, q0z, q0l⟩ := q0.out; have q1 := Hb.mk (At.keep b1 (p := ⟨(w.heap.size + 1), 1, none⟩) (v := .int .i64 b) (by simp [go_sem]) (by simp [go_sem])); obtain ⟨q1c, q1z, q1l⟩ := q1.out; have q2 := Hb.mk (At.keep b1 (p := ⟨(w.heap.size + 1), 2, none⟩) (v := .int .i64 c) (by simp [go_sem]) (by simp [go_sem])); obtain ⟨q2c, q2z, q2l⟩ := q2.out; clear b1) | (go_at_call_of 44 (Value.int .i64 b); clear tk_b; refine (HB.out _).mono ?_; rintro e w2 ⟨rfl, b2⟩; have B2 := Hb.mk (Below.on (B := w.heap.size) (a := w) (by repeat (first | exact B1.out | refine Below.drews ?_ | refine Below.drew ?_ | refine Below.alloc ?_ (by have hq_ := B1.out.size; first | omega | (simp <;> omega)) _ | refine Below.setCell ?_ (by have hq_ := B1.out.size; first | omega | (simp <;> omega)) _)) b2 (by have hq_ := B1.out.size; first | omega | (simp <;> omega))); have p0 := Hb.mk (At.re p0.out b2 (by first | exact p0c | simp [go_sem, p0c, p0l]) (by first | exact p0z | simp [go_sem, p0z, p0l])); obtain ⟨p0c, p0z, p0l⟩ := p0.out; have p1 := Hb.mk (At.re p1.out b2 (by first | exact p1c | simp [go_sem, p1c, p1l]) (by first | exact p1z | simp [go_sem, p1z, p1l])); obtain ⟨p1c, p1z, p1l⟩ := p1.out; have q0 := Hb.mk (At.re q0.out b2 (by first | exact q0c | simp [go_sem, q0c, q0l]) (by first | exact q0z | simp [go_sem, q0z, q0l])); obtain ⟨q0c, q0z, q0l⟩ := q0.out; have q1 := Hb.mk (At.re q1.out b2 (by first | exact q1c | simp [go_sem, q1c, q1l]) (by first | exact q1z | simp [go_sem, q1z, q1l])); obtain ⟨q1c, q1z, q1l⟩ := q1.out; have q2 := Hb.mk (At.re q2.out b2 (by first | exact q2c | simp [go_sem, q2c, q2l]) (by first | exact q2z | simp [go_sem, q2z, q2l])); obtain ⟨q2c, q2z, q2l⟩ := q2.out; clear b2))
          go_ret
          rw [KR.out]
          exact ⟨ret_b (by first | (simp [h3, h4]; done) | (simp [h3] <;> omega)), (by repeat (first | exact B2.out | refine Below.drews ?_ | refine Below.drew ?_ | refine Below.alloc ?_ (by have hq_ := B2.out.size; first | omega | (simp <;> omega)) _ | refine Below.setCell ?_ (by have hq_ := B2.out.size; first | omega | (simp <;> omega)) _))⟩
        · go_enter Try.func72, Try.ntmps72
          have tk_a : True := trivial; have tk_b : True := trivial
          go_wp2_with (first | (go_at_call_of 44 (Value.int .i64 a); clear tk_a; refine (HA.out _).mono ?_; rintro e w1 ⟨rfl, b1⟩; have B1 := Hb.mk (Below.on (B := w.heap.size) (a := w) (by repeat (first | exact B0.out | refine Below.drews ?_ | refine Below.drew ?_ | refine Below.alloc ?_ (by have hq_ := B0.out.size; first | omega | (simp <;> omega)) _ | refine Below.setCell ?_ (by have hq_ := B0.out.size; first | omega | (simp <;> omega)) _)) b1 (by have hq_ := B0.out.size; first | omega | (simp <;> omega))); have p0 := Hb.mk (At.keep b1 (p := ⟨(w.heap.size), 0, none⟩) (v := .slice p n k) (by simp [go_sem]) (by simp [go_sem])); obtain ⟨p0c, p0z, p0l⟩ := p0.out; have p1 := Hb.mk (At.keep b1 (p := ⟨(w.heap.size), 1, none⟩) (v := .slice q m l) (by simp [go_sem]) (by simp [go_sem])); obtain ⟨p1c, p1z, p1l⟩ := p1.out; have q0 := Hb.mk (At.keep b1 (p := ⟨(w.heap.size + 1), 0, none⟩) (v := .int .i64 a) (by simp [go_sem]) (by simp [go_sem])); obtain ⟨q0c, q0z, q0l⟩ := q0.out; have q1 := Hb.mk (At.keep b1 (p := ⟨(w.heap.size + 1), 1, none⟩) (v := .int .i64 b) (by simp [go_sem]) (by simp [go_sem])); obtain ⟨q1c, q1z, q1l⟩ := q1.out; have q2 := Hb.mk (At.keep b1 (p := ⟨(w.heap.size + 1), 2, none⟩) (v := .int .i64 c) (by simp [go_sem]) (by simp [go_sem])); obtain ⟨q2c, q2z, q2l⟩ := q2.out; clear b1) | (go_at_call_of 44 (Value.int .i64 b); clear tk_b; refine (HB.out _).mono ?_; rintro e w2 ⟨rfl, b2⟩; have B2 := Hb.mk (Below.on (B := w.heap.size) (a := w) (by repeat (first | exact B1.out | refine Below.drews ?_ | refine Below.drew ?_ | refine Below.alloc ?_ (by have hq_ := B1.out.size; first | omega | (simp <;> omega)) _ | refine Below.setCell ?_ (by have hq_ := B1.out.size; first | omega | (simp <;> omega)) _)) b2 (by have hq_ := B1.out.size; first | omega | (simp <;> omega))); have p0 := Hb.mk (At.re p0.out b2 (by first | exact p0c | simp [go_sem, p0c, p0l]) (by first | exact p0z | simp [go_sem, p0z, p0l])); obtain ⟨p0c, p0z, p0l⟩ := p0.out; have p1 := Hb.mk (At.re p1.out b2 (by first | exact p1c | simp [go_sem, p1c, p1l]) (by first | exact p1z | simp [go_sem, p1z, p1l])); obtain ⟨p1c, p1z, p1l⟩ := p1.out; have q0 := Hb.mk (At.re q0.out b2 (by first | exact q0c | simp [go_sem, q0c, q0l]) (by first | exact q0z | simp [go_sem, q0z, q0l])); obtain ⟨q0c, q0z, q0l⟩ := q0.out; have q1 := Hb.mk (At.re q1.out b2 (by first | exact q1c | simp [go_sem, q1c, q1l]) (by first | exact q1z | simp [go_sem, q1z, q1l])); obtain ⟨q1c, q1z, q1l⟩ := q1.out; have q2 := Hb.mk (At.re q2.out b2 (by first | exact q2c | simp [go_sem, q2c, q2l]) (by first | exact q2z | simp [go_sem, q2z, q2l])); obtain ⟨q2c, q2z, q2l⟩ := q2.out; clear b2))
          go_ret
          rw [KR.out]
          exact ⟨ret_b (by first | (simp [h3, h4]; done) | (simp [h3] <;> omega)), (by repeat (first | exact B2.out | refine Below.drews ?_ | refine Below.drew ?_ | refine Below.alloc ?_ (by have hq_ := B2.out.size; first | omega | (simp <;> omega)) _ | refine Below.setCell ?_ (by have hq_ := B2.out.size; first | omega | (simp <;> omega)) _))⟩
    · rw [show inB n b = false from decide_eq_false h2] at HB
      have KF := Hf.mk (show roadB a b c n = false by unfold roadB; exact decide_eq_false (by omega))
      go_enter Try.func72, Try.ntmps72
      have tk_a : True := trivial; have tk_b : True := trivial
      go_wp2_with (first | (go_at_call_of 44 (Value.int .i64 a); clear tk_a; refine (HA.out _).mono ?_; rintro e w1 ⟨rfl, b1⟩; have B1 := Hb.mk (Below.on (B := w.heap.size) (a := w) (by repeat (first | exact B0.out | refine Below.drews ?_ | refine Below.drew ?_ | refine Below.alloc ?_ (by have hq_ := B0.out.size; first | omega | (simp <;> omega)) _ | refine Below.setCell ?_ (by have hq_ := B0.out.size; first | omega | (simp <;> omega)) _)) b1 (by have hq_ := B0.out.size; first | omega | (simp <;> omega))); have p0 := Hb.mk (At.keep b1 (p := ⟨(w.heap.size), 0, none⟩) (v := .slice p n k) (by simp [go_sem]) (by simp [go_sem])); obtain ⟨p0c, p0z, p0l⟩ := p0.out; have p1 := Hb.mk (At.keep b1 (p := ⟨(w.heap.size), 1, none⟩) (v := .slice q m l) (by simp [go_sem]) (by simp [go_sem])); obtain ⟨p1c, p1z, p1l⟩ := p1.out; have q0 := Hb.mk (At.keep b1 (p := ⟨(w.heap.size + 1), 0, none⟩) (v := .int .i64 a) (by simp [go_sem]) (by simp [go_sem])); obtain ⟨q0c, q0z, q0l⟩ := q0.out; have q1 := Hb.mk (At.keep b1 (p := ⟨(w.heap.size + 1), 1, none⟩) (v := .int .i64 b) (by simp [go_sem]) (by simp [go_sem])); obtain ⟨q1c, q1z, q1l⟩ := q1.out; have q2 := Hb.mk (At.keep b1 (p := ⟨(w.heap.size + 1), 2, none⟩) (v := .int .i64 c) (by simp [go_sem]) (by simp [go_sem])); obtain ⟨q2c, q2z, q2l⟩ := q2.out; clear b1) | (go_at_call_of 44 (Value.int .i64 b); clear tk_b; refine (HB.out _).mono ?_; rintro e w2 ⟨rfl, b2⟩; have B2 := Hb.mk (Below.on (B := w.heap.size) (a := w) (by repeat (first | exact B1.out | refine Below.drews ?_ | refine Below.drew ?_ | refine Below.alloc ?_ (by have hq_ := B1.out.size; first | omega | (simp <;> omega)) _ | refine Below.setCell ?_ (by have hq_ := B1.out.size; first | omega | (simp <;> omega)) _)) b2 (by have hq_ := B1.out.size; first | omega | (simp <;> omega))); have p0 := Hb.mk (At.re p0.out b2 (by first | exact p0c | simp [go_sem, p0c, p0l]) (by first | exact p0z | simp [go_sem, p0z, p0l])); obtain ⟨p0c, p0z, p0l⟩ := p0.out; have p1 := Hb.mk (At.re p1.out b2 (by first | exact p1c | simp [go_sem, p1c, p1l]) (by first | exact p1z | simp [go_sem, p1z, p1l])); obtain ⟨p1c, p1z, p1l⟩ := p1.out; have q0 := Hb.mk (At.re q0.out b2 (by first | exact q0c | simp [go_sem, q0c, q0l]) (by first | exact q0z | simp [go_sem, q0z, q0l])); obtain ⟨q0c, q0z, q0l⟩ := q0.out; have q1 := Hb.mk (At.re q1.out b2 (by first | exact q1c | simp [go_sem, q1c, q1l]) (by first | exact q1z | simp [go_sem, q1z, q1l])); obtain ⟨q1c, q1z, q1l⟩ := q1.out; have q2 := Hb.mk (At.re q2.out b2 (by first | exact q2c | simp [go_sem, q2c, q2l]) (by first | exact q2z | simp [go_sem, q2z, q2l])); obtain ⟨q2c, q2z, q2l⟩ := q2.out; clear b2))
      go_ret
      rw [KF.out]
      exact ⟨rfl, (by repeat (first | exact B2.out | refine Below.drews ?_ | refine Below.drew ?_ | refine Below.alloc ?_ (by have hq_ := B2.out.size; first | omega | (simp <;> omega)) _ | refine Below.setCell ?_ (by have hq_ := B2.out.size; first | omega | (simp <;> omega)) _))⟩
  · rw [show inB n a = false from decide_eq_false h1] at HA
    have KF := Hf.mk (show roadB a b c n = false by unfold roadB; exact decide_eq_false (by omega))
    go_enter Try.func72, Try.ntmps72
    have tk_a : True := trivial; have tk_b : True := trivial
    go_wp2_with (first | (go_at_call_of 44 (Value.int .i64 a); clear tk_a; refine (HA.out _).mono ?_; rintro e w1 ⟨rfl, b1⟩; have B1 := Hb.mk (Below.on (B := w.heap.size) (a := w) (by repeat (first | exact B0.out | refine Below.drews ?_ | refine Below.drew ?_ | refine Below.alloc ?_ (by have hq_ := B0.out.size; first | omega | (simp <;> omega)) _ | refine Below.setCell ?_ (by have hq_ := B0.out.size; first | omega | (simp <;> omega)) _)) b1 (by have hq_ := B0.out.size; first | omega | (simp <;> omega))); have p0 := Hb.mk (At.keep b1 (p := ⟨(w.heap.size), 0, none⟩) (v := .slice p n k) (by simp [go_sem]) (by simp [go_sem])); obtain ⟨p0c, p0z, p0l⟩ := p0.out; have p1 := Hb.mk (At.keep b1 (p := ⟨(w.heap.size), 1, none⟩) (v := .slice q m l) (by simp [go_sem]) (by simp [go_sem])); obtain ⟨p1c, p1z, p1l⟩ := p1.out; have q0 := Hb.mk (At.keep b1 (p := ⟨(w.heap.size + 1), 0, none⟩) (v := .int .i64 a) (by simp [go_sem]) (by simp [go_sem])); obtain ⟨q0c, q0z, q0l⟩ := q0.out; have q1 := Hb.mk (At.keep b1 (p := ⟨(w.heap.size + 1), 1, none⟩) (v := .int .i64 b) (by simp [go_sem]) (by simp [go_sem])); obtain ⟨q1c, q1z, q1l⟩ := q1.out; have q2 := Hb.mk (At.keep b1 (p := ⟨(w.heap.size + 1), 2, none⟩) (v := .int .i64 c) (by simp [go_sem]) (by simp [go_sem])); obtain ⟨q2c, q2z, q2l⟩ := q2.out; clear b1))
    go_ret
    rw [KF.out]
    exact ⟨rfl, (by repeat (first | exact B1.out | refine Below.drews ?_ | refine Below.drew ?_ | refine Below.alloc ?_ (by have hq_ := B1.out.size; first | omega | (simp <;> omega)) _ | refine Below.setCell ?_ (by have hq_ := B1.out.size; first | omega | (simp <;> omega)) _))⟩
end Go.Proofs.Yteclmjknmdlopaa
