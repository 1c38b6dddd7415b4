/-
  Roads: rows of structs of three whole numbers: opened, copied, compared. No premise beyond those named.
-/
import Derived.Test.YteclmjknmdlopaaRow
import Derived.Test.YteclmjknmdlopaaTail
namespace Go.Proofs.Yteclmjknmdlopaa
open Go Go.RowKit Go.ChangeShapes
set_option maxRecDepth 100000

abbrev rd (a b l : Int) : Value := .agg #[.int .i64 a, .int .i64 b, .int .i64 l]
def raA (xs : List Int) (i : Nat) : Int := xs.getD (i * 3) 0
def raB (xs : List Int) (i : Nat) : Int := xs.getD (i * 3 + 1) 0
def raL (xs : List Int) (i : Nat) : Int := xs.getD (i * 3 + 2) 0
theorem IRow.three {w : World} {p : Addr} {xs : List Int} {n i : Nat} (h : IRow w (some p) xs) (hn : xs.length = 3 * n) (hi : i < n) : w.cell? (p.add (i * 3)) = some (.int .i64 (raA xs i)) ∧ w.cell? ⟨(p.add (i * 3)).block, (p.add (i * 3)).off + 1, none⟩ = some (.int .i64 (raB xs i)) ∧ w.cell? ⟨(p.add (i * 3)).block, (p.add (i * 3)).off + 2, none⟩ = some (.int .i64 (raL xs i)) := by
  obtain ⟨p1, h1, c1⟩ := h (i * 3) (by omega)
  obtain ⟨p2, h2, c2⟩ := h (i * 3 + 1) (by omega)
  obtain ⟨p3, h3, c3⟩ := h (i * 3 + 2) (by omega)
  obtain rfl := Option.some.inj h1
  obtain rfl := Option.some.inj h2
  obtain rfl := Option.some.inj h3
  rw [add_next1] at c2
  rw [add_next2] at c3
  exact ⟨c1, c2, c3⟩
theorem IRow.threeAt {w : World} {g : Nat} {xs : List Int} {n i : Nat} (h : IRow w (some ⟨g, 0, none⟩) xs) (hn : xs.length = 3 * n) (hi : i < n) : w.cell? ⟨g, i * 3, none⟩ = some (.int .i64 (raA xs i)) ∧ w.cell? ⟨g, i * 3 + 1, none⟩ = some (.int .i64 (raB xs i)) ∧ w.cell? ⟨g, i * 3 + 2, none⟩ = some (.int .i64 (raL xs i)) := by
  have := h.three hn hi
  rw [add_at] at this
  exact this
theorem rown_below {w w' : World} {base : Nat} {e : TypeId} {size : Nat} {v : Value} {n : Nat} {xs : List Value} (h : w.ownsRow base e size v n xs) (b : Below w.heap.size w w') : w'.ownsRow base e size v n xs := by
  refine h.kept (row := none) ⟨b.os, b.tape, b.output, b.size, fun k hk _ => b.block k hk⟩ ?_
  cases hv : v.ownBlock
  · exact .inl rfl
  · exact .inr (by simp)
section
open Go.ChangeShapes Go.WideShapes Go.Deep Go.Joins
variable {H : Type} {enc : TypeId × Value → H} {P : Program} {w : World} {base : Nat} {spare : Nat → Bool} {held : Bool}

theorem open_irow3 {t e f : TypeId} {f0 f1 f2 : Field} {fuel : Nat} {cs : List Value} {x : DataW H × List MemPlace} (ht : P.underlying t = some (.slice e)) (he : P.underlying e = some (.struct #[f0, f1, f2])) (hf : P.underlying f = some (.int .i64)) (hone : (oneCellFields P #[f0, f1, f2] && (f0.type == f && (f1.type == f && f2.type == f))) = true) (hc : P.cellsOf e = 3)
    (h : DataW.trod enc P w base spare held fuel t cs = some x) :
    ∃ (a : Option Addr) (n cap : Nat) (ys : List Int), cs = [.slice a n cap] ∧ n ≤ maxLen ∧ ys.length = 3 * n ∧ IRow w a ys ∧ Wi ys := by
  simp only [Bool.and_eq_true, beq_iff_eq] at hone
  obtain ⟨ho, t0, t1, t2⟩ := hone
  rcases DataW.trod_slice ht h with ⟨h0, _⟩ | ⟨a, len, cap, elems, rest, n, _, h0, _, _, hlc, hcm, hlen, hel, _, _⟩
  · exact ⟨none, 0, 0, [], h0, Nat.zero_le _, rfl, fun i hi => absurd hi (Nat.not_lt_zero i), fun _ hn => by cases hn⟩
  · have each : ∀ i, i < len → ∀ j, j < 3 → ∃ b, w.cell? (a.add (i * 3 + j)) = some (.int .i64 b) ∧ (Lit.int .i64 b).wf = true := by
      intro i hi
      have hb := hel i hi
      rw [hc, List.getElem?_eq_getElem (by omega : i < elems.length), Option.bind_eq_some_iff] at hb
      obtain ⟨cs', hcs, hy⟩ := hb
      obtain ⟨_, hl, hcell⟩ := World.cells?_some hcs
      obtain ⟨ys, m, _, _, _, hyl, hg⟩ := DataW.trod_struct he hy
      obtain ⟨o0, k0⟩ := hone_of ho 0 f0 rfl
      obtain ⟨o1, k1⟩ := hone_of ho 1 f1 rfl
      obtain ⟨o2, k2⟩ := hone_of ho 2 f2 rfl
      obtain ⟨c0, c1, c2, rfl⟩ : ∃ c0 c1 c2, cs' = [c0, c1, c2] := by
        match cs', hl with
        | [c0, c1, c2], _ => exact ⟨c0, c1, c2, rfl⟩
      obtain ⟨z0, z1, z2, rfl⟩ : ∃ z0 z1 z2, ys = [z0, z1, z2] := by
        match ys, hyl with
        | [z0, z1, z2], _ => exact ⟨z0, z1, z2, rfl⟩
      have g0 := hg 0 f0 rfl
      have g1 := hg 1 f1 rfl
      have g2 := hg 2 f2 rfl
      rw [o0, k0, t0] at g0
      rw [o1, k1, t1] at g1
      rw [o2, k2, t2] at g2
      simp at g0 g1 g2
      obtain ⟨b0, q0, _, w0⟩ := DataW.trod_int hf g0
      obtain ⟨b1, q1, _, w1⟩ := DataW.trod_int hf g1
      obtain ⟨b2, q2, _, w2⟩ := DataW.trod_int hf g2
      injection q0 with q0 _
      injection q1 with q1 _
      injection q2 with q2 _
      subst q0; subst q1; subst q2
      intro j hj
      have hj' := hcell j hj
      rw [Go.Deep.add_add] at hj'
      match j, hj with
      | 0, _ => exact ⟨b0, hj', w0⟩
      | 1, _ => exact ⟨b1, hj', w1⟩
      | 2, _ => exact ⟨b2, hj', w2⟩
    refine ⟨some a, len, cap, (List.range (3 * len)).map (fun i => intWord (w.cell? (a.add i))), h0, Nat.le_trans hlc hcm, by simp, ?_, ?_⟩
    · intro i hi
      have hi' : i < 3 * len := by simpa using hi
      obtain ⟨b, g, _⟩ := each (i / 3) (by omega) (i % 3) (by omega)
      rw [show i / 3 * 3 + i % 3 = i by omega] at g
      exact ⟨a, rfl, by rw [g]; simp [hi', g, intWord]⟩
    · intro m hm
      obtain ⟨i, hi, rfl⟩ := List.mem_map.1 hm
      have hi' := List.mem_range.1 hi
      obtain ⟨b, g, wb⟩ := each (i / 3) (by omega) (i % 3) (by omega)
      rw [show i / 3 * 3 + i % 3 = i by omega] at g
      rw [g]; exact wb
end
theorem toRoad_any (a b l : Int) (w : World) : Calls Try.prog 59 #[rd a b l] w (RS (rd a b l) w) := by
  go_enter Try.func59, Try.ntmps59
  go_wp2
  exact bodyPost_ret (v := rd a b l) (by simp [results, Try.results59, go_sem]) rfl ⟨rfl, (by repeat (first | exact Below.refl _ _ | with_reducible assumption | refine Below.drews ?_ | refine Below.drew ?_ | refine Below.alloc ?_ (by simp <;> omega) _ | refine Below.setCell ?_ (by simp <;> omega) _))⟩
theorem eqRoad_any (a b l : Int) (w : World) : Calls Try.prog 62 #[rd a b l, rd a b l] w (RS (.bool true) w) := by
  go_enter Try.func62, Try.ntmps62
  go_wp2
  go_ret
  exact ⟨rfl, (by repeat (first | exact Below.refl _ _ | with_reducible assumption | refine Below.drews ?_ | refine Below.drew ?_ | refine Below.alloc ?_ (by simp <;> omega) _ | refine Below.setCell ?_ (by simp <;> omega) _))⟩
theorem toRoS_any {a : Option Addr} {n cap : Nat} {xs : List Int} (w : World) (hr : IRow w a xs) (hn : xs.length = 3 * n) (hl : n ≤ 1048576) : Calls Try.prog 31 #[.slice a n cap] w (fun e w' => e = .returned (.slice (some ⟨w.heap.size, 0, none⟩) n n) ∧ w'.ownsRow w.heap.size 76 3 (.slice (some ⟨w.heap.size, 0, none⟩) n n) n (ils xs) ∧ Below w.heap.size w w') := by
  obtain ⟨i0, hi, hz0, hz1, hz2⟩ := info_parts (P := Try.prog) (e := 76) (z := rd 0 0 0) (size := 3) (bytes := 24) (by kernel_rfl)
  have HR := Hf.mk hr
  have HN := Hf.mk hn
  clear hr hn
  go_enter Try.func31, Try.ntmps31
  go_wp2_with (at_make; refine wpList_make_full _ rfl _ _ 31 rfl w.heap.size 76 i0 _ 3 Try.underlying31 hi hz0 hz1 .i64 .i64 _ _ n rfl rfl rfl rfl (by rw [hz2]; omega) (by unfold maxLen; omega) (Nat.le_refl _) ?_; intro w0 hown0 hgrow0)
  go_loopw [4] (fun i wr => ∃ (m : Nat) (cur : List Value), m ≤ n ∧ i = .int .i64 m ∧ Hf (wr.ownsRow w.heap.size 76 3 (.slice (some ⟨w.heap.size, 0, none⟩) n n) n cur) ∧ Hf (∀ j, j < 3 * m → cur[j]? = some (.int .i64 (xs.getD j 0))) ∧ Hf (Below w.heap.size w wr)) (fun i _ => n - (intOf i).toNat)
  case atStart => exact ⟨0, _, by omega, rfl, ⟨hown0⟩, ⟨fun j hj => absurd hj (Nat.not_lt_zero j)⟩, ⟨(Below.refl _ _).grown hgrow0 (Nat.le_refl _) (fun k h => by cases h)⟩⟩
  case round =>
    obtain ⟨m, cur, hm, rfl, hown, hcur, hbel⟩ := hrel
    by_cases hlt : m < n
    · obtain ⟨p, rfl⟩ := HR.out.some_of (by rw [HN.out]; omega)
      obtain ⟨c0, c1, c2⟩ := (HR.out.below hbel.out).three HN.out hlt
      have hlen : cur.length = n * 3 := hown.out.1
      obtain ⟨old0, hold0⟩ : ∃ old, cur[m * 3]? = some old := ⟨_, List.getElem?_eq_getElem (by omega)⟩
      obtain ⟨old1, hold1⟩ : ∃ old, cur[m * 3 + 1]? = some old := ⟨_, List.getElem?_eq_getElem (by omega)⟩
      obtain ⟨old2, hold2⟩ : ∃ old, cur[m * 3 + 2]? = some old := ⟨_, List.getElem?_eq_getElem (by omega)⟩
      have d0 : wr.cell? ⟨w.heap.size, m * 3, none⟩ = some old0 := (hown.out.cellAt (m * 3) (by omega)).trans hold0
      have d1 : wr.cell? ⟨w.heap.size, m * 3 + 1, none⟩ = some old1 := (hown.out.cellAt (m * 3 + 1) (by omega)).trans hold1
      have d2 : wr.cell? ⟨w.heap.size, m * 3 + 2, none⟩ = some old2 := (hown.out.cellAt (m * 3 + 2) (by omega)).trans hold2
      have z0 := hown.out.frozenAt (m * 3)
      have z1 := hown.out.frozenAt (m * 3 + 1)
      have z2 := hown.out.frozenAt (m * 3 + 2)
      have lw := block_lt_of_cell d0
      simp at lw
      clear hold0 hold1 hold2
      go_wp2_with (first | (go_at_call 59; refine (toRoad_any _ _ _ _).mono ?_; rintro e w1 ⟨rfl, b1⟩; have B1 := Hb.mk b1; have e0 := Hb.mk (At.keep b1 d0 z0); have e1 := Hb.mk (At.keep b1 d1 z1); have e2 := Hb.mk (At.keep b1 d2 z2); obtain ⟨e0c, e0z, e0l⟩ := e0.out; obtain ⟨e1c, e1z, e1l⟩ := e1.out; obtain ⟨e2c, e2z, e2l⟩ := e2.out; clear b1))
      go_roundw
      case rel =>
        have hst := (rown_below hown.out B1.out).stored (m * 3) (.int .i64 (raA xs m))
        have hst2 := hst.1.stored (m * 3 + 1) (.int .i64 (raB xs m))
        have hst3 := hst2.1.stored (m * 3 + 2) (.int .i64 (raL xs m))
        refine ⟨m + 1, _, by omega, i_ext2 (by omega), ⟨hst3.1⟩, ⟨?_⟩, ⟨Below.setCell (Below.setCell (Below.setCell (Below.on hbel.out B1.out hbel.out.size) (Nat.le_refl _) _) (Nat.le_refl _) _) (Nat.le_refl _) _⟩⟩
        intro j hj
        by_cases he : j = m * 3 + 2
        · subst he; rw [List.getElem?_set_self (by simp; omega)]; rfl
        · rw [List.getElem?_set_ne (by omega)]
          by_cases he : j = m * 3 + 1
          · subst he; rw [List.getElem?_set_self (by simp; omega)]; rfl
          · rw [List.getElem?_set_ne (by omega)]
            by_cases he : j = m * 3
            · subst he; rw [List.getElem?_set_self (by omega)]; rfl
            · rw [List.getElem?_set_ne (by omega)]; exact hcur.out j (by omega)
      case measure => simp [intOf]; omega
    · obtain rfl : m = n := by omega
      go_wp2
      go_ret
      have hlen : cur.length = 3 * m := by have := hown.out.1; omega
      refine ⟨rfl, ?_, hbel.out⟩
      have hc : cur = ils xs := ils_of (by rw [hlen, HN.out]) (fun j hj => hcur.out j (by rw [HN.out] at hj; omega))
      rw [hc] at hown
      exact hown.out
theorem szRoS_yes {a : Option Addr} {n m cap : Nat} (hl : n ≤ m) (hm : m ≤ 1048576) (w : World) : Calls Try.prog 29 #[.slice a n cap, .int .i64 (m : Int)] w (RI .i64 ((m : Int) - (n : Int)) w) := by
  go_enter Try.func29, Try.ntmps29
  go_wp2
  go_ret
  exact RI.any rfl (by repeat (first | exact Drew.refl _ | refine Drew.more ?_))
theorem szRoS_no {a : Option Addr} {n m cap : Nat} (hl : m < n) (hm : n ≤ 9223372036854775807) (hm2 : m ≤ 1048576) (w : World) : Calls Try.prog 29 #[.slice a n cap, .int .i64 (m : Int)] w (RI .i64 (-1) w) := by
  go_enter Try.func29, Try.ntmps29
  go_wp2
  go_ret
  exact RI.any rfl (by repeat (first | exact Drew.refl _ | refine Drew.more ?_))
set_option maxHeartbeats 4000000 in
theorem eqRoS_any {g1 g2 n k1 k2 : Nat} {xs : List Int} (w : World) (h1 : IRow w (some ⟨g1, 0, none⟩) xs) (h2 : IRow w (some ⟨g2, 0, none⟩) xs) (hn : xs.length = 3 * n) (hl : n ≤ 1048576) : Calls Try.prog 33 #[.slice (some ⟨g1, 0, none⟩) n k1, .slice (some ⟨g2, 0, none⟩) n k2] w (RS (.bool true) w) := by
  have H1 := Hf.mk h1
  have H2 := Hf.mk h2
  have HN := Hf.mk hn
  clear h1 h2 hn
  go_enter Try.func33, Try.ntmps33
  go_wp2
  go_loopw [5] (fun i wr => ∃ m : Nat, m ≤ n ∧ i = .int .i64 m ∧ Hf (Below w.heap.size w wr)) (fun i _ => n - (intOf i).toNat)
  case atStart => exact ⟨0, by omega, rfl, ⟨(by repeat (first | exact Below.refl _ _ | with_reducible assumption | refine Below.drews ?_ | refine Below.drew ?_ | refine Below.alloc ?_ (by simp <;> omega) _ | refine Below.setCell ?_ (by simp <;> omega) _))⟩⟩
  case round =>
    obtain ⟨m, hm, rfl, hb⟩ := hrel
    by_cases hlt : m < n
    · obtain ⟨c0, c1, c2⟩ := (H1.out.below hb.out).threeAt HN.out hlt
      obtain ⟨d0, d1, d2⟩ := (H2.out.below hb.out).threeAt HN.out hlt
      have KE := Hb.mk (eqRoad_any (raA xs m) (raB xs m) (raL xs m))
      have BR := Hb.mk hb.out
      go_wp2
      refine region_all (by kernel_rfl) (by kernel_rfl) (fun I F hne HB hcl => ?_)
      have p0 := keepF HB c0
      have p1 := keepF HB c1
      have p2 := keepF HB c2
      have q0 := keepF HB d0
      have q1 := keepF HB d1
      have q2 := keepF HB d2
      repeat (quiet_step (first | (go_at_call 62; exact callS hcl (KE.out _))))
      refine wpQuiet_nil ?_
      intro _ hw'
      obtain ⟨iq, rfl⟩ := hw'
      clear hcl
      have E1 := Hb.mk (HB.out iq)
      have sB := BR.out.size
      clear p0 p1 q0 q1 p2 q2
      go_wp2
      go_roundw
      case rel => exact ⟨m + 1, by omega, i_ext2 (by omega), ⟨(by repeat (first | exact Below.refl _ _ | refine Below.on ?_ E1.out (by first | omega | (simp <;> omega)) | exact BR.out | refine Below.drews ?_ | refine Below.drew ?_ | refine Below.alloc ?_ (by first | omega | (simp <;> omega)) _ | refine Below.setCell ?_ (by first | omega | (simp <;> omega)) _))⟩⟩
      case measure => simp [intOf]; omega
    · obtain rfl : m = n := by omega
      go_wp2
      go_ret
      exact ⟨rfl, hb.out⟩
end Go.Proofs.Yteclmjknmdlopaa
