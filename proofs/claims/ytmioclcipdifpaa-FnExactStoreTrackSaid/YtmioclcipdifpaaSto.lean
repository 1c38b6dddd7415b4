/-
StoreTrack: the bytes of a track; the model.
-/
import Derived.Test.YtmioclcipdifpaaPak
import Derived.Test.YtmioclcipdifpaaTrk
import Derived.Test.YtmioclcipdifpaaChk
import Derived.Test.YtmioclcipdifpaaDec
import Derived.Deep.AppendLies
import Derived.ArgAppend
import Derived.Lib.ConvBytes
import Derived.Lib.SmallJoins
namespace Go.Proofs.Ytmioclcipdifpaa
open Go Go.RowKit
set_option maxRecDepth 100000

abbrev b8 (n : Nat) : UInt8 := UInt8.ofNat n
theorem b8_nat {n : Nat} (h : n < 256) : ((b8 n).toNat : Int) = (n : Int) := by
  show ((UInt8.ofNat n).toNat : Int) = _
  rw [UInt8.toNat_ofNat']
  omega
/-- the packed places as bytes -/
def pkL (ys : List Nat) (n : Nat) : List UInt8 := (bytesOf (pB ys n)).data.toList
/-- a track's bytes without their check number, with it -/
def stB (s : ByteArray) (P : List UInt8) : List UInt8 := [84, 82, 75, 50] ++ [b8 s.size] ++ s.data.toList ++ [b8 (P.length % 256), b8 (P.length / 256)] ++ P
def stK (B : List UInt8) : Int := chkN ⟨B.toArray⟩ 0 B.length
def stT (B : List UInt8) : List UInt8 := B ++ [b8 ((stK B).toNat % 256), b8 ((stK B).toNat / 256)]
theorem stK_in (B : List UInt8) : 0 ≤ stK B ∧ stK B < 65003 := chkN_in _ (by decide) (by decide) _
theorem name_len {s : ByteArray} (h : nameB s = true) : 1 ≤ s.size ∧ s.size ≤ 8 := by
  apply Classical.byContradiction
  intro hn
  rw [nameB_size hn] at h
  cases h
theorem bytesOf_size (xs : List Nat) : (bytesOf xs).size = xs.length := by
  unfold bytesOf strOfNums
  simp [ByteArray.size]
theorem bw_below (w : World) (e : TypeId) (s : ByteArray) : Below w.heap.size w (Lib.bytesWorld w e s) := ⟨rfl, rfl, rfl, by rw [Lib.bytesWorld_size]; omega, fun k hk => Lib.bytesWorld_at_old w e s k hk⟩
theorem bw_bat (w : World) (e : TypeId) (s : ByteArray) : BAt (Lib.bytesWorld w e s) w.heap.size s.data.toList := fun j hj => Lib.bytesWorld_cell w e s j hj
/-- '[]byte(s)' -/
theorem wpList_s2b {P : Program} {ops : Array Oper} {rest : List Oper} {o : Oper} {a : Act} {w : World} {Q : Exit → Act → World → Prop} (hgd : o.guard = none) {src dst e : TypeId} {x : Operand} (ho : o.op = .convert src dst x) {s : ByteArray} (hx : a.eval x = .string s)
    (hs : P.underlying src = some .string) (hd : P.underlying dst = some (.slice e)) (he : P.underlying e = some (.int .u8))
    (h : ∀ c w', Below w.heap.size w w' → BAt w' w.heap.size s.data.toList → w'.heap.size = w.heap.size + 1 → wpList P ops Q rest (a.put o.dst (.slice (some ⟨w.heap.size, 0, none⟩) s.size c)) w') : wpList P ops Q (o :: rest) a w := by
  refine wpList_value hgd ?_ (h (grownCap w s.size 0 e) _ (bw_below w e s) (bw_bat w e s) (Lib.bytesWorld_size w e s))
  simp [execOp, ho, hx, Lib.run_convert_string_bytes w src dst e s hs hd he]
theorem two_st (w : World) (x y : Value) (t : TypeId) : ∀ j u, [x, y][j]? = some u → (w.alloc (.cells #[x, y] t)).cell? ((⟨w.heap.size, 0, none⟩ : Addr).add j) = some u := by
  intro j u hj
  match j, hj with
  | 0, hj => simp at hj; subst hj; simp [Addr.add]
  | 1, hj => simp at hj; subst hj; simp [Addr.add]
  | j + 2, hj => simp at hj
theorem u8_two {x y : Int} : ∀ u ∈ [Value.int .u8 x, Value.int .u8 y], u.oneCell' = true := by
  intro u hu
  simp at hu
  rcases hu with rfl | rfl <;> rfl
theorem own_bs {w : World} {base n g cap : Nat} {T : TypeId} {l : List UInt8} {xs : List Value} (h : w.ownsRow base T 1 (.slice (some ⟨g, 0, none⟩) n cap) n xs) (e : xs = bRow l) (hl : l.length = n) : w.ownsRow base T 1 (.slice (some ⟨g, 0, none⟩) l.length cap) l.length (bRow l) := by
  subst hl
  rw [← e]
  exact h
theorem one_at (W : World) (k : Nat) (hk : k = W.heap.size) (x : Value) (t : TypeId) : ∀ j u, [x][j]? = some u → (W.alloc (.cells #[x] t)).cell? ((⟨k, 0, none⟩ : Addr).add j) = some u := by
  subst hk
  exact cell_1 W x t
theorem st_low {w : World} {base base' : Nat} {e : TypeId} {size n : Nat} {v : Value} {xs : List Value} (h : w.ownsRow base e size v n xs) (hb : base' ≤ base) : w.ownsRow base' e size v n xs := by
  obtain ⟨h0, h1⟩ := h
  refine ⟨h0, ?_⟩
  rcases h1 with h1 | ⟨g, cap, cur, hv, hg, hr⟩
  · exact .inl h1
  · exact .inr ⟨g, cap, cur, hv, Nat.le_trans hb hg, hr⟩
theorem st_shf {w : World} {base : Nat} {e : TypeId} {size : Nat} {v : Value} {n : Nat} {xs : List Value} (h : w.ownsRow base e size v n xs) (h0 : 0 < n) : ∃ g cap, v = .slice (some ⟨g, 0, none⟩) n cap ∧ base ≤ g ∧ g < w.heap.size := by
  obtain ⟨_, h2⟩ := h
  rcases h2 with ⟨_, hz⟩ | ⟨g, cap, cur, hv, hg, hh, hn, hc, _⟩
  · omega
  · exact ⟨g, cap, hv, hg, (Array.getElem?_eq_some_iff.1 hh).1⟩
theorem st_row {b g n c : Nat} (h : b ≤ g) : ∀ k, (Value.slice (some ⟨g, 0, none⟩) n c).ownBlock = some k → b ≤ k := by
  intro k hk
  have : g = k := Option.some.inj hk
  omega
theorem st_conv {w : World} {g n cap : Nat} {l : List UInt8} (h : BAt w g l) (hn : l.length = n) : (convert 41 9 (.slice (some ⟨g, 0, none⟩) n cap)).run Try.prog w = .ok (.string ⟨l.toArray⟩) w := by
  have := run_convert_bytes_arg (P := Try.prog) w 41 5 Try.underlying41 Try.underlying5 g 0 n cap (l.map fun b => (b.toNat : Int)) (by rw [List.length_map]; exact hn) (fun i hi => by
    rw [Nat.zero_add, h i (by omega)]
    have hi' : i < l.length := by omega
    simp [List.getD, List.getElem?_map, List.getElem?_eq_getElem hi']) 9 Try.underlying9
  rw [this, Lib.Lz.strOfNums_map]
theorem st_drw {w w' : World} (h : Drew w w') : Below w.heap.size w w' := by
  obtain ⟨n, rfl⟩ := h
  exact ⟨rfl, rfl, rfl, Nat.le_refl _, fun k hk => rfl⟩
set_option maxHeartbeats 400000 in
theorem l07Store_any {s : ByteArray} {p g n : Nat} {ys : List Nat} (hb : trackB s ys n = true) (w : World) (c0 : w.cell? ⟨p, 0, none⟩ = some (.string s)) (c1 : w.cell? ⟨p, 1, none⟩ = some (.slice (some ⟨g, 0, none⟩) n n)) (hr : FRow w (some ⟨g, 0, none⟩) ys) (hw : Wf ys) (hn : ys.length = 2 * n) : Calls Try.prog 11 #[.pointer (some ⟨p, 0, none⟩)] w (RS (.string ⟨(stT (stB s (pkL ys n))).toArray⟩) w) := by
  obtain ⟨i0, hi, hz0, hz1, hz2⟩ := info_parts (P := Try.prog) (e := 5) (z := .int .u8 0) (size := 1) (bytes := 1) (by kernel_rfl)
  unfold trackB at hb
  rw [Bool.and_eq_true] at hb
  obtain ⟨hs1, hs8⟩ := name_len hb.1
  obtain ⟨hp, _⟩ := packB_of hb.2
  unfold arePl at hp
  rw [Bool.and_eq_true, decide_eq_true_eq] at hp
  obtain ⟨⟨hn1, hn64⟩, hav⟩ := hp
  have hv := allV_at hav
  have hpl := pB_len hv n (Nat.le_refl _)
  have KP := Hf.mk (fun w hr => l07Pack_any (g := g) w hr hw hn hn64 hv)
  have HR := Hf.mk hr
  have hPl : (bytesOf (pB ys n)).size ≤ 1024 := by rw [bytesOf_size]; omega
  have HPk : Hf (pkL ys n = (bytesOf (pB ys n)).data.toList) := ⟨rfl⟩
  generalize pkL ys n = P at *
  generalize bytesOf (pB ys n) = B at *
  have hPB : P.length = B.size := by rw [HPk.out]; rfl
  clear hb hav hv hpl hr hw hn
  have B0 := Hb.mk (Below.refl w.heap.size w)
  have hcc := Lib.run_convert_bytes_const (P := Try.prog) w 41 5 #[.int .u8 84, .int .u8 82, .int .u8 75, .int .u8 50] 4 4 Try.underlying41 Try.underlying5
  have hca : ∀ o, (w.alloc o).cell? ⟨p, 0, none⟩ = some (.string s) := fun o => Below.keep ((Below.refl _ _).alloc (Nat.le_refl _) o) c0
  obtain ⟨A1, hA1⟩ : ∃ A : List UInt8, A = [84, 82, 75, 50] ++ [b8 s.size] := ⟨_, rfl⟩
  obtain ⟨A2, hA2⟩ : ∃ A : List UInt8, A = A1 ++ s.data.toList := ⟨_, rfl⟩
  obtain ⟨A3, hA3⟩ : ∃ A : List UInt8, A = A2 ++ [b8 (P.length % 256), b8 (P.length / 256)] := ⟨_, rfl⟩
  obtain ⟨A4, hA4⟩ : ∃ A : List UInt8, A = A3 ++ P := ⟨_, rfl⟩
  have HB4 : Hf (stB s P = A4) := ⟨by rw [hA4, hA3, hA2, hA1]; rfl⟩
  have hsl : s.data.toList.length = s.size := rfl
  have L1 : A1.length = 5 := by rw [hA1]; rfl
  have L2 : A2.length = 5 + s.size := by rw [hA2, List.length_append, L1, hsl]
  have L3 : A3.length = 5 + s.size + 2 := by rw [hA3, List.length_append, L2]; rfl
  have L4 : A4.length = 5 + s.size + 2 + B.size := by rw [hA4, List.length_append, L3, hPB]
  have E1 : Hf ([.int .u8 84, .int .u8 82, .int .u8 75, .int .u8 50] ++ [.int .u8 (s.size : Int)] = bRow A1) := ⟨by rw [hA1]; simp [bRow]; omega⟩
  have E2 : Hf (bRow A1 ++ bRow s.data.toList = bRow A2) := ⟨by rw [hA2]; simp [bRow]⟩
  have E3 : Hf (bRow A2 ++ [.int .u8 ((B.size : Int) % 256), .int .u8 ((B.size : Int) / 256)] = bRow A3) := ⟨by
    have h1 : ((b8 (B.size % 256)).toNat : Int) = (B.size : Int) % 256 := by rw [b8_nat (by omega)]; omega
    have h2 : ((b8 (B.size / 256)).toNat : Int) = (B.size : Int) / 256 := by rw [b8_nat (by omega)]; omega
    rw [hA3, hPB]
    simp only [bRow, List.map_append, List.map_cons, List.map_nil]
    rw [h1, h2]⟩
  have E4 : Hf (bRow A3 ++ bRow B.data.toList = bRow A4) := ⟨by rw [hA4, HPk.out]; simp [bRow]⟩
  obtain ⟨K, hK⟩ : ∃ K : Nat, stK A4 = (K : Int) := ⟨(stK A4).toNat, by have := stK_in A4; omega⟩
  have hKb : K < 65003 := by have := stK_in A4; omega
  have KCk : Hf (∀ w, Calls Try.prog 21 #[.int .i64 0, .string ⟨A4.toArray⟩] w (RI .i64 (K : Int) w)) := ⟨fun w => by
    have h := l01Check_any ⟨A4.toArray⟩ (by have : (⟨A4.toArray⟩ : ByteArray).size = A4.length := by simp [ByteArray.size]
                                            omega) 0 (by decide) (by decide) w
    rw [show (⟨A4.toArray⟩ : ByteArray).size = A4.length by simp [ByteArray.size]] at h
    rw [← hK]
    exact h⟩
  have HT5 : Hf (stT A4 = A4 ++ [b8 (K % 256), b8 (K / 256)]) := ⟨by unfold stT; rw [hK, Int.toNat_natCast]⟩
  have E5 : Hf (bRow A4 ++ [.int .u8 ((K : Int) % 256), .int .u8 ((K : Int) / 256)] = bRow (stT A4)) := ⟨by
    have h1 : ((b8 (K % 256)).toNat : Int) = (K : Int) % 256 := by rw [b8_nat (by omega)]; omega
    have h2 : ((b8 (K / 256)).toNat : Int) = (K : Int) / 256 := by rw [b8_nat (by omega)]; omega
    rw [HT5.out]
    simp only [bRow, List.map_append, List.map_cons, List.map_nil]
    rw [h1, h2]⟩
  have L5 : (stT A4).length = 5 + s.size + 2 + B.size + 2 := by rw [HT5.out, List.length_append, L4]; rfl
  rw [HB4.out]
  clear hA1 hA2 hA3 hA4 hK HT5 HB4 hPB hsl
  generalize stT A4 = A5 at *
  have HL1 := Hf.mk L1
  have HL2 := Hf.mk L2
  have HL3 := Hf.mk L3
  have HL4 := Hf.mk L4
  have HL5 := Hf.mk L5
  clear L1 L2 L3 L4 L5
  have HC0 := Hf.mk c0
  have HC1 := Hf.mk c1
  have HOld : Hf (∀ (o : Obj) (b : Addr), (some ⟨w.heap.size, 0, none⟩ : Option Addr) = some b → ∀ j u, ([.int .u8 84, .int .u8 82, .int .u8 75, .int .u8 50] : List Value)[j]? = some u → ((w.alloc (.cells #[.int .u8 84, .int .u8 82, .int .u8 75, .int .u8 50] 5 (4, 5))).alloc o).cell? (b.add j) = some u) := ⟨fun o b hb j u hu => by
    obtain rfl := Option.some.inj hb
    have h1 : ((w.alloc (.cells #[.int .u8 84, .int .u8 82, .int .u8 75, .int .u8 50] 5 (4, 5))).alloc o).heap[w.heap.size]? = some (.cells #[.int .u8 84, .int .u8 82, .int .u8 75, .int .u8 50] 5 (4, 5)) := (Below.heap_alloc _ _ _ (by simp)).trans (heap_alloc_new w _)
    exact World.news_of_block h1 j u (by simpa using hu)⟩
  go_enter Try.func11, Try.ntmps11
  have tk_a : True := trivial; have tk_b : True := trivial; have tk_c : True := trivial; have tk_d : True := trivial; have tk_e : True := trivial; have tk_f : True := trivial; have tk_g : True := trivial
  go_wp2_with (first
    | (at_builtin; clear tk_a; refine wpList_append_grows _ rfl _ _ 41 rfl 5 i0 (.int .u8 0) 1 1 Try.underlying41 hi hz0 hz1 hz2 rfl (by decide) _ 4 4 [.int .u8 84, .int .u8 82, .int .u8 75, .int .u8 50] rfl (fun h => by cases h) rfl (HOld.out _) ⟨w.heap.size + 1, 0, none⟩ 1 1 [.int .u8 (s.size : Int)] rfl rfl (one_at _ _ (by simp) _ _) one_1 (by decide) (by unfold maxLen; omega) (by omega) ?_; intro v1 w1 o1 hg1; obtain ⟨g1, k1, rfl, hge1, hlt1⟩ := st_shf o1 (by omega); have B1 : Hb (Below w.heap.size w w1) := ⟨Below.grown (((Below.refl w.heap.size w).alloc (Nat.le_refl _) _).alloc (by simp) _) hg1 (by simp; omega) (fun k h => by cases h)⟩; have G1 : w.heap.size ≤ g1 := (by have h := hge1; simp at h; omega); rw [E1.out] at o1; have O1 := Hf.mk (st_low (base' := w.heap.size) o1 (by simp; omega)); have d0 := Below.keep B1.out HC0.out; clear o1 hg1 hge1)
    | (refine wpList_s2b rfl rfl (s := s) rfl Try.underlying9 Try.underlying41 Try.underlying5 ?_; clear tk_b; intro c2 w2 b2 bat2 sz2; have B2 : Hb (Below w.heap.size w w2) := ⟨Below.trans B1.out (Below.mono b2 (by omega))⟩; have O2 := Hf.mk (kown_below O1.out b2); have T2 := Hf.mk bat2; have S2 : w1.heap.size ≤ w2.heap.size := (by omega); clear b2 bat2 sz2)
    | (at_builtin; clear tk_c; refine wpList_append_own _ rfl _ _ 41 rfl w.heap.size 5 i0 (.int .u8 0) 1 1 Try.underlying41 hi hz0 hz1 hz2 rfl (by decide) _ 5 (bRow A1) rfl O2.out ⟨w1.heap.size, 0, none⟩ s.size c2 (bRow s.data.toList) rfl (by rw [bRow_len]; exact (Nat.mul_one _).symm) (BAt.src T2.out) bRow_cells (by unfold maxLen; omega) (by omega) (by first | omega | (simp <;> omega)) ?_; intro v3 w3 o3 hg3 _; obtain ⟨g3, k3, rfl, hge3, hlt3⟩ := st_shf o3 (by omega); have B3 : Hb (Below w.heap.size w w3) := ⟨Below.grown B2.out hg3 (by omega) (st_row G1)⟩; rw [E2.out] at o3; have O3 := Hf.mk o3; have d1 := Below.keep B3.out HC1.out; clear o3 hg3)
    | (go_at_call 20; refine (KP.out _ (HR.out.below B3.out)).mono ?_; rintro e w4 ⟨rfl, b4⟩; have B4 := Hb.mk (Below.on (B := w.heap.size) (a := w) (by repeat (first | exact B3.out | refine Below.drews ?_ | refine Below.drew ?_ | refine Below.alloc ?_ (by have hq_ := B3.out.size; first | omega | (simp <;> omega)) _ | refine Below.setCell ?_ (by have hq_ := B3.out.size; first | omega | (simp <;> omega)) _)) b4 (by have hq_ := B3.out.size; first | omega | (simp <;> omega))); have O4 := Hf.mk (kown_below O3.out b4); have S4 := b4.size; clear b4)
    | (at_builtin; clear tk_d; refine wpList_append_own _ rfl _ _ 41 rfl w.heap.size 5 i0 (.int .u8 0) 1 1 Try.underlying41 hi hz0 hz1 hz2 rfl (by decide) _ (5 + s.size) (bRow A2) rfl (kown_below O4.out (Below.alloc (Below.refl _ _) (Nat.le_refl _) _)) ⟨w4.heap.size, 0, none⟩ 2 2 [.int .u8 ((B.size : Int) % 256), .int .u8 ((B.size : Int) / 256)] rfl rfl (two_st w4 _ _ _) u8_two (by unfold maxLen; omega) (by omega) (by first | omega | (simp <;> omega)) ?_; intro v5 w5 o5 hg5 _; obtain ⟨g5, k5, rfl, hge5, hlt5⟩ := st_shf o5 (by omega); have B5 : Hb (Below w.heap.size w w5) := ⟨Below.grown (Below.alloc B4.out (by omega) _) hg5 (by simp; omega) (st_row hge3)⟩; rw [E3.out] at o5; have O5 := Hf.mk o5; clear o5 hg5)
    | (refine wpList_s2b rfl rfl (s := B) rfl Try.underlying9 Try.underlying41 Try.underlying5 ?_; clear tk_e; intro c6 w6 b6 bat6 sz6; have B6 : Hb (Below w.heap.size w w6) := ⟨Below.trans B5.out (Below.mono b6 (by omega))⟩; have O6 := Hf.mk (kown_below O5.out b6); have T6 := Hf.mk bat6; have S6 : w5.heap.size ≤ w6.heap.size := (by omega); clear b6 bat6 sz6)
    | (at_builtin; clear tk_f; refine wpList_append_own _ rfl _ _ 41 rfl w.heap.size 5 i0 (.int .u8 0) 1 1 Try.underlying41 hi hz0 hz1 hz2 rfl (by decide) _ (5 + s.size + 2) (bRow A3) rfl O6.out ⟨w5.heap.size, 0, none⟩ B.size c6 (bRow B.data.toList) rfl (by rw [bRow_len]; exact (Nat.mul_one _).symm) (BAt.src T6.out) bRow_cells (by unfold maxLen; omega) (by omega) (by first | omega | (simp <;> omega)) ?_; intro v7 w7 o7 hg7 _; obtain ⟨g7, k7, rfl, hge7, hlt7⟩ := st_shf o7 (by omega); have B7 : Hb (Below w.heap.size w w7) := ⟨Below.grown B6.out hg7 (by omega) (st_row hge5)⟩; rw [E4.out] at o7; have kcv := st_conv (cap := k7) (bat_own (l := A4) o7) HL4.out; have O7 := Hf.mk o7; clear o7 hg7)
    | (go_at_call 21; refine (KCk.out _).mono ?_; rintro e w8 ⟨rfl, d8⟩; have b8 := st_drw d8; have B8 := Hb.mk (Below.on (B := w.heap.size) (a := w) (by repeat (first | exact B7.out | refine Below.drews ?_ | refine Below.drew ?_ | refine Below.alloc ?_ (by have hq_ := B7.out.size; first | omega | (simp <;> omega)) _ | refine Below.setCell ?_ (by have hq_ := B7.out.size; first | omega | (simp <;> omega)) _)) b8 (by have hq_ := B7.out.size; first | omega | (simp <;> omega))); have O8 := Hf.mk (kown_below O7.out b8); have S8 := b8.size; clear b8 kcv d8)
    | (at_builtin; clear tk_g; refine wpList_append_own _ rfl _ _ 41 rfl w.heap.size 5 i0 (.int .u8 0) 1 1 Try.underlying41 hi hz0 hz1 hz2 rfl (by decide) _ (5 + s.size + 2 + B.size) (bRow A4) rfl (kown_below O8.out (Below.alloc (Below.refl _ _) (Nat.le_refl _) _)) ⟨w8.heap.size, 0, none⟩ 2 2 [.int .u8 ((K : Int) % 256), .int .u8 ((K : Int) / 256)] rfl rfl (two_st w8 _ _ _) u8_two (by unfold maxLen; omega) (by omega) (by first | omega | (simp <;> omega)) ?_; intro v9 w9 o9 hg9 _; obtain ⟨g9, k9, rfl, hge9, hlt9⟩ := st_shf o9 (by omega); have B9 : Hb (Below w.heap.size w w9) := ⟨Below.grown (Below.alloc B8.out (by omega) _) hg9 (by simp; omega) (st_row hge7)⟩; rw [E5.out] at o9; have kcw := st_conv (cap := k9) (bat_own (l := A5) o9) HL5.out; clear o9 hg9))
  go_ret
  exact ⟨rfl, (by repeat (first | exact B9.out | refine Below.drews ?_ | refine Below.drew ?_ | refine Below.alloc ?_ (by have hq_ := B9.out.size; first | omega | (simp <;> omega)) _ | refine Below.setCell ?_ (by have hq_ := B9.out.size; first | omega | (simp <;> omega)) _))⟩
end Go.Proofs.Ytmioclcipdifpaa
