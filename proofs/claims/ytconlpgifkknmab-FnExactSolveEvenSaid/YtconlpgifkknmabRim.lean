/-
  Rounds of rises: whether they are one, and what they miss, of the program and of the model; the exact law of RiseMiss. No premise beyond those named.
-/
import Derived.Test.YtconlpgifkknmabRil
import Derived.IntWalk
namespace Go.Proofs.Ytconlpgifkknmab
open Go Go.RowKit
set_option maxRecDepth 100000

def sumS (xs : List Int) : Nat → Int
  | 0 => 0
  | m + 1 => sumS xs m + sR xs m
def nxt (n i : Nat) : Nat := if i + 1 < n then i + 1 else 0
def prv (n i : Nat) : Nat := if i = 0 then n - 1 else i - 1
def rinB (xs : List Int) (n : Nat) : Bool := decide (1 ≤ n) && areR xs n 32 && decide (∀ i, i < n → tR xs i = fR xs (nxt n i))
theorem nxt_prv {n : Nat} {xs : List Int} : (∀ i, i < n → tR xs i = fR xs (nxt n i)) ↔ (∀ i, i < n → fR xs i = tR xs (prv n i)) := by
  constructor
  · intro h i hi
    by_cases h0 : i = 0
    · subst h0
      have := h (n - 1) (by omega)
      unfold nxt at this
      rw [if_neg (by omega)] at this
      unfold prv
      rw [if_pos rfl]
      exact this.symm
    · have := h (i - 1) (by omega)
      unfold nxt at this
      rw [if_pos (by omega), show i - 1 + 1 = i by omega] at this
      unfold prv
      rw [if_neg h0]
      exact this.symm
  · intro h i hi
    unfold nxt
    by_cases h1 : i + 1 < n
    · rw [if_pos h1]
      have := h (i + 1) h1
      unfold prv at this
      rw [if_neg (by omega), show i + 1 - 1 = i by omega] at this
      exact this.symm
    · rw [if_neg h1]
      have := h 0 (by omega)
      unfold prv at this
      rw [if_pos rfl, show n - 1 = i by omega] at this
      exact this.symm
theorem rinB_none {xs : List Int} {n : Nat} (h : n < 1) : rinB xs n = false := by unfold rinB; rw [decide_eq_false (by omega)]; rfl
theorem rinB_not {xs : List Int} {n : Nat} (h : areR xs n 32 = false) : rinB xs n = false := by unfold rinB; rw [h, Bool.and_false, Bool.false_and]
theorem rinB_off {xs : List Int} {n i : Nat} (hi : i < n) (h : tR xs i ≠ fR xs (nxt n i)) : rinB xs n = false := by
  unfold rinB
  rw [decide_eq_false (p := ∀ i, i < n → tR xs i = fR xs (nxt n i)) (fun k => h (k i hi)), Bool.and_false]
theorem rinB_off2 {xs : List Int} {n i : Nat} (hi : i < n) (h : fR xs i ≠ tR xs (prv n i)) : rinB xs n = false := by
  unfold rinB
  rw [decide_eq_false (p := ∀ i, i < n → tR xs i = fR xs (nxt n i)) (fun k => h (nxt_prv.1 k i hi)), Bool.and_false]
theorem rinB_on {xs : List Int} {n : Nat} (h1 : 1 ≤ n) (h2 : areR xs n 32 = true) (h : ∀ i, i < n → tR xs i = fR xs (nxt n i)) : rinB xs n = true := by
  unfold rinB
  rw [decide_eq_true h1, h2, decide_eq_true (p := ∀ i, i < n → tR xs i = fR xs (nxt n i)) h]; rfl
theorem rinB_of {xs : List Int} {n : Nat} (h : rinB xs n = true) : 1 ≤ n ∧ areR xs n 32 = true := by
  unfold rinB at h
  rw [Bool.and_eq_true, Bool.and_eq_true, decide_eq_true_iff] at h
  exact ⟨h.1.1, h.1.2⟩
theorem areR_of {xs : List Int} {n : Nat} {c : Int} (h : areR xs n c = true) : n ≤ 32 ∧ ∀ i, i < n → risB (fR xs i) (tR xs i) (sR xs i) (lR xs i) c = true := by
  unfold areR at h
  rw [Bool.and_eq_true, decide_eq_true_iff] at h
  exact ⟨h.1.2.2, allR_at h.2⟩
theorem ris_of {f t s l c : Int} (h : risB f t s l c = true) : rises f t s l c := by
  unfold risB at h; rwa [decide_eq_true_iff] at h
theorem sumS_bd {xs : List Int} {n : Nat} (h : areR xs n 32 = true) : ∀ m, m ≤ n → -10000000 * (m : Int) ≤ sumS xs m ∧ sumS xs m ≤ 10000000 * (m : Int) := by
  intro m
  induction m with
  | zero => intro _; unfold sumS; omega
  | succ m ih =>
    intro hm
    obtain ⟨h1, h2⟩ := ih (by omega)
    obtain ⟨_, _, _, _, _, h3, h4, _⟩ := ris_of ((areR_of h).2 m (by omega))
    unfold sumS
    omega
theorem sR_bd {xs : List Int} {n m : Nat} (h : areR xs n 32 = true) (hm : m < n) : -10000000 ≤ sR xs m ∧ sR xs m ≤ 10000000 := by
  obtain ⟨_, _, _, _, _, h3, h4, _⟩ := ris_of ((areR_of h).2 m hm)
  exact ⟨h3, h4⟩
set_option maxHeartbeats 4000000 in
theorem l05Ring_any {g n k : Nat} {xs : List Int} (w : World) (hr : IRow w (some ⟨g, 0, none⟩) xs) (hn : xs.length = 4 * n) (hl : n ≤ 1048576) : Calls Try.prog 40 #[.slice (some ⟨g, 0, none⟩) n k] w (RB (rinB xs n) w) := by
  have HR := Hf.mk hr
  have HN := Hf.mk hn
  by_cases h1 : n < 1
  · have KR := Hf.mk (rinB_none (xs := xs) h1)
    clear hr hn
    go_enter Try.func40, Try.ntmps40
    go_wp2
    go_ret
    rw [KR.out]
    exact RB.any rfl (by repeat (first | exact Drew.refl _ | refine Drew.more ?_))
  · have HA := Hf.mk (l05Rises_any (k := k) (c := 32) w hr hn hl)
    clear hr hn
    cases hb : areR xs n 32
    · have KR := Hf.mk (rinB_not hb)
      have HB := Hf.mk hb
      clear hb
      go_enter Try.func40, Try.ntmps40
      go_wp2_with (first | (go_at_call 34; refine HA.out.mono ?_; rw [HB.out]; rintro e w' ⟨rfl, q0, rfl⟩))
      go_ret
      rw [KR.out]
      exact RB.any rfl (by repeat (first | exact Drew.refl _ | refine Drew.more ?_))
    · have HB := Hf.mk hb
      have h32 := (areR_of hb).1
      clear hb
      go_enter Try.func40, Try.ntmps40
      go_wp2_with (first | (go_at_call 34; refine HA.out.mono ?_; rw [HB.out]; rintro e w' ⟨rfl, q0, rfl⟩))
      go_loopw [16] (fun i wr => ∃ m : Nat, m ≤ n ∧ i = .int .i64 m ∧ Hf (∀ i, i < m → tR xs i = fR xs (nxt n i)) ∧ Drew w wr) (fun i _ => n - (intOf i).toNat)
      case atStart => exact ⟨0, by omega, rfl, ⟨fun i hi => absurd hi (Nat.not_lt_zero i)⟩, (by repeat (first | exact Drew.refl _ | refine Drew.more ?_))⟩
      case round =>
        obtain ⟨m, hm, rfl, ha, q, rfl⟩ := hrel
        by_cases hlt : m < n
        · obtain ⟨_, c1, _, _⟩ := HR.out.fourAt HN.out hlt
          obtain ⟨d0, _, _, _⟩ := HR.out.fourAt HN.out (show nxt n m < n by unfold nxt; split <;> omega)
          have e1 : IntKind.i64.wrap ((m : Int) + 1) = (m : Int) + 1 := IntWalk.i64_in _ (by omega)
          have e2 : ((m : Int) + 1).tmod (n : Int) = (nxt n m : Int) := by
            unfold nxt
            split
            · rw [Int.tmod_eq_of_lt (by omega) (by omega)]; omega
            · rw [show (m : Int) + 1 = (n : Int) by omega, Int.tmod_self]; rfl
          have e3 : ((m : Int) + 1) % (n : Int) = (nxt n m : Int) := by
            rw [← Int.tmod_eq_emod_of_nonneg (by omega)]; exact e2
          have hnx : nxt n m < n := by unfold nxt; split <;> omega
          by_cases hq : tR xs m = fR xs (nxt n m)
          · have KS := Hf.mk (show ∀ i, i < m + 1 → tR xs i = fR xs (nxt n i) from fun i hi => by
              by_cases he : i = m
              · rw [he]; exact hq
              · exact ha.out i (by omega))
            generalize hK : nxt n m = K at *
            have HK := Hf.mk hK
            clear hK
            generalize tR xs m = tm at *
            generalize fR xs K = fk at *
            subst hq
            go_wp2
            go_region
            go_wp2
            go_roundw
            case rel => exact ⟨m + 1, by omega, i_ext2 (by omega), KS, (by repeat (first | exact Drew.refl _ | refine Drew.more ?_))⟩
            case measure => simp [intOf]; omega
          · have KR := Hf.mk (rinB_off hlt hq)
            generalize hK : nxt n m = K at *
            have HK := Hf.mk hK
            clear hK
            go_wp2
            go_region
            go_wp2
            go_ret
            rw [KR.out]
            exact RB.any rfl (by repeat (first | exact Drew.refl _ | refine Drew.more ?_))
        · obtain rfl : m = n := by omega
          have KR := Hf.mk (rinB_on (by omega) HB.out ha.out)
          go_wp2
          go_ret
          rw [KR.out]
          exact RB.any rfl (by repeat (first | exact Drew.refl _ | refine Drew.more ?_))
theorem l05Sum_any {g n k : Nat} {xs : List Int} (w : World) (hr : IRow w (some ⟨g, 0, none⟩) xs) (hn : xs.length = 4 * n) (hA : areR xs n 32 = true) : Calls Try.prog 41 #[.slice (some ⟨g, 0, none⟩) n k] w (RI .i64 (sumS xs n) w) := by
  have HR := Hf.mk hr
  have HN := Hf.mk hn
  have HA := Hf.mk hA
  have h32 := (areR_of hA).1
  clear hr hn hA
  go_enter Try.func41, Try.ntmps41
  go_wp2
  go_loopw [7, 3] (fun i s wr => ∃ m : Nat, m ≤ n ∧ i = .int .i64 m ∧ s = .int .i64 (sumS xs m) ∧ Drew w wr) (fun i _ _ => n - (intOf i).toNat)
  case atStart => exact ⟨0, by omega, rfl, rfl, (by repeat (first | exact Drew.refl _ | refine Drew.more ?_))⟩
  case round =>
    obtain ⟨m, hm, rfl, rfl, q, rfl⟩ := hrel
    by_cases hlt : m < n
    · obtain ⟨_, _, c2, _⟩ := HR.out.fourAt HN.out hlt
      obtain ⟨s0, s1⟩ := sumS_bd HA.out m hm
      obtain ⟨t0, t1⟩ := sR_bd HA.out hlt
      have KS := Hf.mk (show sumS xs (m + 1) = sumS xs m + sR xs m from rfl)
      generalize sumS xs m = sm at *
      generalize sR xs m = tm at *
      go_wp2
      go_roundw
      case rel => exact ⟨m + 1, by omega, i_ext2 (by omega), i_ext2 (by rw [KS.out]), (by repeat (first | exact Drew.refl _ | refine Drew.more ?_))⟩
      case measure => simp [intOf]; omega
    · obtain rfl : m = n := by omega
      generalize sumS xs m = sm at *
      go_wp2
      go_ret
      exact RI.any rfl (by repeat (first | exact Drew.refl _ | refine Drew.more ?_))
theorem sRiseMiss_yes {g n k : Nat} {xs : List Int} (w : World) (hr : IRow w (some ⟨g, 0, none⟩) xs) (hn : xs.length = 4 * n) (hl : n ≤ 1048576) (hR : rinB xs n = true) : Calls Try.prog 14 #[.slice (some ⟨g, 0, none⟩) n k] w (RT (.tuple #[.int .i64 (sumS xs n), .bool true]) w) := by
  have HA := Hf.mk (l05Ring_any (k := k) w hr hn hl)
  have HS := Hf.mk (fun w' hr' => l05Sum_any (k := k) (g := g) w' hr' hn (rinB_of hR).2)
  have HR := Hf.mk hr
  have HB := Hf.mk hR
  clear hr hn hR
  generalize sumS xs n = sm at *
  go_enter Try.func14, Try.ntmps14
  go_wp2_with (first | (go_at_call 40; refine HA.out.mono ?_; rw [HB.out]; rintro e w' ⟨rfl, q0, rfl⟩) | (go_at_call 41; refine (HS.out _ (HR.out.drew _)).mono ?_; rintro e w' ⟨rfl, q1, rfl⟩))
  go_ret2
  exact RT.any (by repeat (first | exact Drew.refl _ | refine Drew.more ?_))
theorem sRiseMiss_no {g n k : Nat} {xs : List Int} (w : World) (hr : IRow w (some ⟨g, 0, none⟩) xs) (hn : xs.length = 4 * n) (hl : n ≤ 1048576) (hR : rinB xs n = false) : Calls Try.prog 14 #[.slice (some ⟨g, 0, none⟩) n k] w (RT (.tuple #[.int .i64 0, .bool false]) w) := by
  have HA := Hf.mk (l05Ring_any (k := k) w hr hn hl)
  have HB := Hf.mk hR
  clear hr hn hR
  go_enter Try.func14, Try.ntmps14
  go_wp2_with (first | (go_at_call 40; refine HA.out.mono ?_; rw [HB.out]; rintro e w' ⟨rfl, q0, rfl⟩))
  exact bodyPost_ret (v := .tuple #[.int .i64 0, .bool false]) (by simp [results, Try.results14, go_sem]) rfl (RT.any (by repeat (first | exact Drew.refl _ | refine Drew.more ?_)))
set_option maxHeartbeats 4000000 in
theorem isRing_any {g n k : Nat} {xs : List Int} (w : World) (hr : IRow w (some ⟨g, 0, none⟩) xs) (hn : xs.length = 4 * n) (hl : n ≤ 1048576) : Calls Try.prog 42 #[.slice (some ⟨g, 0, none⟩) n k] w (RS (.bool (rinB xs n)) w) := by
  have HR := Hf.mk hr
  have HN := Hf.mk hn
  by_cases h1 : n < 1
  · have KR := Hf.mk (rinB_none (xs := xs) h1)
    obtain rfl : n = 0 := by omega
    clear hr hn
    go_enter Try.func42, Try.ntmps42
    go_wp2
    go_ret
    rw [KR.out]
    exact ⟨rfl, (by repeat (first | exact Below.refl _ _ | with_reducible assumption | refine Below.drews ?_ | refine Below.drew ?_ | refine Below.alloc ?_ (by simp <;> omega) _ | refine Below.setCell ?_ (by simp <;> omega) _))⟩
  · have HA := Hf.mk (iAreRises_any (k := k) (c := 32) w hr hn hl)
    clear hr hn
    have h0 : decide ((n : Int) = 0) = false := by rw [decide_eq_false_iff_not]; omega
    have h0' : ((n : Int) == 0) = false := by simpa using h0
    cases hb : areR xs n 32
    · have KR := Hf.mk (rinB_not hb)
      have HB := Hf.mk hb
      clear hb
      go_enter Try.func42, Try.ntmps42
      go_wp2_with (first | (go_at_call 12; refine HA.out.mono ?_; rw [HB.out]; rintro e w1 ⟨rfl, b1⟩; have B1 := Hb.mk b1; clear b1))
      go_ret
      rw [KR.out]
      exact ⟨rfl, (by repeat (first | exact Below.refl _ _ | exact B1.out | refine Below.drews ?_ | refine Below.drew ?_ | refine Below.alloc ?_ (by first | omega | (simp <;> omega)) _ | refine Below.setCell ?_ (by first | omega | (simp <;> omega)) _))⟩
    · have HB := Hf.mk hb
      have h32 := (areR_of hb).1
      clear hb
      obtain ⟨_, cl, _, _⟩ := HR.out.fourAt HN.out (show n - 1 < n by omega)
      have e1 : (n : Int) - 1 = ((n - 1 : Nat) : Int) := by omega
      have H1 := Hf.mk cl
      clear cl
      go_enter Try.func42, Try.ntmps42
      go_wp2_with (first | (go_at_call 12; refine HA.out.mono ?_; rw [HB.out]; rintro e w1 ⟨rfl, b1⟩; have B1 := Hb.mk b1; have cl := Below.keep b1 H1.out; clear b1))
      go_loopw [23, 3] (fun i en wr => ∃ m : Nat, m ≤ n ∧ i = .int .i64 m ∧ en = .int .i64 (tR xs (prv n m)) ∧ Hf (∀ i, i < m → fR xs i = tR xs (prv n i)) ∧ Hf (Below w.heap.size w wr)) (fun i _ _ => n - (intOf i).toNat)
      case atStart => exact ⟨0, by omega, rfl, rfl, ⟨fun i hi => absurd hi (Nat.not_lt_zero i)⟩, ⟨(by repeat (first | exact Below.refl _ _ | exact B1.out | refine Below.drews ?_ | refine Below.drew ?_ | refine Below.alloc ?_ (by first | omega | (simp <;> omega)) _ | refine Below.setCell ?_ (by first | omega | (simp <;> omega)) _))⟩⟩
      case round =>
        obtain ⟨m, hm, rfl, rfl, ha, hb⟩ := hrel
        clear cl
        by_cases hlt : m < n
        · obtain ⟨c0, c1, c2, c3⟩ := (HR.out.below hb.out).fourAt HN.out hlt
          have BR := Hb.mk hb.out
          have sB := BR.out.size
          have hpn : prv n (m + 1) = m := by unfold prv; rw [if_neg (by omega)]; omega
          by_cases hq : fR xs m = tR xs (prv n m)
          · have KS := Hf.mk (show ∀ i, i < m + 1 → fR xs i = tR xs (prv n i) from fun i hi => by
              by_cases he : i = m
              · rw [he]; exact hq
              · exact ha.out i (by omega))
            have KP := Hf.mk (congrArg (tR xs) hpn)
            clear hpn
            generalize tR xs (prv n m) = tm at *
            generalize fR xs m = fk at *
            subst hq
            go_wp2
            go_roundw
            case rel => exact ⟨m + 1, by omega, i_ext2 (by omega), i_ext2 KP.out.symm, KS, ⟨(by repeat (first | exact Below.refl _ _ | exact BR.out | refine Below.drews ?_ | refine Below.drew ?_ | refine Below.alloc ?_ (by first | omega | (simp <;> omega)) _ | refine Below.setCell ?_ (by first | omega | (simp <;> omega)) _))⟩⟩
            case measure => simp [intOf]; omega
          · have KR := Hf.mk (rinB_off2 hlt hq)
            clear hpn
            go_wp2
            go_ret
            rw [KR.out]
            exact ⟨rfl, (by repeat (first | exact Below.refl _ _ | exact BR.out | refine Below.drews ?_ | refine Below.drew ?_ | refine Below.alloc ?_ (by first | omega | (simp <;> omega)) _ | refine Below.setCell ?_ (by first | omega | (simp <;> omega)) _))⟩
        · obtain rfl : m = n := by omega
          have KR := Hf.mk (rinB_on (by omega) HB.out (nxt_prv.2 ha.out))
          go_wp2
          go_ret
          rw [KR.out]
          exact ⟨rfl, hb.out⟩
set_option maxHeartbeats 4000000 in
theorem iRiseMiss_yes {g n k : Nat} {xs : List Int} (w : World) (hr : IRow w (some ⟨g, 0, none⟩) xs) (hn : xs.length = 4 * n) (hl : n ≤ 1048576) (hR : rinB xs n = true) : Calls Try.prog 15 #[.slice (some ⟨g, 0, none⟩) n k] w (RS (.tuple #[.int .i64 (sumS xs n), .bool true]) w) := by
  have HI := Hf.mk (isRing_any (k := k) w hr hn hl)
  have HR := Hf.mk hr
  have HN := Hf.mk hn
  have HB := Hf.mk hR
  have HA := Hf.mk (rinB_of hR).2
  have h32 := (areR_of (rinB_of hR).2).1
  clear hr hn hR
  go_enter Try.func15, Try.ntmps15
  go_wp2_with (first | (go_at_call 42; refine HI.out.mono ?_; rw [HB.out]; rintro e w1 ⟨rfl, b1⟩; have B1 := Hb.mk b1; clear b1))
  go_loopw [12, 4] (fun i s wr => ∃ m : Nat, m ≤ n ∧ i = .int .i64 m ∧ s = .int .i64 (sumS xs m) ∧ Hf (Below w.heap.size w wr)) (fun i _ _ => n - (intOf i).toNat)
  case atStart => exact ⟨0, by omega, rfl, rfl, ⟨(by repeat (first | exact Below.refl _ _ | exact B1.out | refine Below.drews ?_ | refine Below.drew ?_ | refine Below.alloc ?_ (by first | omega | (simp <;> omega)) _ | refine Below.setCell ?_ (by first | omega | (simp <;> omega)) _))⟩⟩
  case round =>
    obtain ⟨m, hm, rfl, rfl, hb⟩ := hrel
    by_cases hlt : m < n
    · obtain ⟨c0, c1, c2, c3⟩ := (HR.out.below hb.out).fourAt HN.out hlt
      have BR := Hb.mk hb.out
      have sB := BR.out.size
      obtain ⟨s0, s1⟩ := sumS_bd HA.out m hm
      obtain ⟨t0, t1⟩ := sR_bd HA.out hlt
      have KS := Hf.mk (show sumS xs (m + 1) = sumS xs m + sR xs m from rfl)
      generalize sumS xs m = sm at *
      generalize sR xs m = tm at *
      go_wp2
      go_roundw
      case rel => exact ⟨m + 1, by omega, i_ext2 (by omega), i_ext2 (by rw [KS.out]), ⟨(by repeat (first | exact Below.refl _ _ | exact BR.out | refine Below.drews ?_ | refine Below.drew ?_ | refine Below.alloc ?_ (by first | omega | (simp <;> omega)) _ | refine Below.setCell ?_ (by first | omega | (simp <;> omega)) _))⟩⟩
      case measure => simp [intOf]; omega
    · obtain rfl : m = n := by omega
      generalize sumS xs m = sm at *
      go_wp2
      go_ret2
      exact ⟨rfl, hb.out⟩
theorem iRiseMiss_no {g n k : Nat} {xs : List Int} (w : World) (hr : IRow w (some ⟨g, 0, none⟩) xs) (hn : xs.length = 4 * n) (hl : n ≤ 1048576) (hR : rinB xs n = false) : Calls Try.prog 15 #[.slice (some ⟨g, 0, none⟩) n k] w (RS (.tuple #[.int .i64 0, .bool false]) w) := by
  have HI := Hf.mk (isRing_any (k := k) w hr hn hl)
  have HB := Hf.mk hR
  clear hr hn hR
  go_enter Try.func15, Try.ntmps15
  go_wp2_with (first | (go_at_call 42; refine HI.out.mono ?_; rw [HB.out]; rintro e w1 ⟨rfl, b1⟩; have B1 := Hb.mk b1; clear b1))
  go_ret2
  exact ⟨rfl, (by repeat (first | exact Below.refl _ _ | exact B1.out | refine Below.drews ?_ | refine Below.drew ?_ | refine Below.alloc ?_ (by first | omega | (simp <;> omega)) _ | refine Below.setCell ?_ (by first | omega | (simp <;> omega)) _))⟩
set_option maxHeartbeats 4000000 in
theorem law_RiseMiss {a : Option Addr} {cap n : Nat} {xs : List Int} (w : World) (hr : IRow w a xs) (hn : xs.length = 4 * n) (hm : n ≤ 9223372036854775807) : Calls Try.prog 4 #[.slice a n cap] w (RS (.bool true) w) := by
  have HR := Hf.mk hr
  have HN := Hf.mk hn
  clear hr hn
  have B0 := Hb.mk (Below.refl w.heap.size w)
  by_cases hl : n ≤ 1048576
  · have KZ := Hf.mk (szRS_yes (a := a) (cap := cap) hl)
    have H4 := Hf.mk HN.out.symm
    cases hb : rinB xs n
    · have HB := Hf.mk hb
      clear hb
      go_enter Try.func4, Try.ntmps4
      have tk_a : True := trivial; have tk_b : True := trivial; have tk_c : True := trivial
      go_wp2_with (first
        | (go_at_call 9; refine (KZ.out _).mono ?_; rintro e w' ⟨rfl, n0, rfl⟩)
        | (go_at_call 11; clear tk_a; refine (toRS_any _ (HR.out.drew _) HN.out hl).mono ?_; rintro e w1 ⟨rfl, o1, b1⟩; have O1 := Hf.mk (irow_own H4.out o1); have B1 := Hb.mk (Below.on (B := w.heap.size) (a := w) (by repeat (first | exact B0.out | refine Below.drews ?_ | refine Below.drew ?_ | refine Below.alloc ?_ (by have hq_ := B0.out.size; first | omega | (simp <;> omega)) _ | refine Below.setCell ?_ (by have hq_ := B0.out.size; first | omega | (simp <;> omega)) _)) b1 (by have hq_ := B0.out.size; first | omega | (simp <;> omega))); clear o1 b1)
        | (go_at_call 14; refine (sRiseMiss_no _ O1.out HN.out hl HB.out).mono ?_; rintro e w2 ⟨rfl, n2, rfl⟩)
        | (go_at_call 11; clear tk_b; refine (toRS_any _ ((HR.out.below B1.out).drew _) HN.out hl).mono ?_; rintro e w3 ⟨rfl, o3, b3⟩; have O3 := Hf.mk (irow_own H4.out o3); have B3 := Hb.mk (Below.on (B := w.heap.size) (a := w) (by repeat (first | exact B1.out | refine Below.drews ?_ | refine Below.drew ?_ | refine Below.alloc ?_ (by have hq_ := B1.out.size; first | omega | (simp <;> omega)) _ | refine Below.setCell ?_ (by have hq_ := B1.out.size; first | omega | (simp <;> omega)) _)) b3 (by have hq_ := B1.out.size; first | omega | (simp <;> omega))); clear o3 b3)
        | (go_at_call 15; refine (iRiseMiss_no _ O3.out HN.out hl HB.out).mono ?_; rintro e w4 ⟨rfl, b4⟩; have O4 := Hf.mk (O3.out.below b4); have B4 := Hb.mk (Below.on (B := w.heap.size) (a := w) (by repeat (first | exact B3.out | refine Below.drews ?_ | refine Below.drew ?_ | refine Below.alloc ?_ (by have hq_ := B3.out.size; first | omega | (simp <;> omega)) _ | refine Below.setCell ?_ (by have hq_ := B3.out.size; first | omega | (simp <;> omega)) _)) b4 (by have hq_ := B3.out.size; first | omega | (simp <;> omega))); clear b4)
        | (go_at_call 11; clear tk_c; refine (toRS_any _ (HR.out.below B4.out) HN.out hl).mono ?_; rintro e w5 ⟨rfl, o5, b5⟩; have O5 := Hf.mk (irow_own H4.out o5); have O6 := Hf.mk (O4.out.below b5); have B5 := Hb.mk (Below.on (B := w.heap.size) (a := w) (by repeat (first | exact B4.out | refine Below.drews ?_ | refine Below.drew ?_ | refine Below.alloc ?_ (by have hq_ := B4.out.size; first | omega | (simp <;> omega)) _ | refine Below.setCell ?_ (by have hq_ := B4.out.size; first | omega | (simp <;> omega)) _)) b5 (by have hq_ := B4.out.size; first | omega | (simp <;> omega))); clear o5 b5)
        | (go_at_call 13; refine (eqRS_any _ O6.out O5.out HN.out hl).mono ?_; rintro e w6 ⟨rfl, b6⟩; have B6 := Hb.mk (Below.on (B := w.heap.size) (a := w) (by repeat (first | exact B5.out | refine Below.drews ?_ | refine Below.drew ?_ | refine Below.alloc ?_ (by have hq_ := B5.out.size; first | omega | (simp <;> omega)) _ | refine Below.setCell ?_ (by have hq_ := B5.out.size; first | omega | (simp <;> omega)) _)) b6 (by have hq_ := B5.out.size; first | omega | (simp <;> omega))); clear b6))
      go_ret
      exact ⟨rfl, (by repeat (first | exact Below.refl _ _ | exact B6.out | refine Below.drews ?_ | refine Below.drew ?_ | refine Below.alloc ?_ (by first | omega | (simp <;> omega)) _ | refine Below.setCell ?_ (by first | omega | (simp <;> omega)) _))⟩
    · have HB := Hf.mk hb
      clear hb
      have HY := Hf.mk (fun g k w hr => sRiseMiss_yes (g := g) (k := k) w hr HN.out hl HB.out)
      have HI := Hf.mk (fun g k w hr => iRiseMiss_yes (g := g) (k := k) w hr HN.out hl HB.out)
      generalize sumS xs n = sm at *
      go_enter Try.func4, Try.ntmps4
      have tk_a : True := trivial; have tk_b : True := trivial; have tk_c : True := trivial
      go_wp2_with (first
        | (go_at_call 9; refine (KZ.out _).mono ?_; rintro e w' ⟨rfl, n0, rfl⟩)
        | (go_at_call 11; clear tk_a; refine (toRS_any _ (HR.out.drew _) HN.out hl).mono ?_; rintro e w1 ⟨rfl, o1, b1⟩; have O1 := Hf.mk (irow_own H4.out o1); have B1 := Hb.mk (Below.on (B := w.heap.size) (a := w) (by repeat (first | exact B0.out | refine Below.drews ?_ | refine Below.drew ?_ | refine Below.alloc ?_ (by have hq_ := B0.out.size; first | omega | (simp <;> omega)) _ | refine Below.setCell ?_ (by have hq_ := B0.out.size; first | omega | (simp <;> omega)) _)) b1 (by have hq_ := B0.out.size; first | omega | (simp <;> omega))); clear o1 b1)
        | (go_at_call 14; refine (HY.out _ _ _ O1.out).mono ?_; rintro e w2 ⟨rfl, n2, rfl⟩)
        | (go_at_call 11; clear tk_b; refine (toRS_any _ ((HR.out.below B1.out).drew _) HN.out hl).mono ?_; rintro e w3 ⟨rfl, o3, b3⟩; have O3 := Hf.mk (irow_own H4.out o3); have B3 := Hb.mk (Below.on (B := w.heap.size) (a := w) (by repeat (first | exact B1.out | refine Below.drews ?_ | refine Below.drew ?_ | refine Below.alloc ?_ (by have hq_ := B1.out.size; first | omega | (simp <;> omega)) _ | refine Below.setCell ?_ (by have hq_ := B1.out.size; first | omega | (simp <;> omega)) _)) b3 (by have hq_ := B1.out.size; first | omega | (simp <;> omega))); clear o3 b3)
        | (go_at_call 15; refine (HI.out _ _ _ O3.out).mono ?_; rintro e w4 ⟨rfl, b4⟩; have O4 := Hf.mk (O3.out.below b4); have B4 := Hb.mk (Below.on (B := w.heap.size) (a := w) (by repeat (first | exact B3.out | refine Below.drews ?_ | refine Below.drew ?_ | refine Below.alloc ?_ (by have hq_ := B3.out.size; first | omega | (simp <;> omega)) _ | refine Below.setCell ?_ (by have hq_ := B3.out.size; first | omega | (simp <;> omega)) _)) b4 (by have hq_ := B3.out.size; first | omega | (simp <;> omega))); clear b4)
        | (go_at_call 11; clear tk_c; refine (toRS_any _ (HR.out.below B4.out) HN.out hl).mono ?_; rintro e w5 ⟨rfl, o5, b5⟩; have O5 := Hf.mk (irow_own H4.out o5); have O6 := Hf.mk (O4.out.below b5); have B5 := Hb.mk (Below.on (B := w.heap.size) (a := w) (by repeat (first | exact B4.out | refine Below.drews ?_ | refine Below.drew ?_ | refine Below.alloc ?_ (by have hq_ := B4.out.size; first | omega | (simp <;> omega)) _ | refine Below.setCell ?_ (by have hq_ := B4.out.size; first | omega | (simp <;> omega)) _)) b5 (by have hq_ := B4.out.size; first | omega | (simp <;> omega))); clear o5 b5)
        | (go_at_call 13; refine (eqRS_any _ O6.out O5.out HN.out hl).mono ?_; rintro e w6 ⟨rfl, b6⟩; have B6 := Hb.mk (Below.on (B := w.heap.size) (a := w) (by repeat (first | exact B5.out | refine Below.drews ?_ | refine Below.drew ?_ | refine Below.alloc ?_ (by have hq_ := B5.out.size; first | omega | (simp <;> omega)) _ | refine Below.setCell ?_ (by have hq_ := B5.out.size; first | omega | (simp <;> omega)) _)) b6 (by have hq_ := B5.out.size; first | omega | (simp <;> omega))); clear b6))
      go_ret
      exact ⟨rfl, (by repeat (first | exact Below.refl _ _ | exact B6.out | refine Below.drews ?_ | refine Below.drew ?_ | refine Below.alloc ?_ (by first | omega | (simp <;> omega)) _ | refine Below.setCell ?_ (by first | omega | (simp <;> omega)) _))⟩
  · have KZ := Hf.mk (szRS_no (a := a) (cap := cap) (n := n) (by omega) hm)
    go_enter Try.func4, Try.ntmps4
    go_wp2_with (first | (go_at_call 9; refine (KZ.out _).mono ?_; rintro e w' ⟨rfl, n0, rfl⟩))
    go_ret
    exact ⟨rfl, (by repeat (first | exact Below.refl _ _ | with_reducible assumption | refine Below.drews ?_ | refine Below.drew ?_ | refine Below.alloc ?_ (by simp <;> omega) _ | refine Below.setCell ?_ (by simp <;> omega) _))⟩
end Go.Proofs.Ytconlpgifkknmab
