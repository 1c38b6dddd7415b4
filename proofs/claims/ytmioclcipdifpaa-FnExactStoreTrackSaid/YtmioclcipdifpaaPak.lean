/-
  The bytes of packed places, of the program and of its model; the exact law PackPlaces. No condition.
-/
import Derived.Test.YtmioclcipdifpaaEnc
import Derived.Test.YtmioclcipdifpaaPkd
namespace Go.Proofs.Ytmioclcipdifpaa
open Go Go.RowKit
set_option maxRecDepth 100000

def bytesOf (xs : List Nat) : ByteArray := strOfNums (xs.map fun (b : Nat) => (b : Int))
theorem conv_own {w : World} {base n : Nat} {T : TypeId} {v : Value} {xs : List Nat} (h : w.ownsRow base T 1 v n (us xs)) : (convert 41 9 v).run Try.prog w = .ok (.string (bytesOf xs)) w := by
  have hl : n = xs.length := by have := h.1; rw [us_len] at this; omega
  rcases h.2 with ⟨rfl, h0⟩ | ⟨g, cap, cur, rfl, hg, hb, hc, hm, hz, ht⟩
  · subst h0
    have : xs = [] := List.length_eq_zero_iff.1 hl.symm
    subst this
    exact run_convert_bytes_nil w 41 5 Try.underlying41 Try.underlying5 0 0 9 Try.underlying9
  · refine run_convert_bytes_arg w 41 5 Try.underlying41 Try.underlying5 g 0 n cap (xs.map fun (b : Nat) => (b : Int)) (by simp [hl]) (fun i hi => ?_) 9 Try.underlying9
    rw [Nat.zero_add, h.cellAt i (by omega)]
    have hi' : i < xs.length := by omega
    simp [us, List.getD, List.getElem?_map, List.getElem?_eq_getElem hi']
theorem kown_below {w w' : World} {base : Nat} {e : TypeId} {size : Nat} {v : Value} {n : Nat} {xs : List Value} (h : w.ownsRow base e size v n xs) (b : Below w.heap.size w w') : w'.ownsRow base e size v n xs := by
  refine h.kept (row := none) ⟨b.os, b.tape, b.output, b.size, fun k hk _ => b.block k hk⟩ ?_
  cases hv : v.ownBlock
  · exact .inl rfl
  · exact .inr (by simp)
/-- The steps of place i of a row, and its bytes up to place m. -/
def nS (ys : List Nat) (i : Nat) : Int := stepC (nC ys i)
def eS (ys : List Nat) (i : Nat) : Int := eastStep (eC ys i)
def lastN (ys : List Nat) : Nat → Int
  | 0 => 0
  | m + 1 => nS ys m
def lastE (ys : List Nat) : Nat → Int
  | 0 => 0
  | m + 1 => eS ys m
def pB (ys : List Nat) : Nat → List Nat
  | 0 => []
  | m + 1 => pB ys m ++ enc (diffN (nS ys m - lastN ys m)) ++ enc (diffN (eS ys m - lastE ys m))
structure StepIn (x : Int) : Prop where
  lo : -9007199254740992 ≤ x
  hi : x ≤ 9007199254740992
theorem nS_in {ys : List Nat} {n i : Nat} (hi : i < n) (h : ∀ i, i < n → vAt ys i = true) : StepIn (nS ys i) := by
  obtain ⟨an, _⟩ := valid_ab (h i hi)
  have := step_in (an.mono (by decide +kernel) (by decide +kernel))
  exact ⟨this.1, this.2⟩
theorem eS_in {ys : List Nat} {n i : Nat} (hi : i < n) (h : ∀ i, i < n → vAt ys i = true) : StepIn (eS ys i) := by
  obtain ⟨_, ae⟩ := valid_ab (h i hi)
  have := step_in ae
  unfold eS eastStep
  split
  · exact ⟨by omega, by omega⟩
  · exact ⟨this.1, this.2⟩
theorem lastN_in {ys : List Nat} {n i : Nat} (hi : i ≤ n) (h : ∀ i, i < n → vAt ys i = true) : StepIn (lastN ys i) := by
  cases i with
  | zero => exact ⟨by show (-9007199254740992 : Int) ≤ 0; decide, by show (0 : Int) ≤ 9007199254740992; decide⟩
  | succ i => exact nS_in (n := n) (by omega) h
theorem lastE_in {ys : List Nat} {n i : Nat} (hi : i ≤ n) (h : ∀ i, i < n → vAt ys i = true) : StepIn (lastE ys i) := by
  cases i with
  | zero => exact ⟨by show (-9007199254740992 : Int) ≤ 0; decide, by show (0 : Int) ≤ 9007199254740992; decide⟩
  | succ i => exact eS_in (n := n) (by omega) h
theorem diff8 {a b : Int} (ha : StepIn a) (hb : StepIn b) : (enc (diffN (a - b))).length ≤ 8 := by
  have h1 := ha.lo
  have h2 := ha.hi
  have h3 := hb.lo
  have h4 := hb.hi
  exact enc_8 (by unfold diffN; split <;> omega)
theorem pB_len {ys : List Nat} {n : Nat} (h : ∀ i, i < n → vAt ys i = true) : ∀ m, m ≤ n → (pB ys m).length ≤ 16 * m := by
  intro m
  induction m with
  | zero => intro _; simp [pB]
  | succ m ih =>
    intro hm
    have h1 := ih (by omega)
    have h2 := diff8 (nS_in (i := m) hm h) (lastN_in (i := m) (by omega) h)
    have h3 := diff8 (eS_in (i := m) hm h) (lastE_in (i := m) (by omega) h)
    unfold pB
    simp only [List.length_append]
    omega
set_option maxHeartbeats 4000000 in
theorem l07Pack_any {g n : Nat} {ys : List Nat} (w : World) (hr : FRow w (some ⟨g, 0, none⟩) ys) (hw : Wf ys) (hn : ys.length = 2 * n) (hl : n ≤ 64) (hv : ∀ i, i < n → vAt ys i = true) : Calls Try.prog 20 #[.slice (some ⟨g, 0, none⟩) n n] w (RS (.string (bytesOf (pB ys n))) w) := by
  have HR := Hf.mk hr
  have HW := Hf.mk hw
  have HN := Hf.mk hn
  have HV := Hf.mk hv
  clear hr hw hn hv
  go_enter Try.func20, Try.ntmps20
  go_wp2
  go_loopw [3, 4, 5, 13] (fun v a b i wr => ∃ m : Nat, m ≤ n ∧ a = .int .i64 (lastN ys m) ∧ b = .int .i64 (lastE ys m) ∧ i = .int .i64 m ∧ Hf (wr.ownsRow w.heap.size 5 1 v (pB ys m).length (us (pB ys m))) ∧ Hf (Below w.heap.size w wr)) (fun _ _ _ i _ => n - (intOf i).toNat)
  case atStart => exact ⟨0, by omega, rfl, rfl, rfl, ⟨World.ownsRow_made _ _ _ (Nat.le_refl _) (by unfold maxLen; omega) rfl⟩, ⟨(by repeat (first | exact Below.refl _ _ | with_reducible assumption | refine Below.drews ?_ | refine Below.drew ?_ | refine Below.alloc ?_ (by simp <;> omega) _ | refine Below.setCell ?_ (by simp <;> omega) _))⟩⟩
  case round =>
    obtain ⟨m, hm, rfl, rfl, rfl, hown, hbel⟩ := hrel
    by_cases hlt : m < n
    · obtain ⟨c0, c1⟩ := (HR.out.below hbel.out).twoAt HN.out hlt
      have KS := Hf.mk (fun w => sStepsOf_yes (flN HW.out HN.out hlt) (flE HW.out HN.out hlt) (HV.out m hlt) w)
      have a1 := nS_in hlt HV.out
      have a2 := eS_in hlt HV.out
      have a3 := lastN_in hm HV.out
      have a4 := lastE_in hm HV.out
      have hp := pB_len HV.out m hm
      have hq := diff8 a1 a3
      have hP := Hf.mk (show pB ys (m + 1) = pB ys m ++ enc (diffN (nS ys m - lastN ys m)) ++ enc (diffN (eS ys m - lastE ys m)) from rfl)
      have hLN := Hf.mk (show lastN ys (m + 1) = nS ys m from rfl)
      have hLE := Hf.mk (show lastE ys (m + 1) = eS ys m from rfl)
      obtain ⟨a1l, a1h⟩ := a1
      obtain ⟨a2l, a2h⟩ := a2
      obtain ⟨a3l, a3h⟩ := a3
      obtain ⟨a4l, a4h⟩ := a4
      rw [show stepC (nC ys m) = nS ys m from rfl, show eastStep (eC ys m) = eS ys m from rfl] at KS
      generalize nS ys m = N at *
      generalize eS ys m = E at *
      generalize lastN ys m = LN at *
      generalize lastE ys m = LE at *
      have sB := hbel.out.size
      have tk_a : True := trivial; have tk_b : True := trivial
      go_wp2_with (first
        | (go_at_call 29; refine (KS.out _).mono ?_; rintro e w1 ⟨rfl, b1⟩; have B1 := Hf.mk (Below.on hbel.out b1 hbel.out.size); have O1 := Hf.mk (kown_below hown.out b1); have s1 := b1.size; clear b1)
        | (go_at_call 32; clear tk_a; refine (l07Bytes_any (by omega) (by omega) (by omega) _ (by omega) O1.out).mono ?_; rintro e w2 ⟨v2, rfl, o2, b2⟩; have B2 := Hf.mk (B1.out.trans b2); have O2 := Hf.mk o2; have s2 := b2.size; clear o2 b2)
        | (go_at_call 32; clear tk_b; refine (l07Bytes_any (by omega) (by omega) (by rw [List.length_append]; omega) _ (by omega) O2.out).mono ?_; rintro e w3 ⟨v3, rfl, o3, b3⟩; have B3 := Hf.mk (B2.out.trans b3); have O3 := Hf.mk o3; clear o3 b3))
      go_roundw
      case rel => exact ⟨m + 1, by omega, by rw [hLN.out], by rw [hLE.out], i_ext2 (by omega), ⟨by rw [hP.out]; exact O3.out⟩, B3⟩
      case measure => simp [intOf]; omega
    · obtain rfl : m = n := by omega
      have kcv := conv_own hown.out
      go_wp2
      go_ret
      exact ⟨rfl, hbel.out⟩
abbrev stP (s : ByteArray) (ok : Bool) : Value := .tuple #[.string s, .bool ok]
def packS (ys : List Nat) (n : Nat) : ByteArray := if packB ys n = true then bytesOf (pB ys n) else ⟨#[]⟩
set_option maxHeartbeats 4000000 in
theorem iPack_yes {g n : Nat} {ys : List Nat} (w : World) (hr : FRow w (some ⟨g, 0, none⟩) ys) (hw : Wf ys) (hn : ys.length = 2 * n) (hl : n ≤ 1048576) (hb : packB ys n = true) : Calls Try.prog 13 #[.slice (some ⟨g, 0, none⟩) n n] w (RS (stP (bytesOf (pB ys n)) true) w) := by
  have HA := Hf.mk (iArePacked_any w hr hw hn hl)
  rw [hb] at HA
  obtain ⟨_, h64, hv⟩ := arePl_of (packB_of hb).1
  have HR := Hf.mk hr
  have HW := Hf.mk hw
  have HN := Hf.mk hn
  have HV := Hf.mk hv
  have B0 := Hb.mk (Below.refl w.heap.size w)
  clear hr hw hn hv hb
  go_enter Try.func13, Try.ntmps13
  go_wp2_with (first | (go_at_call 23; refine HA.out.mono ?_; rintro e w0 ⟨rfl, b0⟩; have Z0 := Hb.mk (Below.on (B := w.heap.size) (a := w) (by repeat (first | exact B0.out | refine Below.drews ?_ | refine Below.drew ?_ | refine Below.alloc ?_ (by have hq_ := B0.out.size; first | omega | (simp <;> omega)) _ | refine Below.setCell ?_ (by have hq_ := B0.out.size; first | omega | (simp <;> omega)) _)) b0 (by have hq_ := B0.out.size; first | omega | (simp <;> omega))); clear b0))
  go_loopw [4, 5, 6, 17] (fun v a b i wr => ∃ m : Nat, m ≤ n ∧ a = .int .i64 (lastN ys m) ∧ b = .int .i64 (lastE ys m) ∧ i = .int .i64 m ∧ Hf (wr.ownsRow w.heap.size 5 1 v (pB ys m).length (us (pB ys m))) ∧ Hf (Below w.heap.size w wr)) (fun _ _ _ i _ => n - (intOf i).toNat)
  case atStart => exact ⟨0, by omega, rfl, rfl, rfl, ⟨World.ownsRow_nil _ _ _ _⟩, ⟨Z0.out⟩⟩
  case round =>
    obtain ⟨m, hm, rfl, rfl, rfl, hown, hbel⟩ := hrel
    by_cases hlt : m < n
    · obtain ⟨c0, c1⟩ := (HR.out.below hbel.out).twoAt HN.out hlt
      have KS := Hf.mk (fun w => iStepsOf_yes (flN HW.out HN.out hlt) (flE HW.out HN.out hlt) (HV.out m hlt) w)
      have a1 := nS_in hlt HV.out
      have a2 := eS_in hlt HV.out
      have a3 := lastN_in hm HV.out
      have a4 := lastE_in hm HV.out
      have hp := pB_len HV.out m hm
      have hq := diff8 a1 a3
      have hP := Hf.mk (show pB ys (m + 1) = pB ys m ++ enc (diffN (nS ys m - lastN ys m)) ++ enc (diffN (eS ys m - lastE ys m)) from rfl)
      have hLN := Hf.mk (show lastN ys (m + 1) = nS ys m from rfl)
      have hLE := Hf.mk (show lastE ys (m + 1) = eS ys m from rfl)
      obtain ⟨a1l, a1h⟩ := a1
      obtain ⟨a2l, a2h⟩ := a2
      obtain ⟨a3l, a3h⟩ := a3
      obtain ⟨a4l, a4h⟩ := a4
      rw [show stepC (nC ys m) = nS ys m from rfl, show eastStep (eC ys m) = eS ys m from rfl] at KS
      generalize nS ys m = N at *
      generalize eS ys m = E at *
      generalize lastN ys m = LN at *
      generalize lastE ys m = LE at *
      have sB := hbel.out.size
      have tk_a : True := trivial; have tk_b : True := trivial
      go_wp2_with (first
        | (go_at_call 24; refine (KS.out _).mono ?_; rintro e w1 ⟨rfl, b1⟩; have B1 := Hf.mk (Below.on (B := w.heap.size) (a := w) (Below.alloc hbel.out hbel.out.size _) b1 (by simp; omega)); have O1 := Hf.mk (kown_below (kown_al hown.out _) b1); have s1 := b1.size; simp only [World.size_alloc] at s1; clear b1)
        | (go_at_call 25; clear tk_a; refine (withDiff_any (by omega) (by omega) (by omega) _ (by omega) O1.out).mono ?_; rintro e w2 ⟨v2, rfl, o2, b2⟩; have B2 := Hf.mk (B1.out.trans b2); have O2 := Hf.mk o2; have s2 := b2.size; clear o2 b2)
        | (go_at_call 25; clear tk_b; refine (withDiff_any (by omega) (by omega) (by rw [List.length_append]; omega) _ (by omega) O2.out).mono ?_; rintro e w3 ⟨v3, rfl, o3, b3⟩; have B3 := Hf.mk (B2.out.trans b3); have O3 := Hf.mk o3; clear o3 b3))
      go_roundw
      case rel => exact ⟨m + 1, by omega, by rw [hLN.out], by rw [hLE.out], i_ext2 (by omega), ⟨by rw [hP.out]; exact O3.out⟩, B3⟩
      case measure => simp [intOf]; omega
    · obtain rfl : m = n := by omega
      have kcv := conv_own hown.out
      go_wp2
      go_ret2
      exact ⟨rfl, hbel.out⟩
theorem iPack_no {g n : Nat} {ys : List Nat} (w : World) (hr : FRow w (some ⟨g, 0, none⟩) ys) (hw : Wf ys) (hn : ys.length = 2 * n) (hl : n ≤ 1048576) (hb : packB ys n = false) : Calls Try.prog 13 #[.slice (some ⟨g, 0, none⟩) n n] w (RS (stP ⟨#[]⟩ false) w) := by
  have HA := Hf.mk (iArePacked_any w hr hw hn hl)
  rw [hb] at HA
  have B0 := Hb.mk (Below.refl w.heap.size w)
  clear hr hw hn hb
  go_enter Try.func13, Try.ntmps13
  go_wp2_with (first | (go_at_call 23; refine HA.out.mono ?_; rintro e w0 ⟨rfl, b0⟩; have Z0 := Hb.mk (Below.on (B := w.heap.size) (a := w) (by repeat (first | exact B0.out | refine Below.drews ?_ | refine Below.drew ?_ | refine Below.alloc ?_ (by have hq_ := B0.out.size; first | omega | (simp <;> omega)) _ | refine Below.setCell ?_ (by have hq_ := B0.out.size; first | omega | (simp <;> omega)) _)) b0 (by have hq_ := B0.out.size; first | omega | (simp <;> omega))); clear b0))
  go_ret2
  exact ⟨rfl, (by repeat (first | exact Z0.out | refine Below.drews ?_ | refine Below.drew ?_ | refine Below.alloc ?_ (by have hq_ := Z0.out.size; first | omega | (simp <;> omega)) _ | refine Below.setCell ?_ (by have hq_ := Z0.out.size; first | omega | (simp <;> omega)) _))⟩
theorem iPackPlaces_any {g n : Nat} {ys : List Nat} (w : World) (hr : FRow w (some ⟨g, 0, none⟩) ys) (hw : Wf ys) (hn : ys.length = 2 * n) (hl : n ≤ 1048576) : Calls Try.prog 13 #[.slice (some ⟨g, 0, none⟩) n n] w (RS (stP (packS ys n) (packB ys n)) w) := by
  cases hb : packB ys n
  · rw [show packS ys n = ⟨#[]⟩ by unfold packS; rw [hb]; rfl]
    exact iPack_no w hr hw hn hl hb
  · rw [show packS ys n = bytesOf (pB ys n) by unfold packS; rw [hb]; rfl]
    exact iPack_yes w hr hw hn hl hb
end Go.Proofs.Ytmioclcipdifpaa
