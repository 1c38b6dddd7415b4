/-
RecoverJournal: what is recovered, as lists of bytes: lines, their check numbers, the entries that strings.Lines hands on.
-/
import Derived.Test.YtcgakdgfmhkpjaaDoorCoi
import Derived.Test.YtcgakdgfmhkpjaaDoorChk
import Derived.Test.YtcgakdgfmhkpjaaDoorTxt
import Derived.Lib.IndexMore
namespace Go.Proofs.YtcgakdgfmhkpjaaDoor
open Go Go.RowKit
set_option maxRecDepth 100000

/-- where the first space of a line lies, its length if it has none -/
def spW : List UInt8 → Nat
  | [] => 0
  | b :: l => if b = 32 then 0 else spW l + 1
theorem spW_eq : ∀ {l : List UInt8} {k : Nat}, k ≤ l.length → (∀ j, j < k → l[j]? ≠ some 32) → (k < l.length → l[k]? = some 32) → spW l = k := by
  intro l
  induction l with
  | nil => intro k hk _ _; simp at hk; simp [spW, hk]
  | cons b l ih =>
    intro k hk h1 h2
    cases k with
    | zero =>
      have := h2 (by simp)
      simp at this
      simp [spW, this]
    | succ k =>
      have hb : b ≠ 32 := fun e => h1 0 (by omega) (by simp [e])
      rw [spW, if_neg hb, ih (by simpa using hk) (fun j hj => by simpa using h1 (j + 1) (by omega)) (fun h => by simpa using h2 (by simpa using h))]
theorem spW_le : ∀ l : List UInt8, spW l ≤ l.length
  | [] => Nat.le_refl _
  | b :: l => by have := spW_le l; unfold spW; split <;> simp <;> omega
theorem spW_at : ∀ {l : List UInt8}, spW l < l.length → l[spW l]? = some 32 := by
  intro l
  induction l with
  | nil => intro h; simp at h
  | cons b l ih =>
    intro h
    unfold spW at h ⊢
    split
    · rename_i e; simp [e]
    · rename_i e; rw [if_neg e] at h; simpa using ih (by simpa using h)
theorem spW_min : ∀ {l : List UInt8} {j : Nat}, l[j]? = some 32 → spW l ≤ j := by
  intro l
  induction l with
  | nil => intro j h; simp at h
  | cons b l ih =>
    intro j h
    unfold spW
    split
    · omega
    · rename_i e
      cases j with
      | zero => simp at h; exact absurd h e
      | succ j => have := ih (j := j) (by simpa using h); omega
/-- what lies behind the first space -/
abbrev lnW (l : List UInt8) : List UInt8 := l.drop (spW l + 1)
theorem lnW_le (l : List UInt8) : (lnW l).length ≤ l.length := by simp
theorem spW_parts {l : List UInt8} (h : spW l < l.length) : l = l.take (spW l) ++ 32 :: lnW l := by
  have e := spW_at h
  rw [List.getElem?_eq_getElem h] at e
  have e2 := Option.some.inj e
  conv => lhs; rw [← List.take_append_drop (spW l) l]
  rw [List.drop_eq_getElem_cons h, e2]
theorem cut_sp (l : List UInt8) : (Lib.cut l [32]).2.1 = lnW l := by
  unfold Lib.cut
  rw [Lib.index_one]
  have hge := Lib.indexByte_ge l 32
  by_cases h : Lib.indexByte l 32 = -1
  · rw [if_neg (by omega)]
    have : spW l = l.length := spW_eq (Nat.le_refl _) (fun j _ => Lib.indexByte_none h j) (fun h => absurd h (Nat.lt_irrefl _))
    simp [lnW, this]
  · obtain ⟨i, hi⟩ : ∃ i : Nat, Lib.indexByte l 32 = i := ⟨(Lib.indexByte l 32).toNat, by omega⟩
    obtain ⟨h1, h2⟩ := Lib.indexByte_some hi
    have hl : i < l.length := (List.getElem?_eq_some_iff.1 h1).1
    have : spW l = i := spW_eq (by omega) h2 (fun _ => h1)
    rw [if_pos (by omega), hi]
    simp [lnW, this]
/-- the check number behind a line -/
def ckW (c : Int) (l : List UInt8) : Int := chkN (ofL (lnW l)) c (lnW l).length
theorem ckW_in {c : Int} (h0 : 0 ≤ c) (h1 : c < 65003) (l : List UInt8) : 0 ≤ ckW c l ∧ ckW c l < 65003 := chkN_in _ h0 h1 _
def gdW (c : Int) (l : List UInt8) : Bool := decide (spW l < l.length) && decide (l.take (spW l) = Lib.itoa (ckW c l))
def ckL (P : List (List UInt8)) : Int := P.foldl ckW 0
theorem ckL_snoc (P : List (List UInt8)) (l : List UInt8) : ckL (P ++ [l]) = ckW (ckL P) l := by simp [ckL]
theorem ckF_in : ∀ (P : List (List UInt8)) {c : Int}, 0 ≤ c → c < 65003 → 0 ≤ P.foldl ckW c ∧ P.foldl ckW c < 65003
  | [], _, h0, h1 => ⟨h0, h1⟩
  | l :: P, _, h0, h1 => ckF_in P (ckW_in h0 h1 l).1 (ckW_in h0 h1 l).2
theorem ckL_in (P : List (List UInt8)) : 0 ≤ ckL P ∧ ckL P < 65003 := ckF_in P (by decide) (by decide)
def cnL (P : List (List UInt8)) : Nat := (P.map fun l => l.length + 1).sum
theorem cnL_snoc (P : List (List UInt8)) (l : List UInt8) : cnL (P ++ [l]) = cnL P + (l.length + 1) := by simp [cnL]
theorem cnL_app (P R : List (List UInt8)) : cnL (P ++ R) = cnL P + cnL R := by simp [cnL]
/-- how many lines are recovered -/
def rcF (c : Int) : List (List UInt8) → Nat
  | [] => 0
  | l :: L => if gdW c l then rcF (ckW c l) L + 1 else 0
abbrev rcK (L : List (List UInt8)) : Nat := rcF 0 L
theorem rcF_eq : ∀ {L : List (List UInt8)} {c : Int} {k : Nat}, k ≤ L.length → (∀ j, j < k → gdW ((L.take j).foldl ckW c) (L.getD j []) = true) → (k < L.length → gdW ((L.take k).foldl ckW c) (L.getD k []) = false) → rcF c L = k := by
  intro L
  induction L with
  | nil => intro c k hk _ _; simp at hk; simp [rcF, hk]
  | cons l L ih =>
    intro c k hk h1 h2
    cases k with
    | zero =>
      have := h2 (by simp)
      simp at this
      simp [rcF, this]
    | succ k =>
      have h0 := h1 0 (by omega)
      simp at h0
      rw [rcF, if_pos h0, ih (c := ckW c l) (k := k) (by simpa using hk) (fun j hj => by simpa using h1 (j + 1) (by omega)) (fun h => by simpa using h2 (by simpa using h))]
theorem rcK_eq {L : List (List UInt8)} {k : Nat} (hk : k ≤ L.length) (h1 : ∀ j, j < k → gdW (ckL (L.take j)) (L.getD j []) = true) (h2 : k < L.length → gdW (ckL (L.take k)) (L.getD k []) = false) : rcK L = k := rcF_eq hk h1 h2
theorem take_up {L : List (List UInt8)} {k : Nat} (h : k < L.length) : L.take (k + 1) = L.take k ++ [L.getD k []] := by
  rw [List.take_succ_eq_append_getElem h]
  simp [List.getD, List.getElem?_eq_getElem h]
theorem cutL_sum (c : UInt8) : ∀ t : List UInt8, cnL (cutL c t) = t.length + 1 := by
  intro t
  induction t with
  | nil => rfl
  | cons b t ih =>
    rw [cutL]
    split
    · rw [show ([] :: cutL c t : List (List UInt8)) = [ [] ] ++ cutL c t from rfl, cnL_app, ih]; simp [cnL]; omega
    · cases hc : cutL c t with
      | nil => exact absurd hc (cutL_ne c t)
      | cons p ps =>
        rw [hc] at ih
        simp only [cnL, List.map_cons, List.sum_cons, List.length_cons] at ih ⊢
        omega
theorem cn_le {c : UInt8} {t : List UInt8} {L : List (List UInt8)} {r : List UInt8} (h : cutL c t = L ++ [r]) (k : Nat) : cnL (L.take k) ≤ t.length := by
  have h1 := cutL_sum c t
  rw [h, cnL_app] at h1
  have h2 : cnL L = cnL (L.take k) + cnL (L.drop k) := by rw [← cnL_app, List.take_append_drop]
  simp [cnL] at h1
  simp only [cnL] at h2 ⊢
  omega
theorem ln_len {c : UInt8} {t : List UInt8} {L : List (List UInt8)} {r : List UInt8} (h : cutL c t = L ++ [r]) : L.length ≤ t.length := by
  have h1 := cn_le h L.length
  rw [List.take_length] at h1
  have : ∀ P : List (List UInt8), P.length ≤ cnL P := by
    intro P
    induction P with
    | nil => simp [cnL]
    | cons l P ih => simp only [cnL, List.map_cons, List.sum_cons, List.length_cons] at ih ⊢; omega
  have := this L
  omega
theorem line_le {c : UInt8} {t : List UInt8} {L : List (List UInt8)} {r : List UInt8} (h : cutL c t = L ++ [r]) {k : Nat} (hk : k < L.length) : (L.getD k []).length + 1 ≤ t.length := by
  have h1 := cn_le h (k + 1)
  rw [take_up hk, cnL_snoc] at h1
  omega
/-- what is recovered of a text -/
def rjK (t : List UInt8) : Nat := rcK (cutL 10 t).dropLast
def rjM (t : List UInt8) : List (List UInt8) := ((cutL 10 t).dropLast.take (rjK t)).map lnW
def rjN (t : List UInt8) : Nat := cnL ((cutL 10 t).dropLast.take (rjK t))
theorem rj_of {t : List UInt8} {L : List (List UInt8)} {r : List UInt8} (h : cutL 10 t = L ++ [r]) : rjK t = rcK L ∧ rjM t = (L.take (rcK L)).map lnW ∧ rjN t = cnL (L.take (rcK L)) := by
  have e : (cutL 10 t).dropLast = L := by rw [h]; simp
  unfold rjM rjN rjK
  rw [e]
  exact ⟨rfl, rfl, rfl⟩
theorem rjN_le (t : List UInt8) : rjN t ≤ t.length := by
  obtain ⟨L, r, h, _⟩ := cut_split 10 t
  rw [(rj_of h).2.2]
  exact cn_le h _
theorem rjM_len (t : List UInt8) : (rjM t).length ≤ t.length := by
  obtain ⟨L, r, h, _⟩ := cut_split 10 t
  rw [(rj_of h).2.1]
  have := ln_len h
  simp
  omega
/-- the entries of a text: its lines with their newlines, and what is left behind them -/
def entM : List (List UInt8) → List (List UInt8)
  | [] => []
  | [r] => if r = [] then [] else [r]
  | l :: p :: ls => (l ++ [10]) :: entM (p :: ls)
def entL (t : List UInt8) : List (List UInt8) := entM (cutL 10 t)
theorem entM_app : ∀ (L : List (List UInt8)) (r : List UInt8), entM (L ++ [r]) = L.map (· ++ [10]) ++ (if r = [] then [] else [r])
  | [], r => by simp [entM]
  | [l], r => by simp [entM]
  | l :: p :: L, r => by have := entM_app (p :: L) r; simp [entM] at this ⊢; exact this
theorem entL_nil : entL [] = [] := rfl
theorem entL_no {l : List UInt8} (h0 : l ≠ []) (h : ∀ b, b ∈ l → b ≠ 10) : entL l = [l] := by
  unfold entL
  rw [cutL_no h]
  simp [entM, h0]
theorem entL_hit {p q : List UInt8} (h : ∀ b, b ∈ p → b ≠ 10) : entL (p ++ 10 :: q) = (p ++ [10]) :: entL q := by
  unfold entL
  rw [cutL_hit h]
  cases hc : cutL 10 q with
  | nil => exact absurd hc (cutL_ne 10 q)
  | cons a z => rfl
theorem entL_of {t : List UInt8} {L : List (List UInt8)} {r : List UInt8} (h : cutL 10 t = L ++ [r]) : entL t = L.map (· ++ [10]) ++ (if r = [] then [] else [r]) := by unfold entL; rw [h, entM_app]
theorem entL_len (t : List UInt8) : (entL t).length ≤ t.length := by
  obtain ⟨L, r, h, _⟩ := cut_split 10 t
  have h1 := cutL_sum 10 t
  rw [h, cnL_app] at h1
  have : ∀ P : List (List UInt8), P.length ≤ cnL P := by
    intro P
    induction P with
    | nil => simp [cnL]
    | cons l P ih => simp only [cnL, List.map_cons, List.sum_cons, List.length_cons] at ih ⊢; omega
  have := this L
  rw [entL_of h]
  simp [cnL] at h1
  simp only [cnL] at this
  by_cases hr : r = []
  · rw [if_pos hr]; simp; omega
  · rw [if_neg hr]
    have : 0 < r.length := List.length_pos_iff.2 hr
    simp
    omega
/-- an entry without its newline, and as it should be -/
abbrev trm (e : List UInt8) : List UInt8 := Lib.trimSuffix e [10]
def itL (c : Int) (l : List UInt8) : List UInt8 := Lib.itoa (ckW c l) ++ 32 :: lnW l ++ [10]
theorem trm_nl (l : List UInt8) : trm (l ++ [10]) = l := (trim_nl rfl).2
theorem trm_le (e : List UInt8) : (trm e).length ≤ e.length := by unfold trm Lib.trimSuffix; split <;> simp
theorem it_yes (c : Int) (l : List UInt8) : l ++ [10] = itL c l ↔ gdW c l = true := by
  unfold itL gdW
  rw [List.append_cancel_right_eq, Bool.and_eq_true, decide_eq_true_eq, decide_eq_true_eq]
  constructor
  · intro h
    have h32 : l[(Lib.itoa (ckW c l)).length]? = some 32 := by
      have e := congrArg (fun z : List UInt8 => z[(Lib.itoa (ckW c l)).length]?) h
      simpa using e
    have hm := spW_min h32
    have hl : (Lib.itoa (ckW c l)).length < l.length := (List.getElem?_eq_some_iff.1 h32).1
    have hs : spW l < l.length := by omega
    refine ⟨hs, ?_⟩
    have h2 := spW_parts hs
    have h3 : l.take (spW l) ++ 32 :: lnW l = Lib.itoa (ckW c l) ++ 32 :: lnW l := h2.symm.trans h
    exact List.append_cancel_right h3
  · rintro ⟨hs, h⟩
    have h2 := spW_parts hs
    rw [h] at h2
    exact h2
theorem it_ten (c : Int) (l : List UInt8) : (10 : UInt8) ∈ itL c l := by unfold itL; simp
/-- all entries are as they should be -/
def gdP (P : List (List UInt8)) : Prop := ∀ j, j < P.length → P.getD j [] = itL (ckL ((P.take j).map trm)) (trm (P.getD j []))
theorem gdP_nil : gdP [] := fun j h => by simp at h
theorem gdP_snoc {P : List (List UInt8)} {e : List UInt8} (h : gdP P) (he : e = itL (ckL (P.map trm)) (trm e)) : gdP (P ++ [e]) := by
  intro j hj
  simp at hj
  by_cases h1 : j < P.length
  · have := h j h1
    rw [show (P ++ [e]).getD j [] = P.getD j [] by simp [List.getD, List.getElem?_append_left h1], List.take_append_of_le_length (by omega)]
    exact this
  · obtain rfl : j = P.length := by omega
    rw [show (P ++ [e]).getD P.length [] = e by simp [List.getD], List.take_left]
    exact he
theorem map_trm (L : List (List UInt8)) : (L.map (· ++ [10])).map trm = L := by
  rw [List.map_map]
  conv => rhs; rw [← List.map_id L]
  refine List.map_congr_left fun l _ => trm_nl l
/-- good entries at the beginning of a text are its first lines -/
theorem gd_pre {t : List UInt8} {L : List (List UInt8)} {r : List UInt8} (hc : cutL 10 t = L ++ [r]) (hr : ∀ b, b ∈ r → b ≠ 10) {P : List (List UInt8)} (hp : P <+: entL t) (hg : gdP P) :
    P.length ≤ L.length ∧ P = (L.take P.length).map (· ++ [10]) := by
  rw [entL_of hc] at hp
  have h1 := List.prefix_iff_eq_take.1 hp
  have hle : P.length ≤ L.length := by
    apply Classical.byContradiction
    intro hn
    have hlen := hp.length_le
    have hr0 : r ≠ [] := by
      intro e
      rw [if_pos e] at hlen
      simp at hlen
      omega
    rw [if_neg hr0] at hlen h1
    simp at hlen
    have hk : P.length = L.length + 1 := by omega
    have hx : P.getD L.length [] = r := by
      rw [h1, hk]
      simp [List.getD]
    have := hg L.length (by omega)
    rw [hx] at this
    exact hr 10 (by rw [this]; exact it_ten _ _) rfl
  refine ⟨hle, ?_⟩
  rw [List.take_append_of_le_length (by simpa using hle)] at h1
  rw [List.map_take]
  exact h1
theorem gd_lines {L : List (List UInt8)} {k : Nat} (hk : k ≤ L.length) (hg : gdP ((L.take k).map (· ++ [10]))) : ∀ j, j < k → gdW (ckL (L.take j)) (L.getD j []) = true := by
  intro j hj
  have := hg j (by simp; omega)
  have e1 : ((L.take k).map (· ++ [10])).getD j [] = L.getD j [] ++ [10] := by
    simp [List.getD, hj, List.getElem?_eq_getElem (show j < L.length by omega)]
  rw [e1, trm_nl, ← List.map_take, map_trm, List.take_take, Nat.min_eq_left (by omega)] at this
  exact (it_yes _ _).1 this
/-- the lines of entries, how long they are -/
def lnP (P : List (List UInt8)) : List (List UInt8) := P.map fun e => lnW (trm e)
def cnP (P : List (List UInt8)) : Nat := (P.map List.length).sum
theorem lnP_snoc (P : List (List UInt8)) (e : List UInt8) : lnP (P ++ [e]) = lnP P ++ [lnW (trm e)] := by simp [lnP]
theorem cnP_snoc (P : List (List UInt8)) (e : List UInt8) : cnP (P ++ [e]) = cnP P + e.length := by simp [cnP]
theorem lnP_nl (L : List (List UInt8)) : lnP (L.map (· ++ [10])) = L.map lnW := by
  unfold lnP
  rw [List.map_map]
  refine List.map_congr_left fun l _ => ?_
  show lnW (trm (l ++ [10])) = lnW l
  rw [trm_nl]
theorem cnP_nl (L : List (List UInt8)) : cnP (L.map (· ++ [10])) = cnL L := by
  unfold cnP cnL
  rw [List.map_map]
  congr 1
  refine List.map_congr_left fun l _ => ?_
  simp
theorem cnP_le {P : List (List UInt8)} {B : Nat} (h : ∀ e ∈ P, e.length ≤ B) : cnP P ≤ P.length * B := by
  induction P with
  | nil => simp [cnP]
  | cons e P ih =>
    have h1 := ih fun x hx => h x (by simp [hx])
    have h2 := h e (by simp)
    simp only [cnP, List.map_cons, List.sum_cons, List.length_cons] at h1 ⊢
    rw [Nat.add_mul]
    omega
theorem last_no {t : List UInt8} {L : List (List UInt8)} {r : List UInt8} (h : cutL 10 t = L ++ [r]) : ∀ b, b ∈ r → b ≠ 10 := by
  have : ∀ (t : List UInt8) (wd : List UInt8), wd ∈ cutL 10 t → ∀ b, b ∈ wd → b ≠ 10 := by
    intro t
    induction t with
    | nil => intro wd h b hb; simp [cutL] at h; subst h; cases hb
    | cons x t ih =>
      intro wd h b hb
      rw [cutL] at h
      split at h
      · rcases List.mem_cons.1 h with rfl | h2
        · cases hb
        · exact ih wd h2 b hb
      · rename_i hx
        cases hc : cutL 10 t with
        | nil => exact absurd hc (cutL_ne 10 t)
        | cons p ps =>
          rw [hc] at h
          rcases List.mem_cons.1 h with rfl | h2
          · rcases List.mem_cons.1 hb with rfl | h3
            · exact hx
            · exact ih p (by rw [hc]; simp) b h3
          · exact ih wd (by rw [hc]; simp [h2]) b hb
  exact this t r (by rw [h]; simp)
/-- all entries have come and are good -/
theorem rj_done {t : List UInt8} (hg : gdP (entL t)) : rjM t = lnP (entL t) ∧ rjN t = cnP (entL t) := by
  obtain ⟨L, r, hc, _⟩ := cut_split 10 t
  obtain ⟨h1, h2⟩ := gd_pre hc (last_no hc) (List.prefix_refl _) hg
  have he := entL_of hc
  have hk : (entL t).length = L.length := by
    have := congrArg List.length he
    rw [List.length_append, List.length_map] at this
    omega
  rw [hk, List.take_length] at h2
  rw [h2] at hg ⊢
  have h3 : rcK L = L.length := rcK_eq (Nat.le_refl _) (gd_lines (Nat.le_refl _) (by rw [List.take_length]; exact hg)) (fun h => absurd h (Nat.lt_irrefl _))
  rw [(rj_of hc).2.1, (rj_of hc).2.2, h3, List.take_length, lnP_nl, cnP_nl]
  exact ⟨rfl, rfl⟩
/-- an entry has come that is not good -/
theorem rj_stop {t : List UInt8} {P : List (List UInt8)} {e : List UInt8} (hp : P ++ [e] <+: entL t) (hg : gdP P) (hb : e ≠ itL (ckL (P.map trm)) (trm e)) : rjM t = lnP P ∧ rjN t = cnP P := by
  obtain ⟨L, r, hc, _⟩ := cut_split 10 t
  obtain ⟨h1, h2⟩ := gd_pre hc (last_no hc) ((List.prefix_append P [e]).trans hp) hg
  obtain ⟨k, hk⟩ : ∃ k, k = P.length := ⟨_, rfl⟩
  rw [← hk] at h1 h2
  subst h2
  have hgl := gd_lines h1 hg
  have h3 : rcK L = k := by
    refine rcK_eq h1 hgl fun hlt => ?_
    have hx := List.prefix_iff_eq_take.1 hp
    rw [entL_of hc, List.take_append_of_le_length (by simp; omega)] at hx
    have hl : (((L.take k).map (· ++ [10])) ++ [e]).length = k + 1 := by simp; omega
    rw [hl, ← List.map_take, take_up hlt, List.map_append, List.map_cons, List.map_nil] at hx
    have he : e = L.getD k [] ++ [10] := by
      have := List.append_inj_right hx rfl
      simpa using this
    rw [map_trm, he, trm_nl] at hb
    cases hgw : gdW (ckL (L.take k)) (L.getD k []) with
    | false => rfl
    | true => exact absurd ((it_yes _ _).2 hgw) hb
  rw [(rj_of hc).2.1, (rj_of hc).2.2, h3, lnP_nl, cnP_nl]
  exact ⟨rfl, rfl⟩
end Go.Proofs.YtcgakdgfmhkpjaaDoor
