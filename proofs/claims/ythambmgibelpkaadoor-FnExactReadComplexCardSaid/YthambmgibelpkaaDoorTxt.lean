/-
Lists of whole numbers that come in: copied by a law, and opened. No premise.
The text of a list of words: what it is, and the model's l01List and l01Text over it.
-/
import Derived.Test.YthambmgibelpkaaDoorRow
import Derived.Test.YthambmgibelpkaaDoorOpn
import Derived.Test.YthambmgibelpkaaDoorDec
import Derived.Lib.Join
import Derived.Laws.Concat
namespace Go.Proofs.YthambmgibelpkaaDoor
open Go Go.RowKit Go.ChangeShapes
set_option maxRecDepth 100000

theorem irow_o1 {w : World} {base g n cap : Nat} {xs : List Int} {e : TypeId} (hn : n = xs.length) (h : w.ownsRow base e 1 (.slice (some ⟨g, 0, none⟩) n cap) n (ils xs)) : IRow w (some ⟨g, 0, none⟩) xs := irow_own (k := 1) (by omega) h
section
open Go.ChangeShapes Go.WideShapes Go.Deep Go.Joins
variable {H : Type} {enc : TypeId × Value → H} {P : Program} {w : World} {base : Nat} {spare : Nat → Bool} {held : Bool}
theorem open_irow1 {t e : TypeId} {fuel : Nat} {cs : List Value} {x : DataW H × List MemPlace} (ht : P.underlying t = some (.slice e)) (he : P.underlying e = some (.int .i64)) (hc : P.cellsOf e = 1)
    (h : DataW.trod enc P w base spare held fuel t cs = some x) :
    ∃ (a : Option Addr) (cap : Nat) (xs : List Int), cs = [.slice a xs.length cap] ∧ IRow w a xs ∧ Wi xs := by
  rcases DataW.trod_slice ht h with ⟨h0, _⟩ | ⟨a, len, cap, elems, rest, n, _, h0, _, _, _, _, hlen, hel, _, _⟩
  · exact ⟨none, 0, [], h0, fun i hi => absurd hi (Nat.not_lt_zero i), fun _ hn => by cases hn⟩
  · have each : ∀ i, i < len → ∃ b, w.cell? (a.add i) = some (.int .i64 b) ∧ (Lit.int .i64 b).wf = true := by
      intro i hi
      have hb := hel i hi
      rw [hc, Nat.mul_one, List.getElem?_eq_getElem (by omega : i < elems.length), Option.bind_eq_some_iff] at hb
      obtain ⟨cs', hcs, hy⟩ := hb
      obtain ⟨b, rfl, _, hw⟩ := DataW.trod_int he hy
      exact ⟨b, cell_of_cells?_one hcs, hw⟩
    refine ⟨some a, cap, (List.range len).map (fun i => intWord (w.cell? (a.add i))), by rw [h0]; simp, ?_, ?_⟩
    · intro i hi
      have hi' : i < len := by simpa using hi
      obtain ⟨b, hb, _⟩ := each i hi'
      refine ⟨a, rfl, ?_⟩
      rw [hb]
      simp [hi', hb, intWord]
    · intro m hm
      obtain ⟨i, hi, rfl⟩ := List.mem_map.1 hm
      obtain ⟨b, hb, hw⟩ := each i (List.mem_range.1 hi)
      rw [hb]; exact hw
end
end Go.Proofs.YthambmgibelpkaaDoor
namespace Go.Proofs.YthambmgibelpkaaDoor
open Go Go.RowKit
set_option maxRecDepth 100000

/-- The text of words. -/
def txtW (L : List (List UInt8)) : List UInt8 := if L = [] then [110, 111, 110, 101] else Lib.join L [44]
abbrev ofL (l : List UInt8) : ByteArray := ⟨l.toArray⟩
theorem ofL_size (l : List UInt8) : (ofL l).size = l.length := by simp [ByteArray.size]
theorem ofL_app (a b : List UInt8) : ofL a ++ ofL b = ofL (a ++ b) := ByteArray.mk_append_mk a b
theorem txtW_nil : txtW [] = [110, 111, 110, 101] := rfl
theorem txtW_yes {L : List (List UInt8)} (h : 0 < L.length) : txtW L = Lib.join L [44] := by
  unfold txtW
  rw [if_neg (by intro e; subst e; simp at h)]
theorem join_up {L : List (List UInt8)} {k : Nat} (h0 : 0 < k) (h : k < L.length) : Lib.join (L.take (k + 1)) [44] = Lib.join (L.take k) [44] ++ (44 :: L.getD k []) := by
  cases L with
  | nil => simp at h
  | cons x r =>
    obtain ⟨j, rfl⟩ : ∃ j, k = j + 1 := ⟨k - 1, by omega⟩
    have hj : j < r.length := by simpa using h
    rw [List.take_succ_cons, List.take_succ_cons, Lib.join_cons, Lib.join_cons, Lib.joinTail_take_succ [44] r j (r[j]) (List.getElem?_eq_getElem hj)]
    simp [List.getD, hj]
theorem join_first {L : List (List UInt8)} (h : 0 < L.length) : Lib.join (L.take 1) [44] = L.getD 0 [] := by
  cases L with
  | nil => simp at h
  | cons x r => simp [Lib.join_one]
theorem join_size {L : List (List UInt8)} {B : Nat} (hB : ∀ l ∈ L, l.length ≤ B) : ∀ k, k < L.length → (Lib.join (L.take (k + 1)) [44]).length ≤ (k + 1) * (B + 1) := by
  intro k
  induction k with
  | zero =>
    intro h
    rw [join_first h]
    have := hB _ (show L.getD 0 [] ∈ L by rw [List.getD, List.getElem?_eq_getElem h]; exact List.getElem_mem h)
    omega
  | succ k ih =>
    intro h
    rw [join_up (by omega) h, List.length_append]
    have h1 := ih (by omega)
    have h2 := hB _ (show L.getD (k + 1) [] ∈ L by rw [List.getD, List.getElem?_eq_getElem h]; exact List.getElem_mem h)
    rw [List.length_cons, Nat.add_mul (k + 1) 1]
    omega
/-- In range. -/
def inR (n : Int) : Bool := decide (-1000000000000000 ≤ n ∧ n ≤ 1000000000000000)
def liOk (xs : List Int) : Bool := xs.all inR && decide (xs.length ≤ 64)
/-- How far a list is in range. -/
def upR (xs : List Int) (m : Nat) : Prop := ∀ j, j < m → inR (xs.getD j 0) = true
theorem upR.up {xs : List Int} {m : Nat} (h : upR xs m) (h1 : inR (xs.getD m 0) = true) : upR xs (m + 1) := fun j hj => by
  by_cases e : j = m
  · subst e; exact h1
  · exact h j (by omega)
theorem liOk_yes {xs : List Int} (h : upR xs xs.length) : xs.all inR = true := by
  rw [List.all_eq_true]
  intro x hx
  obtain ⟨j, hj, rfl⟩ := List.mem_iff_getElem.1 hx
  have := h j hj
  rwa [List.getD, List.getElem?_eq_getElem hj] at this
theorem liOk_no {xs : List Int} {m : Nat} (hm : m < xs.length) (h : inR (xs.getD m 0) = false) : xs.all inR = false := by
  rw [Bool.eq_false_iff]
  intro e
  rw [List.all_eq_true] at e
  have := e _ (show xs.getD m 0 ∈ xs by rw [List.getD, List.getElem?_eq_getElem hm]; exact List.getElem_mem hm)
  rw [h] at this
  cases this
theorem inR_of {xs : List Int} (h : xs.all inR = true) {m : Nat} (hm : m < xs.length) : -1000000000000000 ≤ xs.getD m 0 ∧ xs.getD m 0 ≤ 1000000000000000 := by
  rw [List.all_eq_true] at h
  have := h _ (show xs.getD m 0 ∈ xs by rw [List.getD, List.getElem?_eq_getElem hm]; exact List.getElem_mem hm)
  unfold inR at this
  exact of_decide_eq_true this
/-- The words of a list of numbers. -/
def decW (xs : List Int) : List (List UInt8) := xs.map Lib.itoa
theorem decW_len (xs : List Int) : (decW xs).length = xs.length := by simp [decW]
theorem decW_at {xs : List Int} {m : Nat} (h : m < xs.length) : (decW xs).getD m [] = Lib.itoa (xs.getD m 0) := by
  unfold decW
  simp [List.getD, List.getElem?_map, List.getElem?_eq_getElem h]
theorem decW_size {xs : List Int} (h : xs.all inR = true) : ∀ l ∈ decW xs, l.length ≤ 21 := by
  intro l hl
  unfold decW at hl
  rw [List.mem_map] at hl
  obtain ⟨x, hx, rfl⟩ := hl
  have h1 := List.all_eq_true.1 h x hx
  unfold inR at h1
  have h2 := of_decide_eq_true h1
  exact Lib.itoa_length_le x (by omega) (by omega)
end Go.Proofs.YthambmgibelpkaaDoor
