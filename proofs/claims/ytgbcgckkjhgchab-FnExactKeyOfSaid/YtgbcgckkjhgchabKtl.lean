/-
  The tile of a key, of the program and of its model; the exact law KeyTile. No condition.
-/
import Derived.Test.YtgbcgckkjhgchabKey
import Derived.Deep.QuietTactic
import Derived.BigQuiet
namespace Go.Proofs.Ytgbcgckkjhgchab
open Go Go.RowKit
set_option maxRecDepth 100000

def kx (s : ByteArray) : Nat → Nat
  | 0 => 0
  | m + 1 => 2 * kx s m + (byt s m - 48) % 2
def ky (s : ByteArray) : Nat → Nat
  | 0 => 0
  | m + 1 => 2 * ky s m + (byt s m - 48) / 2
theorem kx_lt (s : ByteArray) : ∀ m, kx s m < 2 ^ m := by
  intro m
  induction m with
  | zero => simp [kx]
  | succ m ih => unfold kx; rw [Nat.pow_succ]; omega
theorem ky_lt {s : ByteArray} : ∀ {m : Nat}, digs s m → ky s m < 2 ^ m := by
  intro m
  induction m with
  | zero => intro _; simp [ky]
  | succ m ih =>
    intro h
    have h1 := ih (fun j hj => h j (by omega))
    have h2 := h m (by omega)
    unfold digit4 at h2
    rw [decide_eq_true_eq] at h2
    unfold ky
    rw [Nat.pow_succ]
    omega
theorem two20 {m : Nat} (h : m ≤ 20) : 2 ^ m ≤ 1048576 := Nat.le_trans (Nat.pow_le_pow_right (by decide) h) (by decide)
/-- A digit, as the walk reckons it. -/
theorem dig_words {b : Nat} (h : digit4 b = true) : 48 ≤ b ∧ b ≤ 51 ∧ Int.tmod ((b : Int) - 48) 2 = (((b - 48) % 2 : Nat) : Int) ∧ Int.tdiv ((b : Int) - 48) 2 = (((b - 48) / 2 : Nat) : Int) := by
  unfold digit4 at h
  rw [decide_eq_true_eq] at h
  refine ⟨h.1, h.2, ?_, ?_⟩
  · rw [Int.tmod_eq_emod_of_nonneg (by omega)]; omega
  · rw [Int.tdiv_eq_ediv_of_nonneg (by omega)]; omega
abbrev xyT (x y : Int) (ok : Bool) : Value := .tuple #[.int .i64 x, .int .i64 y, .bool ok]
theorem At.ot {w : World} {b o b2 o2 : Nat} {v : Value} (h : At w ⟨b, o, none⟩ v) (hne : b ≠ b2 ∨ o ≠ o2) (u : Value) : At (w.setCell ⟨b2, o2, none⟩ u) ⟨b, o, none⟩ v := by
  refine ⟨?_, ?_, ?_⟩
  · rw [World.cell?_setCell_other _ _ _ _ (by intro e; injection e; omega)]; exact h.cell
  · rw [World.frozen?_setCell]; exact h.free
  · simpa using h.lt
theorem At.st {w : World} {p : Addr} {v : Value} (h : At w p v) (u : Value) : At (w.setCell p u) p u := by
  refine ⟨World.cell?_setCell_same _ _ _ h.cell, ?_, ?_⟩
  · rw [World.frozen?_setCell]; exact h.free
  · simpa using h.lt
theorem URow.ot {w : World} {g b o : Nat} {s : ByteArray} (h : URow w g s) (hne : g ≠ b) (u : Value) : URow (w.setCell ⟨b, o, none⟩ u) g s := by
  intro j hj
  rw [World.cell?_setCell_other _ _ _ _ (by intro e; injection e; omega)]
  exact h j hj
theorem l07Read_any {s : ByteArray} (hk : keyB s = true) (w : World) : Calls Try.prog 70 #[.string s] w (RT (.tuple #[.int .i64 (kx s s.size : Int), .int .i64 (ky s s.size : Int)]) w) := by
  obtain ⟨h20, hd⟩ := digs_of hk
  have HD := Hf.mk hd
  clear hd hk
  go_enter Try.func70, Try.ntmps70
  go_wp2
  go_loopw [4, 5, 6] (fun x y i wr => ∃ m : Nat, m ≤ s.size ∧ x = .int .i64 (kx s m : Int) ∧ y = .int .i64 (ky s m : Int) ∧ i = .int .i64 m ∧ Drew w wr) (fun _ _ i _ => s.size - (intOf i).toNat)
  case atStart => exact ⟨0, by omega, rfl, rfl, rfl, (by repeat (first | exact Drew.refl _ | refine Drew.more ?_))⟩
  case round =>
    obtain ⟨m, hm, rfl, rfl, rfl, q, rfl⟩ := hrel
    by_cases hlt : m < s.size
    · have hb := dig_words (HD.out m hlt)
      have hx := kx_lt s m
      have hy := ky_lt (s := s) (m := m) (fun j hj => HD.out j (by omega))
      have hp := two20 (m := m) (by omega)
      have hkx := Hf.mk (show kx s (m + 1) = 2 * kx s m + (byt s m - 48) % 2 from rfl)
      have hky := Hf.mk (show ky s (m + 1) = 2 * ky s m + (byt s m - 48) / 2 from rfl)
      rw [← byt_at s m hlt] at hb hkx hky
      obtain ⟨b1, b2, b3, b4⟩ := hb
      have hx' : kx s m < 1048576 := by omega
      have hy' : ky s m < 1048576 := by omega
      clear hp hx hy
      go_wp2
      go_roundw
      case rel => exact ⟨m + 1, by omega, i_ext2 (by rw [hkx.out]; omega), i_ext2 (by rw [hky.out]; omega), i_ext2 (by omega), (by repeat (first | exact Drew.refl _ | refine Drew.more ?_))⟩
      case measure => simp [intOf]; omega
    · obtain rfl : m = s.size := by omega
      go_wp2
      go_ret2
      exact RT.any (by repeat (first | exact Drew.refl _ | refine Drew.more ?_))
abbrev tl (z x y : Int) : Value := .agg #[.int .i64 z, .int .i64 x, .int .i64 y]
theorem tileOfKey_any {s : ByteArray} (hk : keyB s = true) (w : World) : Calls Try.prog 73 #[.string s] w (RS (tl (s.size : Int) (kx s s.size : Int) (ky s s.size : Int)) w) := by
  obtain ⟨h20, hd⟩ := digs_of hk
  have HD := Hf.mk hd
  clear hd hk
  have kc := fun w => run_bytes_of_string (P := Try.prog) w 9 111 5 s Try.underlying9 Try.underlying111 Try.underlying5
  go_enter Try.func73, Try.ntmps73
  go_wp2
  go_loopw [12] (fun i wr => ∃ m : Nat, m ≤ s.size ∧ i = .int .i64 m ∧ Hf (URow wr (w.heap.size + 2) s) ∧ Hf (At wr ⟨w.heap.size + 1, 0, none⟩ (.int .i64 s.size)) ∧ Hf (At wr ⟨w.heap.size + 1, 1, none⟩ (.int .i64 (kx s m : Int))) ∧ Hf (At wr ⟨w.heap.size + 1, 2, none⟩ (.int .i64 (ky s m : Int))) ∧ Hf (At wr ⟨w.heap.size, 0, none⟩ (.int .i64 0)) ∧ Hf (At wr ⟨w.heap.size, 1, none⟩ (.int .i64 0)) ∧ Hf (At wr ⟨w.heap.size, 2, none⟩ (.int .i64 0)) ∧ Hf (Below w.heap.size w wr)) (fun i _ => s.size - (intOf i).toNat)
  case atStart =>
    refine ⟨0, by omega, rfl, ⟨?_⟩, ⟨⟨by simp [go_sem], by simp [go_sem], by simp <;> omega⟩⟩, ⟨⟨by simp [go_sem, kx], by simp [go_sem], by simp <;> omega⟩⟩, ⟨⟨by simp [go_sem, ky], by simp [go_sem], by simp <;> omega⟩⟩, ⟨⟨by simp [go_sem], by simp [go_sem], by simp <;> omega⟩⟩, ⟨⟨by simp [go_sem], by simp [go_sem], by simp <;> omega⟩⟩, ⟨⟨by simp [go_sem], by simp [go_sem], by simp <;> omega⟩⟩, ⟨(by repeat (first | exact Below.refl _ _ | with_reducible assumption | refine Below.drews ?_ | refine Below.drew ?_ | refine Below.alloc ?_ (by simp <;> omega) _ | refine Below.setCell ?_ (by simp <;> omega) _))⟩⟩
    have h := urow_newd ((w.alloc (Obj.cells #[Value.int IntKind.i64 0, Value.int IntKind.i64 0, Value.int IntKind.i64 0] 98)).alloc (Obj.cells #[Value.int IntKind.i64 ↑s.size, Value.int IntKind.i64 0, Value.int IntKind.i64 0] 98)) s
    simp only [World.size_alloc] at h
    exact h _ _ _
  case round =>
    obtain ⟨m, hm, rfl, hu, ⟨hz⟩, ⟨hx⟩, ⟨hy⟩, ⟨hr0⟩, ⟨hr1⟩, ⟨hr2⟩, hbel⟩ := hrel
    obtain ⟨zc, zz, zl⟩ := hz
    obtain ⟨xc, xz, xl⟩ := hx
    obtain ⟨yc, yz, yl⟩ := hy
    obtain ⟨r0c, r0z, r0l⟩ := hr0
    obtain ⟨r1c, r1z, r1l⟩ := hr1
    obtain ⟨r2c, r2z, r2l⟩ := hr2
    by_cases hlt : m < s.size
    · have hc := hu.out m hlt
      have hb := dig_words (HD.out m hlt)
      have hx := kx_lt s m
      have hy := ky_lt (s := s) (m := m) (fun j hj => HD.out j (by omega))
      have hp := two20 (m := m) (by omega)
      have hkx := Hf.mk (show kx s (m + 1) = 2 * kx s m + (byt s m - 48) % 2 from rfl)
      have hky := Hf.mk (show ky s (m + 1) = 2 * ky s m + (byt s m - 48) / 2 from rfl)
      obtain ⟨b1, b2, b3, b4⟩ := hb
      have hx' : kx s m < 1048576 := by omega
      have hy' : ky s m < 1048576 := by omega
      clear hp hx hy
      generalize byt s m = b at *
      go_wp2
      go_roundw
      case rel =>
        have ex : (2 * (kx s m : Int) + ((b - 48 : Nat) : Int) % 2) = (kx s (m + 1) : Int) := by rw [hkx.out]; omega
        have ey : (2 * (ky s m : Int) + ((b - 48 : Nat) : Int) / 2) = (ky s (m + 1) : Int) := by rw [hky.out]; omega
        rw [ex, ey]
        exact ⟨m + 1, by omega, i_ext2 (by omega), ⟨(hu.out.ot (by omega) _).ot (by omega) _⟩, ⟨(At.ot ⟨zc, zz, zl⟩ (by omega) _).ot (by omega) _⟩, ⟨(At.st ⟨xc, xz, xl⟩ _).ot (by omega) _⟩, ⟨(At.ot ⟨yc, yz, yl⟩ (by omega) _).st _⟩, ⟨(At.ot ⟨r0c, r0z, r0l⟩ (by omega) _).ot (by omega) _⟩, ⟨(At.ot ⟨r1c, r1z, r1l⟩ (by omega) _).ot (by omega) _⟩, ⟨(At.ot ⟨r2c, r2z, r2l⟩ (by omega) _).ot (by omega) _⟩, ⟨(hbel.out.setCell (by simp) _).setCell (by simp) _⟩⟩
      case measure => simp [intOf]; omega
    · obtain rfl : m = s.size := by omega
      go_wp2
      exact bodyPost_ret (v := tl (s.size : Int) (kx s s.size : Int) (ky s s.size : Int)) (by simp [results, Try.results73, go_sem, r0c, r1c, r2c]) rfl ⟨rfl, ((hbel.out.setCell (by simp) _).setCell (by simp) _).setCell (by simp) _⟩
end Go.Proofs.Ytgbcgckkjhgchab
