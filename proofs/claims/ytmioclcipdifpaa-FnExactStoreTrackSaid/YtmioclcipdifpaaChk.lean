/-
  CheckOf, of the program and of its model, compute the same Lean function; its exact law. No condition.
-/
import Derived.Test.YtmioclcipdifpaaCn
namespace Go.Proofs.Ytmioclcipdifpaa
open Go Go.RowKit

/-- The check of the first bytes of a string. -/
def chkN (s : ByteArray) (c : Int) : Nat → Int
  | 0 => c
  | i + 1 => (877 * chkN s c i + ((s.data.toList.getD i 0).toNat : Int) + 163) % 65003
theorem chkN_in (s : ByteArray) {c : Int} (h0 : 0 ≤ c) (h1 : c < 65003) : ∀ n, 0 ≤ chkN s c n ∧ chkN s c n < 65003
  | 0 => ⟨h0, h1⟩
  | n + 1 => by unfold chkN; omega
theorem byte_at (s : ByteArray) (i : Nat) (h : i < s.size) : s[i]'h = s.data.toList.getD i 0 := by
  obtain ⟨⟨l⟩⟩ := s
  have hl : i < l.length := h
  simp only [List.getD, List.getElem?_eq_getElem hl, Option.getD_some]
  rfl
structure Hid (p : Prop) : Prop where
  out : p
theorem i_ext {a b : Int} {k : IntKind} (h : a = b) : Value.int k a = .int k b := by rw [h]
theorem chk_step (s : ByteArray) (c : Int) (m : Nat) (h : m < s.size) (h0 : 0 ≤ chkN s c m) (h1 : chkN s c m < 65003) :
    (wrap64 (wrap64 (877 * chkN s c m + wrap64 ((s[m]'h).toNat : Int)) + 163)).tmod 65003 = chkN s c (m + 1) := by
  rw [show chkN s c (m + 1) = (877 * chkN s c m + ((s.data.toList.getD m 0).toNat : Int) + 163) % 65003 from rfl, byte_at s m h]
  have hb : (s.data.toList.getD m 0).toNat < 256 := UInt8.toNat_lt _
  generalize (s.data.toList.getD m 0).toNat = b at hb ⊢
  generalize chkN s c m = n at h0 h1 ⊢
  have e1 : wrap64 (b : Int) = b := by unfold wrap64; omega
  rw [e1]
  have e2 : wrap64 (877 * n + (b : Int)) = 877 * n + b := by unfold wrap64; omega
  rw [e2]
  have e3 : wrap64 (877 * n + (b : Int) + 163) = 877 * n + b + 163 := by unfold wrap64; omega
  rw [e3, Int.tmod_eq_emod_of_nonneg (by omega)]
theorem l01Check_any (s : ByteArray) (hs : s.size ≤ 1048576) (c : Int) (h0 : 0 ≤ c) (h1 : c < 65003) (w : World) : Calls Try.prog 21 #[.int .i64 c, .string s] w (RI .i64 (chkN s c s.size) w) := by
  go_enter Try.func21, Try.ntmps21
  go_wp2
  go_loopw [0, 5] (fun a i wr => ∃ m : Nat, m ≤ s.size ∧ a = .int .i64 (chkN s c m) ∧ i = .int .i64 m ∧ Drew w wr) (fun _ i _ => s.size - (intOf i).toNat)
  case atStart => exact ⟨0, by omega, rfl, rfl, (by repeat (first | exact Drew.refl _ | refine Drew.more ?_))⟩
  case round =>
    obtain ⟨m, hm, rfl, rfl, q, rfl⟩ := hrel
    have hin := chkN_in s h0 h1 m
    have hin2 := chkN_in s h0 h1 (m + 1)
    by_cases hlt : m < s.size
    · go_wp2
      go_roundw
      case rel => 
        refine ⟨m + 1, by omega, ?_, i_ext (by omega), (by repeat (first | exact Drew.refl _ | refine Drew.more ?_))⟩
        exact i_ext (chk_step s c m hlt hin.1 hin.2)
      case measure => simp [intOf]; omega
    · go_wp2
      go_ret
      obtain rfl : m = s.size := by omega
      exact RI.any rfl (by repeat (first | exact Drew.refl _ | refine Drew.more ?_))
theorem iCheck_yes (s : ByteArray) (hs : s.size ≤ 1048576) (c : Int) (h0 : 0 ≤ c) (h1 : c < 65003) (w : World) : Calls Try.prog 16 #[.int .i64 c, .string s] w (RT (.tuple #[.int .i64 (chkN s c s.size), .bool true]) w) := by
  have c1 : ¬ c < 0 := by omega
  have c2 : ¬ 65003 ≤ c := by omega
  go_enter Try.func16, Try.ntmps16
  go_wp2
  go_loopw [6, 17] (fun a i wr => ∃ m : Nat, m ≤ s.size ∧ a = .int .i64 (chkN s c m) ∧ i = .int .i64 m ∧ Drew w wr) (fun _ i _ => s.size - (intOf i).toNat)
  case atStart => exact ⟨0, by omega, rfl, rfl, (by repeat (first | exact Drew.refl _ | refine Drew.more ?_))⟩
  case round =>
    obtain ⟨m, hm, rfl, rfl, q, rfl⟩ := hrel
    have hin := chkN_in s h0 h1 m
    have hin2 := chkN_in s h0 h1 (m + 1)
    by_cases hlt : m < s.size
    · go_wp2
      go_roundw
      case rel =>
        refine ⟨m + 1, by omega, ?_, i_ext (by omega), (by repeat (first | exact Drew.refl _ | refine Drew.more ?_))⟩
        exact i_ext (chk_step s c m hlt hin.1 hin.2)
      case measure => simp [intOf]; omega
    · go_wp2
      go_ret2
      obtain rfl : m = s.size := by omega
      exact RT.any (by repeat (first | exact Drew.refl _ | refine Drew.more ?_))
theorem iCheck_no (s : ByteArray) (c : Int) (h : c < 0 ∨ 65003 ≤ c) (w : World) : Calls Try.prog 16 #[.int .i64 c, .string s] w (RT (.tuple #[.int .i64 0, .bool false]) w) := by
  by_cases h0 : c < 0
  · clear h
    go_enter Try.func16, Try.ntmps16
    go_wp2
    go_ret2
    exact RT.any (by repeat (first | exact Drew.refl _ | refine Drew.more ?_))
  · have h1 : 65003 ≤ c := by omega
    clear h
    go_enter Try.func16, Try.ntmps16
    go_wp2
    go_ret2
    exact RT.any (by repeat (first | exact Drew.refl _ | refine Drew.more ?_))
end Go.Proofs.Ytmioclcipdifpaa
