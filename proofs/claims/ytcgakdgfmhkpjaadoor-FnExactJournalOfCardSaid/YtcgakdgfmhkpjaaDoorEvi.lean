/-
  SolveEven, of the program: its helpers. No premise beyond those named.
-/
import Derived.Test.YtcgakdgfmhkpjaaDoorEvs
import Derived.Test.YtcgakdgfmhkpjaaDoorTol
import Derived.Laws.AppendOwn
namespace Go.Proofs.YtcgakdgfmhkpjaaDoor
open Go Go.RowKit
set_option maxRecDepth 100000

theorem areF_any {g m k : Nat} {f : Nat → Nat} (w : World) (h : Told w g m f) (hl : m ≤ 1048576) : Calls Tryd.prog 87 #[.slice (some ⟨g, 0, none⟩) m k, .func (.func 88) #[] #[]] w (RB (finB m f) w) := by
  have H := Hf.mk h
  clear h
  go_enter Tryd.func87, Tryd.ntmps87
  go_wp2
  go_loopw [9] (fun i wr => ∃ d : Nat, d ≤ m ∧ i = .int .i64 d ∧ Hf (∀ j, j < d → fin .f32 (f j) = true) ∧ Drew w wr) (fun i _ => m - (intOf i).toNat)
  case atStart => exact ⟨0, by omega, rfl, ⟨fun j hj => absurd hj (Nat.not_lt_zero j)⟩, (by repeat (first | exact Drew.refl _ | refine Drew.more ?_))⟩
  case round =>
    obtain ⟨d, hd, rfl, ha, q, rfl⟩ := hrel
    by_cases hlt : d < m
    · obtain ⟨r, hc, hf⟩ := H.out d hlt
      cases hv : fin .f32 (f d)
      · have KR := Hf.mk (finB_no hlt hv)
        have HV := Hf.mk hv
        clear hv
        go_wp2_with (first | (go_at_call 88; refine (iIsFinite_any hf _).mono ?_; rw [HV.out]; rintro e w' ⟨rfl, n1, rfl⟩))
        go_ret
        rw [KR.out]
        exact RB.any rfl (by repeat (first | exact Drew.refl _ | refine Drew.more ?_))
      · have KS := Hf.mk (show ∀ j, j < d + 1 → fin .f32 (f j) = true from fun j hj => by
          by_cases he : j = d
          · rw [he]; exact hv
          · exact ha.out j (by omega))
        have HV := Hf.mk hv
        clear hv
        go_wp2_with (first | (go_at_call 88; refine (iIsFinite_any hf _).mono ?_; rw [HV.out]; rintro e w' ⟨rfl, n1, rfl⟩))
        go_roundw
        case rel => exact ⟨d + 1, by omega, i_ext2 (by omega), KS, (by repeat (first | exact Drew.refl _ | refine Drew.more ?_))⟩
        case measure => simp [intOf]; omega
    · obtain rfl : d = m := by omega
      have KR := Hf.mk (finB_yes ha.out)
      go_wp2
      go_ret
      rw [KR.out]
      exact RB.any rfl (by repeat (first | exact Drew.refl _ | refine Drew.more ?_))
theorem FRow.cellsF {w : World} {g : Nat} {ys : List Nat} (h : FRow w (some ⟨g, 0, none⟩) ys) : ∀ j u, (fls ys)[j]? = some u → w.cell? ((⟨g, 0, none⟩ : Addr).add j) = some u := by
  intro j u hu
  have hj : j < ys.length := by
    have := (List.getElem?_eq_some_iff.1 hu).1
    simpa [fls] using this
  obtain ⟨p, hp, hc⟩ := h j hj
  obtain rfl := Option.some.inj hp
  rw [hc, ← hu]
  simp [fls, List.getElem?_map, List.getElem?_eq_getElem hj]
theorem fls_one {xs : List Nat} : ∀ u ∈ fls xs, u.oneCell' = true := by
  intro u hu
  simp only [fls, List.mem_map] at hu
  obtain ⟨x, _, rfl⟩ := hu
  rfl
/-- a quotient of what a call yields and a float that is there, in every world -/
theorem fopQ (P : Program) {op : BinOp} (ha : arithOp op = true) (t : TypeId) {cx cy y : Nat} (hy : Fl .f32 cy y) :
    ∃ R N : Nat → World → Nat, (∀ x w, Fl .f32 cx x → (binOp op t (.float .f32 x) (.float .f32 y)).run P w = .ok (.float .f32 (R x w)) (w.drewN (N x w))) ∧ ∀ x w, Fl .f32 cx x → Fl .f32 (fop op .f32 cx cy) (R x w) := by
  have h : ∀ (x : Nat) (w : World), ∃ rn : Nat × Nat, Fl .f32 cx x → ((binOp op t (.float .f32 x) (.float .f32 y)).run P w = .ok (.float .f32 rn.1) (w.drewN rn.2) ∧ Fl .f32 (fop op .f32 cx cy) rn.1) := by
    intro x w
    by_cases hx : Fl .f32 cx x
    · obtain ⟨r, n, h1, h2⟩ := fop_run (P := P) w ha t hx hy
      exact ⟨(r, n), fun _ => ⟨h1, h2⟩⟩
    · exact ⟨(0, 0), fun h => absurd h hx⟩
  exact ⟨fun x w => (Classical.choose (h x w)).1, fun x w => (Classical.choose (h x w)).2, fun x w hx => (Classical.choose_spec (h x w) hx).1, fun x w hx => (Classical.choose_spec (h x w) hx).2⟩
theorem cell_off {W : World} {b j g q z : Nat} {v : Value} (h : b ≠ g) : ((W.drewN z).setCell ⟨g, q, none⟩ v).cell? ⟨b, j, none⟩ = W.cell? ⟨b, j, none⟩ := World.cell?_of_block (w := W) (Below.heap_setCell (W.drewN z) ⟨g, q, none⟩ v b h)
def RQ (T : TypeId) (ok : Bool) (n N : Nat) (M : Nat → Nat → Nat) (w : World) (e : Ending) (w' : World) : Prop :=
  (ok = true ∧ (∃ gr gs cap f, e = .returned (.tuple #[.slice (some ⟨gr, 0, none⟩) n n, .bool true]) ∧ (∀ j, j < n → w'.cell? ⟨gr, j, none⟩ = some (.slice (some ⟨gs, j * n, none⟩) n n)) ∧ Own w' w.heap.size T gs cap N f ∧ (∀ x y, x < n → y ≤ x → f (x * n + y) = M x y)) ∧ Below w.heap.size w w') ∨ (ok = false ∧ e = .returned (.tuple #[.slice none 0 0, .bool false]) ∧ Below w.heap.size w w')
end Go.Proofs.YtcgakdgfmhkpjaaDoor
